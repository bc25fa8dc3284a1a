/- The walk of the law LexisTokens. Conditions: the source is no longer than a string can be. -/
import Derived.Test.YtcedigkknjioeaaRTok
import Derived.Test.YtcedigkknjioeaaCommentT
namespace Go.Proofs.Ytcedigkknjioeaa
open Go.RowKit Go.WideMaps Go.Maps

theorem rtokens_ok (s : ByteArray) (A : List Lx.Tok) (w : World) (hbig : s.size ≤ 12000) (hA : Lx.toksA s.data.toList 0 = (A, none)) :
    Calls Try.prog 10 #[.string s] w (TokOk (A ++ [(7, [], s.size)]) w) :=
  (rtokens_any s w hbig).mono fun e w' ⟨hb, h⟩ => by
    rw [hA] at h
    obtain ⟨v, rfl, hown⟩ := h
    obtain ⟨g, cap, rfl, h1, h2, h3⟩ := own_slice hown (by omega)
    have hl : (A ++ [((7 : Int), ([] : List UInt8), s.size)]).length = A.length + 1 := by simp
    refine ⟨g, cap, by rw [hl], h2, hb, fun j hj => ?_⟩
    have ht := tcells_at (A ++ [(7, [], s.size)]) j hj
    rw [hl] at hj
    exact ⟨(h3 (j * 3) (by omega)).trans ht.1, (h3 (j * 3 + 1) (by omega)).trans ht.2.1, (h3 (j * 3 + 2) (by omega)).trans ht.2.2⟩

theorem rtokens_bad (s : ByteArray) (w : World) (A : List Lx.Tok) (p : Nat) (hbig : s.size ≤ 12000) (hA : Lx.toksA s.data.toList 0 = (A, some p)) :
    Calls Try.prog 10 #[.string s] w fun e w' => e = .returned (.tuple #[.slice none 0 0, .int .i64 p, .int .i64 4]) ∧ Below w.heap.size w w' :=
  (rtokens_any s w hbig).mono fun e w' ⟨hb, h⟩ => by
    rw [hA] at h
    exact ⟨h, hb⟩

set_option maxHeartbeats 2000000 in
theorem rsameNil (b : Bool) (w : World) :
    Calls Try.prog 11 #[.slice none 0 0, .slice none 0 0, .bool b] w fun e w' => e = .returned (.bool true) ∧ Below w.heap.size w w' := by
  go_enter Try.func11, Try.ntmps11
  go_wp2_with fail
  go_loopw [15] (fun i wr => i = .int .i64 0 ∧ Below w.heap.size w wr) (fun i _ => 0)
  case atStart => exact ⟨rfl, Below.refl _ _⟩
  case round =>
    obtain ⟨rfl, hb⟩ := hrel
    go_wp2_with fail
    go_ret
    exact ⟨rfl, hb⟩

set_option maxRecDepth 100000 in
set_option maxHeartbeats 2000000 in
theorem tok_nil (s : ByteArray) (p : Int) (k : Int) (w : World)
    (h1 : ∀ w, Calls Try.prog 9 #[.string s] w fun e w' => e = .returned (.tuple #[.slice none 0 0, .int .i64 p, .int .i64 k]) ∧ Below w.heap.size w w')
    (h2 : ∀ w, Calls Try.prog 10 #[.string s] w fun e w' => e = .returned (.tuple #[.slice none 0 0, .int .i64 p, .int .i64 k]) ∧ Below w.heap.size w w') :
    Calls Try.prog 3 #[.string s] w fun e w' => e = .returned (.bool true) ∧ Below w.heap.size w w' := by
  have H1 := Lib.hid h1
  have H2 := Lib.hid h2
  clear h1 h2
  have q1 : (k == k) = true := by simp
  have q2 : (p == p) = true := by simp
  go_enter Try.func3, Try.ntmps3
  go_wp2_with fail
  refine (H1.out _).mono ?_
  rintro e w1 ⟨rfl, hb1⟩
  go_wp2_with fail
  refine (H2.out _).mono ?_
  rintro e w2 ⟨rfl, hb2⟩
  have hb3 := Lib.hid (hb1.trans (hb2.mono hb1.size))
  clear hb1 hb2
  go_wp2_with fail
  refine (rsameNil true _).mono ?_
  rintro e w3 ⟨rfl, hb4⟩
  have hb5 := Lib.hid (hb3.out.trans (hb4.mono hb3.out.size))
  clear hb4
  go_wp2_with fail
  refine (at_awake hb5.out).mono ?_
  rintro e w4 ⟨rfl, hb6⟩
  go_wp2_with fail
  go_ret
  exact ⟨rfl, hb6⟩

set_option maxRecDepth 100000 in
set_option maxHeartbeats 2000000 in
theorem tok_same (s : ByteArray) (T : List Lx.Tok) (n : Nat) (hn : n = T.length) (hn5 : n ≤ 20000) (w : World)
    (h1 : ∀ w, Calls Try.prog 9 #[.string s] w (TokOk T w)) (h2 : ∀ w, Calls Try.prog 10 #[.string s] w (TokOk T w)) :
    Calls Try.prog 3 #[.string s] w fun e w' => e = .returned (.bool true) ∧ Below w.heap.size w w' := by
  have H1 := Lib.hid h1
  have H2 := Lib.hid h2
  have HN := Lib.hid hn
  clear h1 h2 hn
  go_enter Try.func3, Try.ntmps3
  go_wp2_with fail
  refine (H1.out _).mono ?_
  rintro e w1 ⟨g, cap, rfl, hg, hb1, hc1⟩
  rw [← HN.out] at hc1 ⊢
  have C1 := Lib.hid hc1
  clear hc1
  go_wp2_with fail
  refine (H2.out _).mono ?_
  rintro e w2 ⟨g2, cap2, rfl, hg2, hb2, hc2⟩
  rw [← HN.out] at hc2 ⊢
  have hb3 := Lib.hid (hb1.trans (hb2.mono hb1.size))
  have hg3 : g < w2.heap.size := Nat.lt_of_lt_of_le hg hb2.size
  have HS := Lib.hid (rsameAt (kT T) (qT T) (fun j => pT T j) g g2 n cap cap2 w2 hn5 hg3 hg2
    (fun j hj => ⟨(hb2.cell (p := ⟨g, j * 3, none⟩) hg).trans (C1.out j hj).1, (hb2.cell (p := ⟨g, j * 3 + 1, none⟩) hg).trans (C1.out j hj).2.1, (hb2.cell (p := ⟨g, j * 3 + 2, none⟩) hg).trans (C1.out j hj).2.2⟩) hc2)
  clear hb1 hb2 hc2
  go_wp2_with fail
  refine HS.out.mono ?_
  rintro e w3 ⟨rfl, hb4⟩
  have hb5 := Lib.hid (hb3.out.trans (hb4.mono hb3.out.size))
  clear hb4
  go_wp2_with fail
  refine (at_awake hb5.out).mono ?_
  rintro e w4 ⟨rfl, hb6⟩
  go_wp2_with fail
  go_ret
  exact ⟨rfl, hb6⟩

theorem tok_walk (s : ByteArray) (hs : s.size ≤ 140737488351232) (w : World) :
    Calls Try.prog 3 #[.string s] w fun e w' => e = .returned (.bool true) ∧ Below w.heap.size w w' := by
  have hs' : s.size ≤ maxLen := by unfold maxLen; omega
  by_cases h : 12000 < s.size
  · exact tok_nil s 0 5 w (fun w => tokens_full s w hs' h) (fun w => rtokens_full s w hs' h)
  · rcases hA : Lx.toksA s.data.toList 0 with ⟨A, _ | p⟩
    · have hfew := Lx.toks_few A s.data.toList 0 (Nat.zero_le _) hA
      rw [Lx.size_list] at hfew
      exact tok_same s (A ++ [(7, [], s.size)]) (A.length + 1) (by simp) (by omega) w (fun w => tokens_ok s A w (by omega) hA) (fun w => rtokens_ok s A w (by omega) hA)
    · exact tok_nil s p 4 w (fun w => tokens_bad s w A p (by omega) hA) (fun w => rtokens_bad s w A p (by omega) hA)

end Go.Proofs.Ytcedigkknjioeaa
