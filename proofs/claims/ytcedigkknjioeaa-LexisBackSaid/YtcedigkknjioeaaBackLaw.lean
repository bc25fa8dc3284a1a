/- The walk of the law LexisBack. Conditions: the source is no longer than a string can be. -/
import Derived.Test.YtcedigkknjioeaaBackT
import Derived.Test.YtcedigkknjioeaaSame
import Derived.Deep.QuietTactic
import Derived.BigQuiet
namespace Go.Proofs.Ytcedigkknjioeaa
open Go.RowKit Go.WideMaps Go.Maps

set_option maxRecDepth 100000 in
set_option maxHeartbeats 2000000 in
theorem back_bad (s : ByteArray) (p : Int) (w : World)
    (h1 : ∀ w, Calls Try.prog 9 #[.string s] w fun e w' => e = .returned (.tuple #[.slice none 0 0, .int .i64 p, .int .i64 4]) ∧ Below w.heap.size w w') :
    Calls Try.prog 7 #[.string s] w fun e w' => e = .returned (.bool true) ∧ Below w.heap.size w w' := by
  have H1 := Lib.hid h1
  clear h1
  go_enter Try.func7, Try.ntmps7
  go_wp2_with fail
  refine (H1.out _).mono ?_
  rintro e w1 ⟨rfl, hb1⟩
  go_wp2_with fail
  refine (at_awake hb1).mono ?_
  rintro e w4 ⟨rfl, hb6⟩
  go_wp2_with fail
  go_ret
  exact ⟨rfl, hb6⟩

set_option maxRecDepth 100000 in
set_option maxHeartbeats 2000000 in
theorem back_full (s : ByteArray) (w : World) (hs : s.size ≤ 140737488351232) (h : 12000 < s.size)
    (h1 : ∀ w, Calls Try.prog 9 #[.string s] w fun e w' => e = .returned (.tuple #[.slice none 0 0, .int .i64 0, .int .i64 5]) ∧ Below w.heap.size w w') :
    Calls Try.prog 7 #[.string s] w fun e w' => e = .returned (.bool true) ∧ Below w.heap.size w w' := by
  have H1 := Lib.hid h1
  clear h1
  have hd : decide ((12000 : Int) < (s.size : Int)) = true := decide_eq_true (by omega)
  go_enter Try.func7, Try.ntmps7
  go_wp2_with fail
  refine (H1.out _).mono ?_
  rintro e w1 ⟨rfl, hb1⟩
  go_wp2_with fail
  refine (at_awake hb1).mono ?_
  rintro e w4 ⟨rfl, hb6⟩
  go_wp2_with fail
  go_ret
  exact ⟨rfl, hb6⟩

theorem join_good (T : List Lx.Tok) (s : ByteArray) (g n cap : Nat) (w : World) (hn5 : n ≤ 12001) (hs : s.size ≤ 12000) (hbf : BF s T n) (J : List UInt8) (hJ : (jst (kT T) (qT T) n).1 = J) (hg : g < w.heap.size)
    (hc : ∀ j, j < n → w.cell? ⟨g, j * 3, none⟩ = some (.int .i64 (kT T j)) ∧ w.cell? ⟨g, j * 3 + 1, none⟩ = some (.string (qT T j)) ∧ w.cell? ⟨g, j * 3 + 2, none⟩ = some (.int .i64 (pT T j))) :
    Calls Try.prog 24 #[.slice (some ⟨g, 0, none⟩) n cap] w fun e w' => e = .returned (.tuple #[.string ⟨J.toArray⟩, .int .i64 0]) ∧ Below w.heap.size w w' :=
  (join_any (kT T) (qT T) (fun j => pT T j) g n cap w (by omega) hg (fun j hj => by have := hbf.fit j hj; unfold maxLen; omega) hc).mono fun e w' ⟨h1, h2, _⟩ => ⟨by rw [h2 hbf.ok, hJ], h1⟩

set_option maxRecDepth 100000 in
set_option maxHeartbeats 16000000 in
theorem back_go (s : ByteArray) (T : List Lx.Tok) (n : Nat) (w : World) (hn4 : 1 ≤ n) (hn5 : n ≤ 12001) (hn : n = T.length) (hs : s.size ≤ 12000) (hT : ∀ w, Calls Try.prog 9 #[.string s] w (TokOk T w)) (hbf : BF s T n)
    (J : List UInt8) (hJ : (jst (kT T) (qT T) n).1 = J) (JB : ByteArray) (hJB : JB = ⟨J.toArray⟩) (hJ2 : JB.size ≤ 1000000)
    (hbig : 12000 < JB.size → ∀ w, Calls Try.prog 9 #[.string JB] w fun e w' => e = .returned (.tuple #[.slice none 0 0, .int .i64 0, .int .i64 5]) ∧ Below w.heap.size w w')
    (hsmall : ¬ 12000 < JB.size → ∃ T2, n = List.length T2 ∧ (∀ w, Calls Try.prog 9 #[.string JB] w (TokOk T2 w)) ∧ ∀ j, j < n → kT T2 j = kT T j ∧ qT T2 j = qT T j) :
    Calls Try.prog 7 #[.string s] w fun e w' => e = .returned (.bool true) ∧ Below w.heap.size w w' := by
  have HT := Lib.hid hT
  have HN := Lib.hid hn
  have HF := Lib.hid hbf
  have HJ := Lib.hid hJ
  have HJB := Lib.hid hJB
  have HBIG := Lib.hid hbig
  have HSM := Lib.hid hsmall
  clear hT hn hbf hJ hJB hbig hsmall
  go_enter Try.func7, Try.ntmps7
  go_wp2_with fail
  refine (HT.out _).mono ?_
  rintro e w1 ⟨g, cap, rfl, hg, hb1, hcells⟩
  rw [← HN.out] at hcells ⊢
  have HC := Lib.hid hcells
  have HB1 := Lib.hid hb1
  clear hcells hb1
  go_wp2_with fail
  go_loopw [6, 44] (fun b i wr => ∃ j : Nat, j ≤ n ∧ i = .int .i64 j ∧ b = .int .i64 (befT T j) ∧ Below w1.heap.size w1 wr) (fun _ i _ => n - (intOf i).toNat)
  case atStart => exact ⟨0, Nat.zero_le _, rfl, rfl, Below.refl _ _⟩
  case round =>
    obtain ⟨j, hj, rfl, rfl, hb2⟩ := hrel
    have HB2 := Lib.hid hb2
    by_cases hlt : j < n
    · have c0 := (hb2.cell (p := ⟨g, j * 3, none⟩) hg).trans (HC.out j hlt).1
      have c1 := (hb2.cell (p := ⟨g, j * 3 + 1, none⟩) hg).trans (HC.out j hlt).2.1
      have c2 := (hb2.cell (p := ⟨g, j * 3 + 2, none⟩) hg).trans (HC.out j hlt).2.2
      have f1 := HF.out.pos j hlt
      have f2 := HF.out.fit j hlt
      have f3 := HF.out.txt j hlt
      have hbe : befT T (j + 1) = pT T j + (qT T j).size := rfl
      have HBE := Lib.hid hbe
      clear hb2 hbe
      have HM := Lib.hid (HF.out.mid j)
      by_cases hlast : j = n - 1
      · have hl := HF.out.last
        rw [← hlast] at hl
        obtain ⟨l1, l2, l3⟩ := hl
        rw [l1] at c0
        rw [l2] at c1 f2 f3
        rw [l3] at c2 f1 f2 f3
        rw [l2, l3] at HBE
        generalize befT T j = b at *
        have q1 : decide (s.size < b) = false := decide_eq_false (by omega)
        have hw : IntKind.i64.wrap ((n : Int) - 1) = (n : Int) - 1 := by rw [IntKind.wrap_i64]; omega
        have q4 : ((j : Int) == (n : Int) - 1) = true := by simp; omega
        clear hlast
        go_wp2_with fail
        obtain ⟨d0, d1, d2⟩ := tok_box wr 7 ⟨#[]⟩ s.size
        obtain ⟨w2, hw2⟩ : ∃ w2, w2 = wr.alloc (Obj.cells #[Value.int IntKind.i64 7, Value.string ⟨#[]⟩, Value.int IntKind.i64 s.size] 45) := ⟨_, rfl⟩
        have HB3 : Hid (Below w1.heap.size w1 w2) := Lib.hid (by rw [hw2]; exact HB2.out.alloc HB2.out.size _)
        rw [← hw2] at d0 d1 d2 ⊢
        clear hw2 c0 c1 c2
        go_quiet (fail)
        go_wp2_with fail
        go_roundw
        case rel => exact ⟨j + 1, by omega, by go_num, by rw [HBE.out]; rfl, below_drewN HB3.out _⟩
        case measure => simp [intOf]; omega
      · obtain ⟨m1, m2⟩ := HM.out (by omega)
        generalize kT T j = k at *
        generalize qT T j = q at *
        generalize pT T j = p at *
        generalize befT T j = b at *
        have q1 : decide (p < b) = false := decide_eq_false (by omega)
        have hw : IntKind.i64.wrap ((n : Int) - 1) = (n : Int) - 1 := by rw [IntKind.wrap_i64]; omega
        obtain ⟨E, hE⟩ : ∃ E : Nat, E = p + q.size := ⟨_, rfl⟩
        have hE2 : (p : Int) + (q.size : Int) = (E : Int) := by omega
        have q2 : decide (s.size < E) = false := decide_eq_false (by omega)
        have i3 : p ≤ E := by omega
        have i4 : E ≤ s.size := by omega
        have q3 : (k == 7) = false := by simpa using m1
        have q4 : ((j : Int) == (n : Int) - 1) = false := by simp; omega
        have q5 : (q.toList == []) = false := by
          rw [toList_nil]
          cases hq : q.data.toList with
          | nil => have h := Lx.size_list q; rw [hq] at h; simp at h; omega
          | cons c r => rfl
        have q6 : ((s.extract p E).toList == q.toList) = true := by rw [hE, f3]; simp
        have hE3 : wrap64 ((p : Int) + (q.size : Int)) = (E : Int) := by rw [hE2]; unfold wrap64; omega
        have HE2 := Lib.hid hE3
        clear hE3
        rw [← hE] at f2 f3
        have HBE2 : Hid (befT T (j + 1) = E) := Lib.hid (by rw [HBE.out, ← hE])
        clear hE hE2 f2 f3 m1 m2
        go_wp2_with fail
        rw [HE2.out]
        obtain ⟨d0, d1, d2⟩ := tok_box wr k q p
        obtain ⟨w2, hw2⟩ : ∃ w2, w2 = wr.alloc (Obj.cells #[Value.int IntKind.i64 k, Value.string q, Value.int IntKind.i64 p] 45) := ⟨_, rfl⟩
        have HB3 : Hid (Below w1.heap.size w1 w2) := Lib.hid (by rw [hw2]; exact HB2.out.alloc HB2.out.size _)
        rw [← hw2] at d0 d1 d2 ⊢
        clear hw2 c0 c1 c2
        go_quiet (fail)
        go_wp2_with fail
        go_roundw
        case rel => exact ⟨j + 1, by omega, by go_num, by rw [HBE2.out], below_drewN HB3.out _⟩
        case measure => simp [intOf]; omega
    · have e : j = n := by omega
      subst e
      have HCR := Lib.hid (fun i (hi : i < j) => (⟨(hb2.cell (p := ⟨g, i * 3, none⟩) hg).trans (HC.out i hi).1, (hb2.cell (p := ⟨g, i * 3 + 1, none⟩) hg).trans (HC.out i hi).2.1, (hb2.cell (p := ⟨g, i * 3 + 2, none⟩) hg).trans (HC.out i hi).2.2⟩ : wr.cell? ⟨g, i * 3, none⟩ = some (.int .i64 (kT T i)) ∧ wr.cell? ⟨g, i * 3 + 1, none⟩ = some (.string (qT T i)) ∧ wr.cell? ⟨g, i * 3 + 2, none⟩ = some (.int .i64 (pT T i))))
      have hgr : g < wr.heap.size := Nat.lt_of_lt_of_le hg hb2.size
      have HJN := Lib.hid (join_good T s g j cap wr hn5 hs HF.out J HJ.out hgr HCR.out)
      rw [← HJB.out] at HJN
      have HWR : Hid (Below w.heap.size w wr) := Lib.hid (HB1.out.trans (hb2.mono HB1.out.size))
      clear hb2
      go_wp2_with fail
      refine HJN.out.mono ?_
      rintro e w2 ⟨rfl, hb3⟩
      have cl := (hb3.cell (p := ⟨g, (j - 1) * 3 + 2, none⟩) hgr).trans (HCR.out (j - 1) (by omega)).2.2
      rw [HF.out.last.2.2] at cl
      have HC2 := Lib.hid (fun i (hi : i < j) => (⟨(hb3.cell (p := ⟨g, i * 3, none⟩) hgr).trans (HCR.out i hi).1, (hb3.cell (p := ⟨g, i * 3 + 1, none⟩) hgr).trans (HCR.out i hi).2.1⟩ : w2.cell? ⟨g, i * 3, none⟩ = some (.int .i64 (kT T i)) ∧ w2.cell? ⟨g, i * 3 + 1, none⟩ = some (.string (qT T i))))
      have hg2 : g < w2.heap.size := Nat.lt_of_lt_of_le hgr hb3.size
      have HW2 : Hid (Below w.heap.size w w2) := Lib.hid (HWR.out.trans (hb3.mono HWR.out.size))
      clear hb3
      by_cases hjb : 12000 < JB.size
      · have H9 := Lib.hid (HBIG.out hjb)
        go_wp2_with fail
        refine (H9.out _).mono ?_
        rintro e w3 ⟨rfl, hb4⟩
        have HW3 : Hid (Below w.heap.size w w3) := Lib.hid (HW2.out.trans (hb4.mono HW2.out.size))
        clear hb4
        go_wp2_with fail
        refine (at_awake HW3.out).mono ?_
        rintro e w4 ⟨rfl, hb6⟩
        go_wp2_with fail
        go_ret
        exact ⟨rfl, hb6⟩
      · obtain ⟨T2, hl2, h9, hkq⟩ := HSM.out hjb
        have H9 := Lib.hid h9
        have HL2 := Lib.hid hl2
        have HKQ := Lib.hid hkq
        clear h9 hl2 hkq
        go_wp2_with fail
        refine (H9.out _).mono ?_
        rintro e w3 ⟨g2, cap2, rfl, hg3, hb4, hc3⟩
        rw [← HL2.out] at hc3 ⊢
        have HW3 : Hid (Below w.heap.size w w3) := Lib.hid (HW2.out.trans (hb4.mono HW2.out.size))
        have HS := Lib.hid (rsameNo (kT T) (qT T) g g2 j cap cap2 w3 (by omega) (Nat.lt_of_lt_of_le hg2 hb4.size) hg3
          (fun i hi => ⟨(hb4.cell (p := ⟨g, i * 3, none⟩) hg2).trans (HC2.out i hi).1, (hb4.cell (p := ⟨g, i * 3 + 1, none⟩) hg2).trans (HC2.out i hi).2⟩)
          (fun i hi => by have h := hc3 i hi; rw [(HKQ.out i hi).1, (HKQ.out i hi).2] at h; exact ⟨h.1, h.2.1⟩))
        clear hb4 hc3
        go_wp2_with fail
        refine HS.out.mono ?_
        rintro e w4 ⟨rfl, hb5⟩
        have HW4 : Hid (Below w.heap.size w w4) := Lib.hid (HW3.out.trans (hb5.mono HW3.out.size))
        clear hb5
        go_wp2_with fail
        refine (at_awake HW4.out).mono ?_
        rintro e w5 ⟨rfl, hb6⟩
        go_wp2_with fail
        go_ret
        exact ⟨rfl, hb6⟩

end Go.Proofs.Ytcedigkknjioeaa
