/- The walk of the law LexisComment. Conditions: source and comment are within the reach. -/
import Derived.Test.YtcedigkknjioeaaInserted
import Derived.Test.YtcedigkknjioeaaSame
import Derived.StillTailTactics
namespace Go.Proofs.Ytcedigkknjioeaa
open Go.RowKit Go.WideMaps Go.Maps

def kT (T : List Lx.Tok) (j : Nat) : Int := ((T[j]?).getD (0, [], 0)).1
def qT (T : List Lx.Tok) (j : Nat) : ByteArray := ⟨((T[j]?).getD (0, [], 0)).2.1.toArray⟩
def pT (T : List Lx.Tok) (j : Nat) : Nat := ((T[j]?).getD (0, [], 0)).2.2

theorem tcells_at : ∀ (T : List Lx.Tok) (j : Nat), j < T.length →
    (Lx.tcells T)[j * 3]? = some (.int .i64 (kT T j)) ∧ (Lx.tcells T)[j * 3 + 1]? = some (.string (qT T j)) ∧ (Lx.tcells T)[j * 3 + 2]? = some (.int .i64 (pT T j))
  | t :: T, 0, _ => ⟨rfl, rfl, rfl⟩
  | t :: T, j + 1, h => by
    have ih := tcells_at T j (by simpa using h)
    have e : ∀ i, (Lx.tcells (t :: T))[i + 3]? = (Lx.tcells T)[i]? := fun i => rfl
    have e1 : (j + 1) * 3 = j * 3 + 3 := by omega
    rw [e1, e]
    rw [show j * 3 + 3 + 1 = j * 3 + 1 + 3 from by omega, e, show j * 3 + 3 + 2 = j * 3 + 2 + 3 from by omega, e]
    exact ih

/-- what Tokens leaves where there is no fault -/
def TokOk (T : List Lx.Tok) (w : World) (e : Ending) (w' : World) : Prop :=
  ∃ g cap, e = .returned (.tuple #[.slice (some ⟨g, 0, none⟩) T.length cap, .int .i64 0, .int .i64 0]) ∧ g < w'.heap.size ∧ Below w.heap.size w w' ∧
    ∀ j, j < T.length → w'.cell? ⟨g, j * 3, none⟩ = some (.int .i64 (kT T j)) ∧ w'.cell? ⟨g, j * 3 + 1, none⟩ = some (.string (qT T j)) ∧ w'.cell? ⟨g, j * 3 + 2, none⟩ = some (.int .i64 (pT T j))

theorem tokens_ok (s : ByteArray) (A : List Lx.Tok) (w : World) (hbig : s.size ≤ 12000) (hA : Lx.toksA s.data.toList 0 = (A, none)) :
    Calls Try.prog 9 #[.string s] w (TokOk (A ++ [(7, [], s.size)]) w) :=
  (tokens_any s w hbig).mono fun e w' ⟨hb, h⟩ => by
    rw [hA] at h
    obtain ⟨v, rfl, hown⟩ := h
    obtain ⟨g, cap, rfl, h1, h2, h3⟩ := own_slice hown (by omega)
    have hl : (A ++ [(7, [], s.size)]).length = A.length + 1 := by simp
    refine ⟨g, cap, by rw [hl], h2, hb, fun j hj => ?_⟩
    have ht := tcells_at (A ++ [(7, [], s.size)]) j hj
    rw [hl] at hj
    exact ⟨(h3 (j * 3) (by omega)).trans ht.1, (h3 (j * 3 + 1) (by omega)).trans ht.2.1, (h3 (j * 3 + 2) (by omega)).trans ht.2.2⟩

theorem tokens_bad (s : ByteArray) (w : World) (A : List Lx.Tok) (p : Nat) (hbig : s.size ≤ 12000) (hA : Lx.toksA s.data.toList 0 = (A, some p)) :
    Calls Try.prog 9 #[.string s] w fun e w' => e = .returned (.tuple #[.slice none 0 0, .int .i64 p, .int .i64 4]) ∧ Below w.heap.size w w' :=
  (tokens_any s w hbig).mono fun e w' ⟨hb, h⟩ => by
    rw [hA] at h
    exact ⟨h, hb⟩

theorem at_awake {w0 w : World} (h : Below w0.heap.size w0 w) : Calls Try.prog 12 #[] w fun e w' => e = .returned (.bool true) ∧ Below w0.heap.size w0 w' :=
  (awake_any w).mono fun _ _ ⟨h1, h2⟩ => ⟨h1, h.trans (h2.mono h.size)⟩

set_option maxRecDepth 100000 in
set_option maxHeartbeats 1000000 in
theorem comment_full (s c : ByteArray) (a : Int) (w : World) (hs : s.size ≤ 140737488351232) (hbig : 12000 < s.size) :
    Calls Try.prog 8 #[.string s, .int .i64 a, .string c] w fun e w' => e = .returned (.bool true) ∧ Below w.heap.size w w' := by
  have hs' : s.size ≤ maxLen := by unfold maxLen; omega
  go_enter Try.func8, Try.ntmps8
  go_wp2_with fail
  refine (tokens_full s _ hs' hbig).mono ?_
  rintro e w1 ⟨rfl, hb1⟩
  go_wp2_with fail
  refine (at_awake hb1).mono ?_
  rintro e w2 ⟨rfl, hb2⟩
  go_wp2_with fail
  go_ret
  exact ⟨rfl, hb2⟩

set_option maxRecDepth 100000 in
set_option maxHeartbeats 1000000 in
theorem comment_bad (s c : ByteArray) (a : Int) (w : World) (hs : s.size ≤ 12000) (A : List Lx.Tok) (p : Nat) (hA : Lx.toksA s.data.toList 0 = (A, some p)) :
    Calls Try.prog 8 #[.string s, .int .i64 a, .string c] w fun e w' => e = .returned (.bool true) ∧ Below w.heap.size w w' := by
  have HT := Lib.hid (tokens_bad s w A p hs hA)
  clear hA
  go_enter Try.func8, Try.ntmps8
  go_wp2_with fail
  refine HT.out.mono ?_
  rintro e w1 ⟨rfl, hb1⟩
  go_wp2_with fail
  refine (at_awake hb1).mono ?_
  rintro e w2 ⟨rfl, hb2⟩
  go_wp2_with fail
  go_ret
  exact ⟨rfl, hb2⟩

set_option maxRecDepth 100000 in
set_option maxHeartbeats 1000000 in
theorem comment_long (s c : ByteArray) (a : Int) (w : World) (hs : s.size ≤ 12000) (hc : c.size ≤ 140737488351232) (hsum : 11991 < s.size + c.size) (A : List Lx.Tok) (hA : Lx.toksA s.data.toList 0 = (A, none)) :
    Calls Try.prog 8 #[.string s, .int .i64 a, .string c] w fun e w' => e = .returned (.bool true) ∧ Below w.heap.size w w' := by
  have HT := Lib.hid (tokens_ok s A w hs hA)
  clear hA
  go_enter Try.func8, Try.ntmps8
  go_wp2_with fail
  refine HT.out.mono ?_
  rintro e w1 ⟨g, cap, rfl, hg, hb1, hcells⟩
  clear hcells
  go_wp2_with fail
  refine (at_awake hb1).mono ?_
  rintro e w2 ⟨rfl, hb2⟩
  go_wp2_with fail
  go_ret
  exact ⟨rfl, hb2⟩

theorem idx_of (a : Int) (n : Nat) (h1 : 1 ≤ n) (h2 : n ≤ 12001) : ∃ i : Nat, i < n ∧ wrap64 ((IntKind.u64.wrap a).tmod (n : Int)) = (i : Int) := by
  have h0 : 0 ≤ IntKind.u64.wrap a := by rw [IntKind.wrap_u64]; exact Int.emod_nonneg _ (by decide)
  have e : (IntKind.u64.wrap a).tmod (n : Int) = IntKind.u64.wrap a % (n : Int) := Int.tmod_eq_emod_of_nonneg h0
  have h3 := Int.emod_nonneg (IntKind.u64.wrap a) (b := (n : Int)) (by omega)
  have h4 := Int.emod_lt_of_pos (IntKind.u64.wrap a) (b := (n : Int)) (by omega)
  rw [e]
  generalize IntKind.u64.wrap a % (n : Int) = x at *
  refine ⟨x.toNat, by omega, ?_⟩
  unfold wrap64
  omega

set_option maxRecDepth 100000 in
set_option maxHeartbeats 1000000 in
theorem comment_quote (s c : ByteArray) (a : Int) (w : World) (hsum : s.size + c.size ≤ 11991) (T : List Lx.Tok) (n idx : Nat) (hn4 : 1 ≤ n) (hn5 : n ≤ 12001) (hn : n = T.length) (hi : idx < n)
    (hT : Calls Try.prog 9 #[.string s] w (TokOk T w)) (hidx : wrap64 ((IntKind.u64.wrap a).tmod (n : Int)) = (idx : Int)) (hp : pT T idx ≤ s.size) (h0 : 0 < idx) (hq : (qT T (idx - 1)).toList = [39]) :
    Calls Try.prog 8 #[.string s, .int .i64 a, .string c] w fun e w' => e = .returned (.bool true) ∧ Below w.heap.size w w' := by
  have HT := Lib.hid hT
  have HN := Lib.hid hn
  have hqq : ((qT T (idx - 1)).toList == [39]) = true := by rw [hq]; rfl
  clear hT hn hq
  go_enter Try.func8, Try.ntmps8
  go_wp2_with fail
  refine HT.out.mono ?_
  rintro e w1 ⟨g, cap, rfl, hg, hb1, hcells⟩
  rw [← HN.out] at hcells ⊢
  have c0 := (hcells idx hi).2.2
  have c1 := (hcells (idx - 1) (by omega)).2.1
  clear hcells
  generalize pT T idx = p at *
  generalize qT T (idx - 1) = q at *
  go_wp2_with fail
  refine (at_awake hb1).mono ?_
  rintro e w2 ⟨rfl, hb2⟩
  go_wp2_with fail
  go_ret
  exact ⟨rfl, hb2⟩

end Go.Proofs.Ytcedigkknjioeaa
