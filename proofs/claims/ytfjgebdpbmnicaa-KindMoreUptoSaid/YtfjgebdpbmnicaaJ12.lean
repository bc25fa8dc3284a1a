/- What the closure of shift does with a leaf. Conditions: its variables lie in memory. -/
import Derived.Test.YtfjgebdpbmnicaaJ07
import Derived.Test.YtfjgebdpbmnicaaJ11
namespace Go.Proofs.Ytfjgebdpbmnicaa
open Go.RowKit

namespace Ty
theorem grown_setCell {a b : World} {m : Option Nat} {B o : Nat} (h : a.grownBy b m) (hB : a.heap.size ≤ B ∨ m = some B) (v : Value) : a.grownBy (b.setCell ⟨B, o, none⟩ v) m :=
  ⟨h.os, h.tape, h.output, by have := h.size; simpa [World.setCell] using this, fun j hj hne => (Below.heap_setCell _ _ _ _ (by
    intro e
    have e' : j = B := e
    rcases hB with hB | hB
    · omega
    · exact hne (by rw [e', hB]))).trans (h.block j hj hne)⟩

/-- what is done with a leaf when a type is shifted -/
def shF (d f : Int) (t : Ty) (k : Nat) (st : Bool) : Ty × Bool :=
  if t.op = 1 ∧ (k : Int) + f ≤ t.n then (.mk 1 (t.n + d) t.s [], st && decide ((k : Int) + f ≤ t.n + d)) else (t, st)
/-- the variables of the closure -/
structure ShI (B1 B2 B3 : Nat) (d f : Int) (w : World) (st : Bool) : Prop where
  f : w.heap[B1]? = some (.cells #[.int .i64 f] 3 (0, 0))
  d : w.heap[B2]? = some (.cells #[.int .i64 d] 3 (0, 0))
  kept : w.heap[B3]? = some (.cells #[.bool st] 4 (0, 0))
theorem ShI.next {B1 B2 B3 base : Nat} {d f : Int} {w w' : World} {st : Bool} (h : ShI B1 B2 B3 d f w st) (h1 : B1 < base) (h2 : B2 < base) (h3 : B3 < base) (hb : Below base w w') : ShI B1 B2 B3 d f w' st :=
  ⟨(hb.block _ h1).trans h.f, (hb.block _ h2).trans h.d, (hb.block _ h3).trans h.kept⟩
theorem one_cell {w : World} {B : Nat} {v : Value} {t : TypeId} (h : w.heap[B]? = some (.cells #[v] t (0, 0))) : w.cell? ⟨B, 0, none⟩ = some v := cell_of_row w B 0 _ t (0, 0) h
theorem one_frozen {w : World} {B : Nat} {v : Value} {t : TypeId} (h : w.heap[B]? = some (.cells #[v] t (0, 0))) : w.frozen? ⟨B, 0, none⟩ = false := by
  unfold World.frozen?
  rw [show w.heap[(⟨B, 0, none⟩ : Addr).block]? = _ from h]
  simp
theorem one_other {w : World} {B C o : Nat} {v : Value} {x : Obj} (h : w.heap[C]? = some x) (hne : C ≠ B) : (w.setCell ⟨B, o, none⟩ v).heap[C]? = some x := (Below.heap_setCell _ _ _ _ hne).trans h
theorem one_same {w : World} {B : Nat} {u v : Value} {t : TypeId} (h : w.heap[B]? = some (.cells #[u] t (0, 0))) : (w.setCell ⟨B, 0, none⟩ v).heap[B]? = some (.cells #[v] t (0, 0)) := by
  simp [World.setCell, Array.getElem?_modify, h]

section
variable {B1 B2 B3 : Nat} {d f : Int}

set_option maxHeartbeats 4000000 in
theorem shl_no (W : World) (op n : Int) (na : ByteArray) (k : Nat) (st : Bool) (hi : ShI B1 B2 B3 d f W st) (hf : 0 ≤ f ∧ f ≤ 9999) (hk : k ≤ 1000000) (hno : ¬ (op = 1 ∧ (k : Int) + f ≤ n)) :
    Calls Try.prog 81 #[.agg #[.int .i64 op, .int .i64 n, .string na, .slice none 0 0], .int .i64 k, .pointer (some ⟨B1, 0, none⟩), .pointer (some ⟨B2, 0, none⟩), .pointer (some ⟨B3, 0, none⟩)] W fun e w' => e = .returned (.agg #[.int .i64 op, .int .i64 n, .string na, .slice none 0 0]) ∧ Below W.heap.size W w' := by
  obtain ⟨ht5, ht7⟩ := two_boxes W (.int .i64 op) (.int .i64 n) (.string na) (.slice none 0 0) (.int .i64 0) (.int .i64 0) (.string ⟨#[]⟩) (.slice none 0 0)
  have hb2 : Below W.heap.size W ((W.alloc (Obj.cells #[.int .i64 op, .int .i64 n, .string na, .slice none 0 0] 36)).alloc (Obj.cells #[.int .i64 0, .int .i64 0, .string ⟨#[]⟩, .slice none 0 0] 36)) := below_two W _ _
  have b1 := keeps hb2 _ _ (one_cell hi.f)
  obtain ⟨c0, c1, c2, c3⟩ := ht5.cells
  obtain ⟨z0, z1, z2, z3⟩ := ht7.cells
  have f0 := ht7.frozen 0
  have f1 := ht7.frozen 1
  have f2 := ht7.frozen 2
  have f3 := ht7.frozen 3
  have HB := Lib.hid hb2
  have HT7 := Lib.hid ht7
  have HNO := Lib.hid hno
  clear hi ht5 ht7 hb2 hno
  by_cases h1 : op = 1
  · have q1 : (op == 1) = true := by simpa using h1
    have q2 : decide ((k : Int) + f ≤ n) = false := decide_eq_false (fun h => HNO.out ⟨h1, h⟩)
    clear h1
    go_enter Try.func81, Try.ntmps81
    go_upto_region 1 with fail
    obtain ⟨W2, hW2⟩ : ∃ W2, W2 = (W.alloc (Obj.cells #[.int .i64 op, .int .i64 n, .string na, .slice none 0 0] 36)).alloc (Obj.cells #[.int .i64 0, .int .i64 0, .string ⟨#[]⟩, .slice none 0 0] 36) := ⟨_, rfl⟩
    rw [← hW2] at b1 c0 c1 c2 c3 z0 z1 z2 z3 f0 f1 f2 f3 HB HT7 ⊢
    clear hW2
    go_wp2_with fail
    refine bodyPost_ret (results_ty (a := 7) (by kernel_rfl) (B := W.heap.size + 1) (by rfl) (put4_cells HT7.out _ _ _ _).cells.1 (put4_cells HT7.out _ _ _ _).cells.2.1 (put4_cells HT7.out _ _ _ _).cells.2.2.1 (put4_cells HT7.out _ _ _ _).cells.2.2.2) rfl ?_
    exact ⟨rfl, below_put4 HB.out (by omega) _ _ _ _⟩
  · have q1 : (op == 1) = false := by simpa using h1
    clear h1
    go_enter Try.func81, Try.ntmps81
    go_upto_region 1 with fail
    obtain ⟨W2, hW2⟩ : ∃ W2, W2 = (W.alloc (Obj.cells #[.int .i64 op, .int .i64 n, .string na, .slice none 0 0] 36)).alloc (Obj.cells #[.int .i64 0, .int .i64 0, .string ⟨#[]⟩, .slice none 0 0] 36) := ⟨_, rfl⟩
    rw [← hW2] at b1 c0 c1 c2 c3 z0 z1 z2 z3 f0 f1 f2 f3 HB HT7 ⊢
    clear hW2
    go_wp2_with fail
    refine bodyPost_ret (results_ty (a := 7) (by kernel_rfl) (B := W.heap.size + 1) (by rfl) (put4_cells HT7.out _ _ _ _).cells.1 (put4_cells HT7.out _ _ _ _).cells.2.1 (put4_cells HT7.out _ _ _ _).cells.2.2.1 (put4_cells HT7.out _ _ _ _).cells.2.2.2) rfl ?_
    exact ⟨rfl, below_put4 HB.out (by omega) _ _ _ _⟩

/-- the world behind a leaf that was shifted -/
def shW (W2 : World) (T B3 : Nat) (n d : Int) (na : ByteArray) (b : Bool) : World :=
  put4 ((W2.setCell ⟨T, 1, none⟩ (.int .i64 (n + d))).setCell ⟨B3, 0, none⟩ (.bool b)) (T + 1) (.int .i64 1) (.int .i64 (n + d)) (.string na) (.slice none 0 0)

set_option maxHeartbeats 4000000 in
theorem shl_yes (W : World) (n : Int) (na : ByteArray) (k : Nat) (st : Bool) (hi : ShI B1 B2 B3 d f W st) (hf : 0 ≤ f ∧ f ≤ 9999) (hd : -1000000 ≤ d ∧ d ≤ 1000000) (hn : 0 ≤ n ∧ n ≤ 9999) (hk : k ≤ 1000000) (hyes : (k : Int) + f ≤ n) (hne : B1 ≠ B3) (hne2 : B2 ≠ B3) (h3 : B3 < W.heap.size) :
    Calls Try.prog 81 #[.agg #[.int .i64 1, .int .i64 n, .string na, .slice none 0 0], .int .i64 k, .pointer (some ⟨B1, 0, none⟩), .pointer (some ⟨B2, 0, none⟩), .pointer (some ⟨B3, 0, none⟩)] W fun e w' => e = .returned (.agg #[.int .i64 1, .int .i64 (n + d), .string na, .slice none 0 0]) ∧ W.grownBy w' (some B3) ∧ ShI B1 B2 B3 d f w' (st && decide ((k : Int) + f ≤ n + d)) := by
  obtain ⟨ht5, ht7⟩ := two_boxes W (.int .i64 1) (.int .i64 n) (.string na) (.slice none 0 0) (.int .i64 0) (.int .i64 0) (.string ⟨#[]⟩) (.slice none 0 0)
  have hb2 : Below W.heap.size W ((W.alloc (Obj.cells #[.int .i64 1, .int .i64 n, .string na, .slice none 0 0] 36)).alloc (Obj.cells #[.int .i64 0, .int .i64 0, .string ⟨#[]⟩, .slice none 0 0] 36)) := below_two W _ _
  have HI := Lib.hid (hi.next (base := W.heap.size) (lt_of_block hi.f) (lt_of_block hi.d) (lt_of_block hi.kept) hb2)
  have HB := Lib.hid hb2
  have HT5 := Lib.hid ht5
  have HT7 := Lib.hid ht7
  have h13 : B1 ≠ W.heap.size := by have := lt_of_block hi.f; omega
  have h23 : B2 ≠ W.heap.size := by have := lt_of_block hi.d; omega
  have h33 : B3 ≠ W.heap.size := by omega
  have hl1 := lt_of_block hi.f
  have hl2 := lt_of_block hi.d
  have h34 : W.heap.size ≠ B3 := by omega
  have h35 : W.heap.size + 1 ≠ B3 := by omega
  have e1 := one_cell HI.out.f
  have e2 := one_cell HI.out.d
  have e3 := one_cell HI.out.kept
  have e4 := one_frozen HI.out.kept
  obtain ⟨c0, c1, c2, c3⟩ := HT5.out.cells
  obtain ⟨z0, z1, z2, z3⟩ := HT7.out.cells
  have g1 := HT5.out.frozen 1
  have f0 := HT7.out.frozen 0
  have f1 := HT7.out.frozen 1
  have f2 := HT7.out.frozen 2
  have f3 := HT7.out.frozen 3
  have q2 : decide ((k : Int) + f ≤ n) = true := decide_eq_true hyes
  have HQ : Hid (∀ b, (st && decide ((k : Int) + f ≤ n + d)) = b → ShI B1 B2 B3 d f (shW ((W.alloc (Obj.cells #[.int .i64 1, .int .i64 n, .string na, .slice none 0 0] 36)).alloc (Obj.cells #[.int .i64 0, .int .i64 0, .string ⟨#[]⟩, .slice none 0 0] 36)) W.heap.size B3 n d na b) b) := Lib.hid (fun b _ => by
    unfold shW
    refine ⟨?_, ?_, ?_⟩
    · rw [put4_other (by omega), Below.heap_setCell _ _ _ _ hne, Below.heap_setCell _ _ _ _ h13]; exact HI.out.f
    · rw [put4_other (by omega), Below.heap_setCell _ _ _ _ hne2, Below.heap_setCell _ _ _ _ h23]; exact HI.out.d
    · rw [put4_other (by omega)]
      exact one_same (one_other HI.out.kept h33))
  have HG : Hid (∀ b, W.grownBy (shW ((W.alloc (Obj.cells #[.int .i64 1, .int .i64 n, .string na, .slice none 0 0] 36)).alloc (Obj.cells #[.int .i64 0, .int .i64 0, .string ⟨#[]⟩, .slice none 0 0] 36)) W.heap.size B3 n d na b) (some B3)) := Lib.hid (fun b => by
    unfold shW
    exact grown_put4 (grown_setCell (grown_setCell (grown_of_below HB.out) (.inl (Nat.le_refl _)) _) (.inr rfl) _) (by omega) _ _ _ _)
  have HR : Hid (∀ b, B4 (shW ((W.alloc (Obj.cells #[.int .i64 1, .int .i64 n, .string na, .slice none 0 0] 36)).alloc (Obj.cells #[.int .i64 0, .int .i64 0, .string ⟨#[]⟩, .slice none 0 0] 36)) W.heap.size B3 n d na b) (W.heap.size + 1) (.int .i64 1) (.int .i64 (n + d)) (.string na) (.slice none 0 0)) := Lib.hid (fun b => by
    unfold shW
    exact put4_cells (one_other (one_other HT7.out (by omega)) h35) _ _ _ _)
  clear hi ht5 ht7 hb2 HI HB HT5 HT7 hyes hne hne2 h3 h13 h23 hl1 hl2
  cases st with
  | false =>
    go_enter Try.func81, Try.ntmps81
    go_upto_region 1 with fail
    obtain ⟨W2, hW2⟩ : ∃ W2, W2 = (W.alloc (Obj.cells #[.int .i64 1, .int .i64 n, .string na, .slice none 0 0] 36)).alloc (Obj.cells #[.int .i64 0, .int .i64 0, .string ⟨#[]⟩, .slice none 0 0] 36) := ⟨_, rfl⟩
    rw [← hW2] at e1 e2 e3 e4 c0 c1 c2 c3 z0 z1 z2 z3 g1 f0 f1 f2 f3 HQ HG HR ⊢
    clear hW2
    go_wp2_with fail
    refine bodyPost_ret (results_ty (a := 7) (by kernel_rfl) (B := W.heap.size + 1) (by rfl) (HR.out false).cells.1 (HR.out false).cells.2.1 (HR.out false).cells.2.2.1 (HR.out false).cells.2.2.2) rfl ?_
    exact ⟨rfl, HG.out false, HQ.out false (by simp)⟩
  | true =>
    cases hq : decide ((k : Int) + f ≤ n + d) with
    | false =>
      have HQ' := Lib.hid (HQ.out false (by simpa using hq))
      clear HQ
      go_enter Try.func81, Try.ntmps81
      go_upto_region 1 with fail
      obtain ⟨W2, hW2⟩ : ∃ W2, W2 = (W.alloc (Obj.cells #[.int .i64 1, .int .i64 n, .string na, .slice none 0 0] 36)).alloc (Obj.cells #[.int .i64 0, .int .i64 0, .string ⟨#[]⟩, .slice none 0 0] 36) := ⟨_, rfl⟩
      rw [← hW2] at e1 e2 e3 e4 c0 c1 c2 c3 z0 z1 z2 z3 g1 f0 f1 f2 f3 HQ' HG HR ⊢
      clear hW2
      go_wp2_with fail
      refine bodyPost_ret (results_ty (a := 7) (by kernel_rfl) (B := W.heap.size + 1) (by rfl) (HR.out false).cells.1 (HR.out false).cells.2.1 (HR.out false).cells.2.2.1 (HR.out false).cells.2.2.2) rfl ?_
      exact ⟨rfl, HG.out false, HQ'.out⟩
    | true =>
      have HQ' := Lib.hid (HQ.out true (by simpa using hq))
      clear HQ
      go_enter Try.func81, Try.ntmps81
      go_upto_region 1 with fail
      obtain ⟨W2, hW2⟩ : ∃ W2, W2 = (W.alloc (Obj.cells #[.int .i64 1, .int .i64 n, .string na, .slice none 0 0] 36)).alloc (Obj.cells #[.int .i64 0, .int .i64 0, .string ⟨#[]⟩, .slice none 0 0] 36) := ⟨_, rfl⟩
      rw [← hW2] at e1 e2 e3 e4 c0 c1 c2 c3 z0 z1 z2 z3 g1 f0 f1 f2 f3 HQ' HG HR ⊢
      clear hW2
      go_wp2_with fail
      refine bodyPost_ret (results_ty (a := 7) (by kernel_rfl) (B := W.heap.size + 1) (by rfl) (HR.out true).cells.1 (HR.out true).cells.2.1 (HR.out true).cells.2.2.1 (HR.out true).cells.2.2.2) rfl ?_
      exact ⟨rfl, HG.out true, HQ'.out⟩
theorem shift_leaf (w0 : World) (base : Nat) (hf : 0 ≤ f ∧ f ≤ 9999) (hd : -1000000 ≤ d ∧ d ≤ 1000000) (hne : B1 ≠ B3) (hne2 : B2 ≠ B3) :
    Leafs 81 #[.pointer (some ⟨B1, 0, none⟩), .pointer (some ⟨B2, 0, none⟩), .pointer (some ⟨B3, 0, none⟩)] (shF d f) (ShI B1 B2 B3 d f) (some B3) w0 base := by
  intro W op n s k st hg hi _ _ hk
  by_cases hyes : op = 1 ∧ (k : Int) + f ≤ n
  · obtain ⟨rfl, hyes⟩ := hyes
    have he : shF d f (.mk 1 n s []) k st = (.mk 1 (n + d) s [], st && decide ((k : Int) + f ≤ n + d)) := if_pos ⟨rfl, hyes⟩
    rw [he]
    have hn : 0 ≤ n ∧ n ≤ 9999 := by
      cases hg with
      | var op n h1 h2 h3 => exact ⟨h2, h3⟩
    exact (shl_yes W n ⟨s.toArray⟩ k st hi hf hd hn hk hyes hne hne2 (lt_of_block hi.kept)).mono fun e w' ⟨h1, h2, h3⟩ => ⟨_, h1, ⟨none, 0, rfl, leaf_len hg, Nat.zero_le _, .inl rfl⟩, h2, h3⟩
  · have he : shF d f (.mk op n s []) k st = (.mk op n s [], st) := if_neg hyes
    rw [he]
    exact (shl_no W op n ⟨s.toArray⟩ k st hi hf hk hyes).mono fun e w' ⟨h1, h2⟩ => ⟨_, h1, ⟨none, 0, rfl, leaf_len hg, Nat.zero_le _, .inl rfl⟩, grown_of_below h2, hi.next (lt_of_block hi.f) (lt_of_block hi.d) (lt_of_block hi.kept) h2⟩
end

end Ty
end Go.Proofs.Ytfjgebdpbmnicaa
