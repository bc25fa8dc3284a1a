/- What the reference's shift returns. Conditions: the type is well formed. -/
import Derived.Test.YtkedhnahgpmkaaaTyRS
import Derived.Deep.RegionHeld3
import Derived.Deep.DeepCutAuto
import Derived.IntWalk
namespace Go.Proofs.Ytkedhnahgpmkaaa
open Go.RowKit

namespace Ty
theorem rs_next {W W' : World} {T D : Nat} {r0 r1 r2 r3 h0 h1 h2 h3 : Value}
    (h : W.cell? ⟨T, 0, none⟩ = some r0 ∧ W.cell? ⟨T, 1, none⟩ = some r1 ∧ W.cell? ⟨T, 2, none⟩ = some r2 ∧ W.cell? ⟨T, 3, none⟩ = some r3 ∧ W.cell? ⟨D, 0, none⟩ = some h0 ∧ W.cell? ⟨D, 1, none⟩ = some h1 ∧ W.cell? ⟨D, 2, none⟩ = some h2 ∧ W.cell? ⟨D, 3, none⟩ = some h3) (hb : Below W.heap.size W W') :
    W'.cell? ⟨T, 0, none⟩ = some r0 ∧ W'.cell? ⟨T, 1, none⟩ = some r1 ∧ W'.cell? ⟨T, 2, none⟩ = some r2 ∧ W'.cell? ⟨T, 3, none⟩ = some r3 ∧ W'.cell? ⟨D, 0, none⟩ = some h0 ∧ W'.cell? ⟨D, 1, none⟩ = some h1 ∧ W'.cell? ⟨D, 2, none⟩ = some h2 ∧ W'.cell? ⟨D, 3, none⟩ = some h3 := by
  obtain ⟨k0, k1, k2, k3, k4, k5, k6, k7⟩ := h
  exact ⟨keeps hb _ _ k0, keeps hb _ _ k1, keeps hb _ _ k2, keeps hb _ _ k3, keeps hb _ _ k4, keeps hb _ _ k5, keeps hb _ _ k6, keeps hb _ _ k7⟩

theorem reb_shF (d f : Int) : ∀ (t : Ty), Good t → ∀ (k : Nat) (st : Bool), reb (shF d f) t k st = ((reb (shF d f) t k true).1, st && (reb (shF d f) t k true).2) := by
  intro t hg
  have leaf : ∀ (op n : Int) (s : List UInt8) (k : Nat) (st : Bool), reb (shF d f) (.mk op n s []) k st = ((reb (shF d f) (.mk op n s []) k true).1, st && (reb (shF d f) (.mk op n s []) k true).2) := by
    intro op n s k st
    rw [reb_leaf, reb_leaf]
    unfold shF
    split <;> simp
  induction hg with
  | var op n h1 h2 h3 => exact leaf op n []
  | con s h1 h2 => exact leaf 2 0 s
  | node op x y h hx hy ihx ihy =>
    intro k st
    rw [reb_node, reb_node, ihx k st, ihy _ (st && _), ihy _ ((reb (shF d f) x k true).2)]
    simp [Bool.and_assoc]

def RShP (d f : Int) (t : Ty) (k : Nat) (w : World) (e : Ending) (w' : World) : Prop :=
  ∃ v, e = .returned (.tuple #[v, .bool (reb (shF d f) t k true).2]) ∧ VO (w.heap.size ≤ ·) w' (reb (shF d f) t k true).1 v ∧ Below w.heap.size w w'
def RShC (d f : Int) (t : Ty) : Prop := ∀ (v : Value) (k : Nat) (w : World), V w t v → k + nodes t ≤ 1000000 → Calls Try.prog 65 #[v, .int .i64 d, .int .i64 f, .int .i64 k] w (RShP d f t k w)

section
variable {d f : Int}
set_option maxHeartbeats 4000000 in
theorem rsh_no (w : World) (op n : Int) (na : ByteArray) (b : Option Addr) (c k : Nat) (hn : 0 ≤ n ∧ n ≤ 9999) (hk : k ≤ 1000000) (hno : ¬ (op = 1 ∧ (k : Int) + f ≤ n)) :
    Calls Try.prog 65 #[.agg #[.int .i64 op, .int .i64 n, .string na, .slice b 0 c], .int .i64 d, .int .i64 f, .int .i64 k] w fun e w' => e = .returned (.tuple #[.agg #[.int .i64 op, .int .i64 n, .string na, .slice none 0 0], .bool true]) ∧ Below w.heap.size w w' := by
  have HR := Lib.hid (RS.new w (.int .i64 op) (.int .i64 n) (.string na) (.slice b 0 c) (.int .i64 op) (.int .i64 n) (.string na))
  have HNO := Lib.hid hno
  clear hno
  have key : ∀ (q : Bool), (op == 1) = q → (q = true → decide (f ≤ n - (k : Int)) = false) → Calls Try.prog 65 #[.agg #[.int .i64 op, .int .i64 n, .string na, .slice b 0 c], .int .i64 d, .int .i64 f, .int .i64 k] w fun e w' => e = .returned (.tuple #[.agg #[.int .i64 op, .int .i64 n, .string na, .slice none 0 0], .bool true]) ∧ Below w.heap.size w w' := by
    intro q hq hq2
    cases q with
    | true =>
      have hq3 := hq2 rfl
      clear hq2
      go_enter Try.func65, Try.ntmps65
      go_upto_region 2 with fail
      obtain ⟨W3, hW3⟩ : ∃ W3, W3 = ((w.alloc (Obj.cells #[.int .i64 op, .int .i64 n, .string na, .slice b 0 c] 24)).alloc (Obj.cells #[.int .i64 0, .int .i64 0, .string ⟨#[]⟩, .slice none 0 0] 24)).alloc (Obj.cells #[.int .i64 op, .int .i64 n, .string na, .slice none 0 0] 24) := ⟨_, rfl⟩
      rw [← hW3] at HR ⊢
      clear hW3
      obtain ⟨q0, q1, q2, q3⟩ := HR.out.box.cells
      obtain ⟨z0, z1, z2, z3⟩ := HR.out.res.cells
      obtain ⟨p0, p1, p2, p3⟩ := HR.out.out.cells
      have f0 := HR.out.res.frozen 0
      have f1 := HR.out.res.frozen 1
      have f2 := HR.out.res.frozen 2
      have f3 := HR.out.res.frozen 3
      go_wp2_with fail
      refine wp_loop_rounds 1 ?_
      rw [rounds_succ]
      go_wp2_with fail
      refine bodyPost_ret (results_two (a := 8) (b := 9) (by kernel_rfl) (B := w.heap.size + 1) (by rfl) (by rfl) (put4_cells HR.out.res _ _ _ _).cells.1 (put4_cells HR.out.res _ _ _ _).cells.2.1 (put4_cells HR.out.res _ _ _ _).cells.2.2.1 (put4_cells HR.out.res _ _ _ _).cells.2.2.2) rfl ?_
      exact ⟨rfl, below_put4 HR.out.below (by omega) _ _ _ _⟩
    | false =>
      clear hq2
      go_enter Try.func65, Try.ntmps65
      go_upto_region 2 with fail
      obtain ⟨W3, hW3⟩ : ∃ W3, W3 = ((w.alloc (Obj.cells #[.int .i64 op, .int .i64 n, .string na, .slice b 0 c] 24)).alloc (Obj.cells #[.int .i64 0, .int .i64 0, .string ⟨#[]⟩, .slice none 0 0] 24)).alloc (Obj.cells #[.int .i64 op, .int .i64 n, .string na, .slice none 0 0] 24) := ⟨_, rfl⟩
      rw [← hW3] at HR ⊢
      clear hW3
      obtain ⟨q0, q1, q2, q3⟩ := HR.out.box.cells
      obtain ⟨z0, z1, z2, z3⟩ := HR.out.res.cells
      obtain ⟨p0, p1, p2, p3⟩ := HR.out.out.cells
      have f0 := HR.out.res.frozen 0
      have f1 := HR.out.res.frozen 1
      have f2 := HR.out.res.frozen 2
      have f3 := HR.out.res.frozen 3
      go_wp2_with fail
      refine wp_loop_rounds 1 ?_
      rw [rounds_succ]
      go_wp2_with fail
      refine bodyPost_ret (results_two (a := 8) (b := 9) (by kernel_rfl) (B := w.heap.size + 1) (by rfl) (by rfl) (put4_cells HR.out.res _ _ _ _).cells.1 (put4_cells HR.out.res _ _ _ _).cells.2.1 (put4_cells HR.out.res _ _ _ _).cells.2.2.1 (put4_cells HR.out.res _ _ _ _).cells.2.2.2) rfl ?_
      exact ⟨rfl, below_put4 HR.out.below (by omega) _ _ _ _⟩
  exact key _ rfl (fun h => decide_eq_false (fun h2 => HNO.out ⟨by simpa using h, by omega⟩))

set_option maxHeartbeats 4000000 in
theorem rsh_yes (w : World) (n : Int) (na : ByteArray) (b : Option Addr) (c k : Nat) (hf : 0 ≤ f ∧ f ≤ 9999) (hd : -1000000 ≤ d ∧ d ≤ 1000000) (hn : 0 ≤ n ∧ n ≤ 9999) (hk : k ≤ 1000000) (hyes : (k : Int) + f ≤ n) :
    Calls Try.prog 65 #[.agg #[.int .i64 1, .int .i64 n, .string na, .slice b 0 c], .int .i64 d, .int .i64 f, .int .i64 k] w fun e w' => e = .returned (.tuple #[.agg #[.int .i64 1, .int .i64 (n + d), .string na, .slice none 0 0], .bool (decide (f ≤ n + d - (k : Int)))]) ∧ Below w.heap.size w w' := by
  have HR := Lib.hid (RS.new w (.int .i64 1) (.int .i64 n) (.string na) (.slice b 0 c) (.int .i64 1) (.int .i64 n) (.string na))
  have hq3 : decide (f ≤ n - (k : Int)) = true := decide_eq_true (by omega)
  go_enter Try.func65, Try.ntmps65
  go_upto_region 2 with fail
  obtain ⟨W3, hW3⟩ : ∃ W3, W3 = ((w.alloc (Obj.cells #[.int .i64 1, .int .i64 n, .string na, .slice b 0 c] 24)).alloc (Obj.cells #[.int .i64 0, .int .i64 0, .string ⟨#[]⟩, .slice none 0 0] 24)).alloc (Obj.cells #[.int .i64 1, .int .i64 n, .string na, .slice none 0 0] 24) := ⟨_, rfl⟩
  rw [← hW3] at HR ⊢
  clear hW3
  obtain ⟨q0, q1, q2, q3⟩ := HR.out.box.cells
  obtain ⟨p0, p1, p2, p3⟩ := HR.out.out.cells
  have f1 := HR.out.out.frozen 1
  go_upto_region 4 with fail
  obtain ⟨W4, hW4⟩ : ∃ W4, W4 = W3.setCell ⟨w.heap.size + 2, 1, none⟩ (.int .i64 (n + d)) := ⟨_, rfl⟩
  have hb4 : Below w.heap.size w W4 := by rw [hW4]; exact HR.out.below.setCell (by show w.heap.size ≤ w.heap.size + 2; omega) _
  have hr4 : B4 W4 (w.heap.size + 1) (.int .i64 0) (.int .i64 0) (.string ⟨#[]⟩) (.slice none 0 0) := by rw [hW4]; exact one_other HR.out.res (by omega)
  have ho4 : B4 W4 (w.heap.size + 2) (.int .i64 1) (.int .i64 (n + d)) (.string na) (.slice none 0 0) := by
    have h' : W3.heap[w.heap.size + 2]? = some (Obj.cells #[.int .i64 1, .int .i64 n, .string na, .slice none 0 0] 24) := HR.out.out
    rw [hW4]
    unfold B4
    simp [World.setCell, Array.getElem?_modify, h']
  rw [← hW4]
  clear hW4 q0 q1 q2 q3 p0 p1 p2 p3 f1 HR
  have HO4 : Hid (B4 W4.drew (w.heap.size + 2) (.int .i64 1) (.int .i64 (n + d)) (.string na) (.slice none 0 0)) := Lib.hid ho4
  have HR4 : Hid (B4 W4.drew (w.heap.size + 1) (.int .i64 0) (.int .i64 0) (.string ⟨#[]⟩) (.slice none 0 0)) := Lib.hid hr4
  have HB4 := Lib.hid hb4.drew
  obtain ⟨p0, p1, p2, p3⟩ := HO4.out.cells
  obtain ⟨z0, z1, z2, z3⟩ := hr4.cells
  have f0 := hr4.frozen 0
  have f1 := hr4.frozen 1
  have f2 := hr4.frozen 2
  have f3 := hr4.frozen 3
  have hne : w.heap.size + 2 ≠ w.heap.size + 1 := by omega
  have hz : IntKind.i64.wrap (n + d - (k : Int)) = n + d - (k : Int) := IntWalk.i64_in _ (by omega)
  clear hr4 ho4 hb4
  go_region_held3 (fun W => W.cell? ⟨w.heap.size + 2, 0, none⟩ = some (.int .i64 1) ∧ W.cell? ⟨w.heap.size + 2, 1, none⟩ = some (.int .i64 (n + d)) ∧ W.cell? ⟨w.heap.size + 2, 2, none⟩ = some (.string na) ∧ W.cell? ⟨w.heap.size + 2, 3, none⟩ = some (.slice none 0 0))
    (first | (with_reducible exact ⟨p0, p1, p2, p3⟩) | exact ⟨put4_keep _ _ _ _ _ _ p0 hne, put4_keep _ _ _ _ _ _ p1 hne, put4_keep _ _ _ _ _ _ p2 hne, put4_keep _ _ _ _ _ _ p3 hne⟩)
    (fail)
  rename_i hS
  clear hS
  go_wp2_with fail
  refine bodyPost_ret (results_two (a := 8) (b := 9) (by kernel_rfl) (B := w.heap.size + 1) (by rfl) (by rfl) (put4_cells HR4.out _ _ _ _).cells.1 (put4_cells HR4.out _ _ _ _).cells.2.1 (put4_cells HR4.out _ _ _ _).cells.2.2.1 (put4_cells HR4.out _ _ _ _).cells.2.2.2) rfl ?_
  exact ⟨rfl, below_put4 HB4.out (by omega) _ _ _ _⟩

theorem rsh_leaf (hf : 0 ≤ f ∧ f ≤ 9999) (hd : -1000000 ≤ d ∧ d ≤ 1000000) (op n : Int) (s : List UInt8) (hg : Good (.mk op n s [])) : RShC d f (.mk op n s []) := by
  intro v k w hv hk
  obtain ⟨b, c, ev, _, _⟩ := hv
  rw [show v = .agg #[.int .i64 op, .int .i64 n, .string ⟨s.toArray⟩, .slice b 0 c] from ev]
  clear ev
  have hk' : k ≤ 1000000 := by omega
  have hn : 0 ≤ n ∧ n ≤ 9999 := by
    cases hg with
    | var op n h1 h2 h3 => exact ⟨h2, h3⟩
    | con s h1 h2 => exact ⟨by omega, by omega⟩
  unfold RShP
  rw [reb_leaf]
  by_cases hyes : op = 1 ∧ (k : Int) + f ≤ n
  · obtain ⟨rfl, hyes⟩ := hyes
    have he : shF d f (.mk 1 n s []) k true = (.mk 1 (n + d) s [], decide (f ≤ n + d - (k : Int))) := by
      unfold shF
      rw [if_pos (show (mk 1 n s []).op = 1 ∧ (k : Int) + f ≤ (mk 1 n s []).n from ⟨rfl, hyes⟩), Bool.true_and]
      show (Ty.mk 1 (n + d) s [], decide ((k : Int) + f ≤ n + d)) = _
      rw [show decide ((k : Int) + f ≤ n + d) = decide (f ≤ n + d - (k : Int)) from decide_eq_decide.mpr (by omega)]
    rw [he]
    exact (rsh_yes w n ⟨s.toArray⟩ b c k hf hd hn hk' hyes).mono fun e w' ⟨h1, h2⟩ => ⟨_, h1, ⟨none, 0, rfl, leaf_len hg, Nat.zero_le _, .inl rfl⟩, h2⟩
  · have he : shF d f (.mk op n s []) k true = (.mk op n s [], true) := if_neg hyes
    rw [he]
    exact (rsh_no w op n ⟨s.toArray⟩ b c k hn hk' hyes).mono fun e w' ⟨h1, h2⟩ => ⟨_, h1, ⟨none, 0, rfl, leaf_len hg, Nat.zero_le _, .inl rfl⟩, h2⟩
end

end Ty
end Go.Proofs.Ytkedhnahgpmkaaa
