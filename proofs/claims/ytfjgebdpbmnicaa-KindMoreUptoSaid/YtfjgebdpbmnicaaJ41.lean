/- leave.Tried: what its deferred closure does when a panic comes, and when none does. Conditions: the panic is one of leave.With. -/
import Derived.Test.YtfjgebdpbmnicaaJ17
import Derived.Recover
import Derived.Deep.RegionHeld3
namespace Go.Proofs.Ytfjgebdpbmnicaa
open Go.RowKit

namespace Ty
set_option maxRecDepth 100000 in
set_option maxHeartbeats 4000000 in
theorem errorof_any (n : Int) (w : World) : Calls Try.prog 44 #[failV n] w fun e w' => e = .returned (.int .i64 n) ∧ Below w.heap.size w w' := by
  unfold failV
  have hta : ∀ w : World, (Instr.typeAssert (.iface 122 (.agg #[.int .i64 n])) 20 122 true).run Try.prog w = .ok (.tuple #[.agg #[.int .i64 n], .bool true]) w := fun _ => by kernel_rfl
  have HB : Hid (Below w.heap.size w (w.alloc (Obj.cells #[.int .i64 n] 122))) := Lib.hid ((Below.refl _ _).alloc (Nat.le_refl _) _)
  go_enter Try.func44, Try.ntmps44
  go_wp2_with fail
  go_ret
  exact ⟨rfl, HB.out⟩
theorem catch_idle (p q : Addr) (w : World) :
    CallsD Try.prog 43 #[.pointer (some p), .pointer (some q)] .returning w fun e u' w' => e = .returned (.tuple #[]) ∧ u' = .returning ∧ w' = w := by
  refine callsD_of_wpS Try.func43 rfl fun c₀ cs hu => ?_
  apply wpS_seq
  apply wpS_region
  simp [wpOpsS, go_sem, recoverD, hu, Try.ntmps43, Exit.thenS]
  apply wpS_seq
  apply wpS_region
  have hq : ∀ w : World, (binOp BinOp.neq 20 .nilIface .nilIface).run Try.prog w = .ok (.bool false) w := fun _ => by kernel_rfl
  simp [wpOpsS, go_sem, Exit.thenS, hq]
  refine wpS_cond (t := false) (by simp [Act.eval, Array.replicate]) ?_
  simp only [Bool.false_eq_true, if_false]
  refine wpS_of_wp (wp_skip ?_)
  cases c₀
  simp_all [bodyPostS, results, Try.results43]
abbrev EBox (w : World) (Q : Nat) (n : Int) : Prop := w.heap[Q]? = some (.cells #[.int .i64 n] 40 (0, 0))
abbrev K4 (W : World) (T : Nat) : Prop := W.cell? ⟨T, 0, none⟩ = some (.int .i64 0) ∧ W.cell? ⟨T, 1, none⟩ = some (.int .i64 0) ∧ W.cell? ⟨T, 2, none⟩ = some (.string ⟨#[]⟩) ∧ W.cell? ⟨T, 3, none⟩ = some (.slice none 0 0)
theorem k4_next {W W' : World} {T : Nat} (h : K4 W T) (hb : Below W.heap.size W W') : K4 W' T := ⟨keeps hb _ _ h.1, keeps hb _ _ h.2.1, keeps hb _ _ h.2.2.1, keeps hb _ _ h.2.2.2⟩
theorem k4_one {W : World} {T B i : Nat} (h : K4 W T) (hT : T ≠ B) (v : Value) : K4 (W.setCell ⟨B, i, none⟩ v) T := by
  have k : ∀ (j : Nat) (x : Value), W.cell? ⟨T, j, none⟩ = some x → (W.setCell ⟨B, i, none⟩ v).cell? ⟨T, j, none⟩ = some x := fun j x hx => by rw [World.cell?_setCell_other _ _ _ _ (by intro e; injection e with e; exact hT (by first | exact e | exact e.symm))]; exact hx
  exact ⟨k _ _ h.1, k _ _ h.2.1, k _ _ h.2.2.1, k _ _ h.2.2.2⟩
set_option maxRecDepth 100000 in
set_option maxHeartbeats 4000000 in
theorem catch_panic (n m : Int) (P Q : Nat) (v0 v1 v2 v3 : Value) (w : World) (hPQ : P ≠ Q) (hp : B4 w P v0 v1 v2 v3) (hq : EBox w Q m) :
    CallsD Try.prog 43 #[.pointer (some ⟨P, 0, none⟩), .pointer (some ⟨Q, 0, none⟩)] (.panicking [{ v := failV n, recovered := false }]) w fun e u' w' => e = .returned (.tuple #[]) ∧ u' = .panicking [{ v := failV n, recovered := true }] ∧
      (∃ w5 : World, Below w.heap.size w w5 ∧ B4 w5 P v0 v1 v2 v3 ∧ EBox w5 Q m ∧ w' = (put4 w5 P (.int .i64 0) (.int .i64 0) (.string ⟨#[]⟩) (.slice none 0 0)).setCell ⟨Q, 0, none⟩ (.int .i64 n)) := by
  refine callsD_of_wpS Try.func43 rfl fun c₀ cs hu => ?_
  apply wpS_seq
  apply wpS_region
  unfold failV at hu ⊢
  simp [wpOpsS, go_sem, recoverD, hu, Try.ntmps43, Exit.thenS]
  apply wpS_seq
  apply wpS_region
  have hqq : ∀ w : World, (binOp BinOp.neq 20 (.iface 122 (.agg #[.int .i64 n])) .nilIface).run Try.prog w = .ok (.bool true) w := fun _ => by kernel_rfl
  simp [wpOpsS, go_sem, Exit.thenS, hqq]
  refine wpS_cond (t := true) (by simp [Act.eval, Array.replicate]) ?_
  simp only [if_true]
  refine wpS_of_wp ?_
  clear hqq
  change Code.wp Try.prog _ _ { tmps := #[.pointer (some ⟨P, 0, none⟩), .pointer (some ⟨Q, 0, none⟩), .iface 122 (.agg #[.int .i64 n]), undef, .iface 122 (.agg #[.int .i64 n]), .iface 122 (.agg #[.int .i64 n]), .bool true, undef, undef, undef], defers := [] } w
  have HP := Lib.hid hp
  have HQ := Lib.hid hq
  clear hp hq
  go_upto_region 3 with fail
  obtain ⟨W2, hW2⟩ : ∃ W2, W2 = w.alloc (Obj.cells #[.int .i64 0, .int .i64 0, .string ⟨#[]⟩, .slice none 0 0] 36) := ⟨_, rfl⟩
  have hb2 : Below w.heap.size w W2.drew := by rw [hW2]; exact ((Below.refl _ _).alloc (Nat.le_refl _) _).drew
  have hz : B4 W2.drew w.heap.size (.int .i64 0) (.int .i64 0) (.string ⟨#[]⟩) (.slice none 0 0) := by rw [hW2]; exact heap_alloc_new _ _
  rw [← hW2]
  clear hW2
  have HB2 := Lib.hid hb2
  have hne1 : w.heap.size ≠ P := by have := lt_of_block HP.out; omega
  have hne2 : w.heap.size ≠ Q := by have := lt_of_block HQ.out; omega
  have hQP : Q ≠ P := fun e => hPQ e.symm
  have hz0 : K4 W2.drew w.heap.size := hz.cells
  clear hb2 hz
  go_region_held3 (fun W => K4 W w.heap.size)
    (first | (with_reducible exact hz0) | (with_reducible assumption) | (with_reducible exact k4_next hz0 hb) | ((with_reducible refine k4_next ?_ hb); with_reducible assumption) | ((with_reducible refine k4_one ?_ hne1 _); with_reducible assumption) | ((with_reducible refine k4_one ?_ hne2 _); with_reducible assumption) | ((with_reducible refine k4_one (k4_one (k4_one (k4_one ?_ hne1 _) hne1 _) hne1 _) hne1 _); assumption))
    (first | (go_at_call 44; refine (errorof_any n _).mono ?_; rintro e w5 ⟨rfl, hb⟩; have HB5 := Lib.hid (HB2.out.trans (hb.mono HB2.out.size)); have HP5 := Lib.hid (HP.out.next HB5.out); have HQ5 := Lib.hid ((HB5.out.block _ (lt_of_block HQ.out)).trans HQ.out); obtain ⟨p0, p1, p2, p3⟩ := HP5.out.cells; have g0 := HP5.out.frozen 0; have g1 := HP5.out.frozen 1; have g2 := HP5.out.frozen 2; have g3 := HP5.out.frozen 3; have r0 := one_cell HQ5.out; have r1 := one_frozen HQ5.out; have r2 := (World.cell?_of_block (put4_other (W := w5) hQP (.int .i64 0) (.int .i64 0) (.string ⟨#[]⟩) (.slice none 0 0))).trans r0))
  all_goals
    show bodyPostS Try.prog Try.f43 c₀ cs _ Exit.normal _ _ _
    simp [bodyPostS, results, Try.results43]
    exact ⟨w5, HB5.out, HP5.out, HQ5.out, rfl⟩
end Ty
end Go.Proofs.Ytfjgebdpbmnicaa
