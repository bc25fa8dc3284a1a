/- What the reference's own makers return. Conditions: none. -/
import Derived.Test.YtkedhnahgpmkaaaTyFun
namespace Go.Proofs.Ytkedhnahgpmkaaa
open Go.RowKit

namespace Ty
set_option maxHeartbeats 2000000 in
theorem var_o (n : Int) (w : World) : Calls Try.prog 98 #[.int .i64 n] w fun e w' => e = .returned (.agg #[.int .i64 1, .int .i64 n, .string ⟨#[]⟩, .slice none 0 0]) ∧ Below w.heap.size w w' := by
  obtain ⟨b0, b1, b2, b3⟩ := box4 w (.int .i64 1) (.int .i64 n) (.string ⟨#[]⟩) (.slice none 0 0)
  go_enter Try.func98, Try.ntmps98
  go_wp2_with fail
  refine bodyPost_ret (results_ty (a := 2) (by kernel_rfl) (B := w.heap.size) (by rfl) b0 b1 b2 b3) rfl ?_
  exact ⟨rfl, (Below.refl _ _).alloc (Nat.le_refl _) _⟩

set_option maxHeartbeats 2000000 in
theorem rcon (s : ByteArray) (w : World) : Calls Try.prog 52 #[.string s] w fun e w' => e = .returned (.agg #[.int .i64 2, .int .i64 0, .string s, .slice none 0 0]) ∧ Below w.heap.size w w' := by
  have hb1 : Below w.heap.size w (w.alloc (Obj.cells #[.int .i64 0, .int .i64 0, .string ⟨#[]⟩, .slice none 0 0] 24)) := (Below.refl _ _).alloc (Nat.le_refl _) _
  have ht2 : B4 (w.alloc (Obj.cells #[.int .i64 0, .int .i64 0, .string ⟨#[]⟩, .slice none 0 0] 24)) w.heap.size (.int .i64 0) (.int .i64 0) (.string ⟨#[]⟩) (.slice none 0 0) := heap_alloc_new _ _
  have HB1 := Lib.hid hb1
  have HT2 := Lib.hid ht2
  clear hb1 ht2
  go_enter Try.func52, Try.ntmps52
  go_wp2_with fail
  refine (con_o s _).mono ?_
  rintro e w2 ⟨rfl, hb⟩
  have HB2 := Lib.hid (HB1.out.trans (hb.mono HB1.out.size))
  have HT := Lib.hid (HT2.out.next hb)
  clear hb HB1 HT2
  obtain ⟨z0, z1, z2, z3⟩ := HT.out.cells
  have f0 := HT.out.frozen 0
  have f1 := HT.out.frozen 1
  have f2 := HT.out.frozen 2
  have f3 := HT.out.frozen 3
  go_wp2_with fail
  refine bodyPost_ret (results_ty (a := 2) (by kernel_rfl) (B := w.heap.size) (by rfl) (put4_cells HT.out _ _ _ _).cells.1 (put4_cells HT.out _ _ _ _).cells.2.1 (put4_cells HT.out _ _ _ _).cells.2.2.1 (put4_cells HT.out _ _ _ _).cells.2.2.2) rfl ?_
  exact ⟨rfl, below_put4 HB2.out (by omega) _ _ _ _⟩

set_option maxHeartbeats 2000000 in
theorem rvar (n : Int) (w : World) : Calls Try.prog 59 #[.int .i64 n] w fun e w' => e = .returned (.agg #[.int .i64 1, .int .i64 n, .string ⟨#[]⟩, .slice none 0 0]) ∧ Below w.heap.size w w' := by
  have hb1 : Below w.heap.size w (w.alloc (Obj.cells #[.int .i64 0, .int .i64 0, .string ⟨#[]⟩, .slice none 0 0] 24)) := (Below.refl _ _).alloc (Nat.le_refl _) _
  have ht2 : B4 (w.alloc (Obj.cells #[.int .i64 0, .int .i64 0, .string ⟨#[]⟩, .slice none 0 0] 24)) w.heap.size (.int .i64 0) (.int .i64 0) (.string ⟨#[]⟩) (.slice none 0 0) := heap_alloc_new _ _
  have HB1 := Lib.hid hb1
  have HT2 := Lib.hid ht2
  clear hb1 ht2
  go_enter Try.func59, Try.ntmps59
  go_wp2_with fail
  refine (var_o n _).mono ?_
  rintro e w2 ⟨rfl, hb⟩
  have HB2 := Lib.hid (HB1.out.trans (hb.mono HB1.out.size))
  have HT := Lib.hid (HT2.out.next hb)
  clear hb HB1 HT2
  obtain ⟨z0, z1, z2, z3⟩ := HT.out.cells
  have f0 := HT.out.frozen 0
  have f1 := HT.out.frozen 1
  have f2 := HT.out.frozen 2
  have f3 := HT.out.frozen 3
  go_wp2_with fail
  refine bodyPost_ret (results_ty (a := 2) (by kernel_rfl) (B := w.heap.size) (by rfl) (put4_cells HT.out _ _ _ _).cells.1 (put4_cells HT.out _ _ _ _).cells.2.1 (put4_cells HT.out _ _ _ _).cells.2.2.1 (put4_cells HT.out _ _ _ _).cells.2.2.2) rfl ?_
  exact ⟨rfl, below_put4 HB2.out (by omega) _ _ _ _⟩

set_option maxHeartbeats 8000000 in
theorem rarrow_o {ok : Nat → Prop} (ta tb : Ty) (va vb : Value) (w : World) (hok : ∀ g, w.heap.size ≤ g → ok g) (ha : VO ok w ta va) (hb : VO ok w tb vb) : Calls Try.prog 58 #[va, vb] w (RetO ok (arrow ta tb) w) := by
  have hva := fun W (hbw : Below w.heap.size w W) => ha.apart (B := w.heap.size + 1 + 1) hbw (by omega)
  have hvb := fun W (hbw : Below w.heap.size w W) => hb.apart (B := w.heap.size + 1 + 1) hbw (by omega)
  obtain ⟨ba, ca, ea, _, _⟩ := ha
  obtain ⟨bb, cb, eb, _, _⟩ := hb
  subst ea eb
  have HVA := Lib.hid hva
  have HVB := Lib.hid hvb
  have HOK := Lib.hid hok
  clear hva hvb hok
  have HT := Lib.hid (Three.new w (.int .i64 ta.op) (.int .i64 ta.n) (.string ta.name) (.slice ba ta.args.length ca) (.int .i64 tb.op) (.int .i64 tb.n) (.string tb.name) (.slice bb tb.args.length cb))
  go_enter Try.func58, Try.ntmps58
  go_wp2_with fail
  obtain ⟨W0, hW0⟩ : ∃ W0, W0 = ((w.alloc (Obj.cells #[.int .i64 ta.op, .int .i64 ta.n, .string ta.name, .slice ba ta.args.length ca] 24)).alloc (Obj.cells #[.int .i64 tb.op, .int .i64 tb.n, .string tb.name, .slice bb tb.args.length cb] 24)).alloc (Obj.cells #[.int .i64 0, .int .i64 0, .string ⟨#[]⟩, .slice none 0 0] 24) := ⟨_, rfl⟩
  rw [← hW0] at HT ⊢
  clear hW0
  refine (arrow_o (ok := fun g => ok g ∧ g ≠ w.heap.size + 1 + 1) ta tb _ _ _ (fun g hg => ⟨HOK.out g (by have := HT.out.below.size; omega), three_ok HT.out g hg⟩) (HVA.out _ HT.out.below) (HVB.out _ HT.out.below)).mono ?_
  rintro e w2 ⟨v, rfl, ⟨b9, c9, rfl, hs9, hl9⟩, hb⟩
  have HV9 := Lib.hid (show VO (fun g => ok g ∧ g ≠ w.heap.size + 1 + 1) w2 (arrow ta tb) _ from ⟨b9, c9, rfl, hs9, hl9⟩)
  clear hs9 hl9
  have HT2 := Lib.hid (HT.out.next hb)
  clear HT hb
  obtain ⟨z0, z1, z2, z3⟩ := HT2.out.br.cells; have f0 := HT2.out.br.frozen 0; have f1 := HT2.out.br.frozen 1; have f2 := HT2.out.br.frozen 2; have f3 := HT2.out.br.frozen 3
  go_wp2_with fail
  refine bodyPost_ret (results_ty (a := 4) (by kernel_rfl) (B := w.heap.size + 1 + 1) (by rfl) (put4_cells HT2.out.br _ _ _ _).cells.1 (put4_cells HT2.out.br _ _ _ _).cells.2.1 (put4_cells HT2.out.br _ _ _ _).cells.2.2.1 (put4_cells HT2.out.br _ _ _ _).cells.2.2.2) rfl ?_
  exact ⟨_, rfl, HV9.out.keep (fun _ h => h.1) (fun p v hp hc => put4_keep _ _ _ _ p v hc hp.2), below_put4 HT2.out.below (by omega) _ _ _ _⟩


end Ty
end Go.Proofs.Ytkedhnahgpmkaaa
