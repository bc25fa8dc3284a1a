/- What the reference's Arrow returns. Conditions: the parts lie in memory. -/
import Derived.Test.YtfjgebdpbmnicaaJ05
namespace Go.Proofs.Ytfjgebdpbmnicaa
open Go.RowKit

namespace Ty
def arrow (a b : Ty) : Ty := .mk 3 0 [] [.mk 3 0 [] [.mk 2 0 [45, 62] [], a], b]

theorem three_ok {w W : World} {a0 a1 a2 a3 b0 b1 b2 b3 : Value} (h : Three w W a0 a1 a2 a3 b0 b1 b2 b3) : ∀ g, W.heap.size ≤ g → g ≠ w.heap.size + 1 + 1 := fun g hg => by
  have := lt_of_block h.br
  omega

set_option maxHeartbeats 16000000 in
theorem arrow_any (ta tb : Ty) (va vb : Value) (w : World) (ha : V w ta va) (hb : V w tb vb) : Calls Try.prog 82 #[va, vb] w (Ret (arrow ta tb) w) := by
  have hva := fun W (hbw : Below w.heap.size w W) => ha.apart (B := w.heap.size + 1 + 1) hbw (by omega)
  have hvb := fun W (hbw : Below w.heap.size w W) => hb.apart (B := w.heap.size + 1 + 1) hbw (by omega)
  obtain ⟨ba, ca, ea, _, _⟩ := ha
  obtain ⟨bb, cb, eb, _, _⟩ := hb
  subst ea eb
  have HVA := Lib.hid hva
  have HVB := Lib.hid hvb
  clear hva hvb
  have HT := Lib.hid (Three.new w (.int .i64 ta.op) (.int .i64 ta.n) (.string ta.name) (.slice ba ta.args.length ca) (.int .i64 tb.op) (.int .i64 tb.n) (.string tb.name) (.slice bb tb.args.length cb))
  go_enter Try.func82, Try.ntmps82
  go_wp2_with fail
  obtain ⟨W0, hW0⟩ : ∃ W0, W0 = ((w.alloc (Obj.cells #[.int .i64 ta.op, .int .i64 ta.n, .string ta.name, .slice ba ta.args.length ca] 36)).alloc (Obj.cells #[.int .i64 tb.op, .int .i64 tb.n, .string tb.name, .slice bb tb.args.length cb] 36)).alloc (Obj.cells #[.int .i64 0, .int .i64 0, .string ⟨#[]⟩, .slice none 0 0] 36) := ⟨_, rfl⟩
  rw [← hW0] at HT ⊢
  clear hW0
  obtain ⟨x0, x1, x2, x3⟩ := HT.out.ba.cells; obtain ⟨y0, y1, y2, y3⟩ := HT.out.bb.cells; obtain ⟨z0, z1, z2, z3⟩ := HT.out.br.cells; have f0 := HT.out.br.frozen 0; have f1 := HT.out.br.frozen 1; have f2 := HT.out.br.frozen 2; have f3 := HT.out.br.frozen 3
  first | (go_region_with (first
    | (go_at_call 34; refine (con_o ⟨#[45, 62]⟩ _).mono ?_; rintro e w2 ⟨rfl, hb⟩; have HT2 := HT; clear x0 x1 x2 x3 y0 y1 y2 y3 z0 z1 z2 z3 f0 f1 f2 f3; clear HT; have HT := Lib.hid (by first | exact HT2.out.next hb | exact HT2.out.drew.next hb); clear HT2 hb; obtain ⟨x0, x1, x2, x3⟩ := HT.out.ba.cells; obtain ⟨y0, y1, y2, y3⟩ := HT.out.bb.cells; obtain ⟨z0, z1, z2, z3⟩ := HT.out.br.cells; have f0 := HT.out.br.frozen 0; have f1 := HT.out.br.frozen 1; have f2 := HT.out.br.frozen 2; have f3 := HT.out.br.frozen 3)
    | (go_at_call 33; refine (app_o (ok := (· ≠ w.heap.size + 1 + 1)) _ tb _ _ _ (three_ok HT.out) HV7.out (HVB.out _ HT.out.below)).mono ?_; rintro e w4 ⟨v, rfl, ⟨b9, c9, rfl, hs9, hl9⟩, hb⟩; have HV9 := Lib.hid (show VO (· ≠ w.heap.size + 1 + 1) w4 (arrow ta tb) _ from ⟨b9, c9, rfl, hs9, hl9⟩); clear hs9 hl9 HV7; have HT2 := HT; clear x0 x1 x2 x3 y0 y1 y2 y3 z0 z1 z2 z3 f0 f1 f2 f3; clear HT; have HT := Lib.hid (by first | exact HT2.out.next hb | exact HT2.out.drew.next hb); clear HT2 hb; obtain ⟨x0, x1, x2, x3⟩ := HT.out.ba.cells; obtain ⟨y0, y1, y2, y3⟩ := HT.out.bb.cells; obtain ⟨z0, z1, z2, z3⟩ := HT.out.br.cells; have f0 := HT.out.br.frozen 0; have f1 := HT.out.br.frozen 1; have f2 := HT.out.br.frozen 2; have f3 := HT.out.br.frozen 3)
    | (go_at_call 33; refine (app_o (ok := (· ≠ w.heap.size + 1 + 1)) (.mk 2 0 [45, 62] []) ta _ _ _ (three_ok HT.out) (vo_leaf _ _ 2 0 ⟨#[45, 62]⟩ (by decide)) (HVA.out _ HT.out.below)).mono ?_; rintro e w3 ⟨v, rfl, ⟨b7, c7, rfl, hs7, hl7⟩, hb⟩; have HV7 := Lib.hid (show VO (· ≠ w.heap.size + 1 + 1) w3 (.mk 3 0 [] [.mk 2 0 [45, 62] [], ta]) _ from ⟨b7, c7, rfl, hs7, hl7⟩); clear hs7 hl7; have HT2 := HT; clear x0 x1 x2 x3 y0 y1 y2 y3 z0 z1 z2 z3 f0 f1 f2 f3; clear HT; have HT := Lib.hid (by first | exact HT2.out.next hb | exact HT2.out.drew.next hb); clear HT2 hb; obtain ⟨x0, x1, x2, x3⟩ := HT.out.ba.cells; obtain ⟨y0, y1, y2, y3⟩ := HT.out.bb.cells; obtain ⟨z0, z1, z2, z3⟩ := HT.out.br.cells; have f0 := HT.out.br.frozen 0; have f1 := HT.out.br.frozen 1; have f2 := HT.out.br.frozen 2; have f3 := HT.out.br.frozen 3))) | fail
  all_goals
    go_wp2_with fail
    refine bodyPost_ret (results_ty (a := 4) (by kernel_rfl) (B := w.heap.size + 1 + 1) (by rfl) (put4_cells HT.out.br _ _ _ _).cells.1 (put4_cells HT.out.br _ _ _ _).cells.2.1 (put4_cells HT.out.br _ _ _ _).cells.2.2.1 (put4_cells HT.out.br _ _ _ _).cells.2.2.2) rfl ?_
    first
    | exact ⟨_, rfl, (HV9.out.put _ _ _ _).weak, below_put4 HT.out.below (by omega) _ _ _ _⟩
    | exact ⟨_, rfl, (HV9.out.put _ _ _ _).weak, (below_put4 HT.out.below (by omega) _ _ _ _).drew⟩

end Ty
end Go.Proofs.Ytfjgebdpbmnicaa
