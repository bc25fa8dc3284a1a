/- The law TypesOrders returns true for every two types; the arguments read afterwards as before. Conditions: none beyond the statement's own. -/
import Derived.Test.YtkedhnahgpmkaaaRows
import Derived.Test.YtkedhnahgpmkaaaTyOrdersLaw
import Derived.Deep.Slices
import Derived.Carry
import Derived.WideShapes
import Derived.WalkKit
import Derived.ProofKit
import Derived.OpenShut
import Derived.SizedLaws
namespace Go.Proofs.Ytkedhnahgpmkaaa.typesOrders
open Go.ChangeShapes Go.WideShapes Go.ChangeAt Go.RowKit

theorem own : ownKnob Try.prog.godebug = none := by kernel_rfl

theorem laid : ∃ f0 f1 f2 f3, Ty.Laid Try.prog 24 22 3 9 f0 f1 f2 f3 :=
  ⟨_, _, _, _, { hT := Try.underlying24, hS := Try.underlying22, hI := Try.underlying3, hSt := Try.underlying9, t0 := by kernel_rfl, t1 := by kernel_rfl, t2 := by kernel_rfl, t3 := by kernel_rfl, o0 := by kernel_rfl, o1 := by kernel_rfl, o2 := by kernel_rfl, o3 := by kernel_rfl, cT := by kernel_rfl, cI := by kernel_rfl, cSt := by kernel_rfl, cS := by kernel_rfl }⟩

/-! ### THE ROW's STEP: WRITTEN OUT: LEAVE IT -/
set_option maxRecDepth 100000 in
theorem lifted (os : Os) (started : os.Started) (H : Type) (enc : TypeId × Value → H) :
    ReturnsInHanded {} Try.checked os 7 .any (Rows.typesOrdersSpec.pre6 enc Try.prog Try.f7 Rows.typesOrdersRow.domain false) (Rows.typesOrdersSpec.post enc Try.prog Try.f7 false true false false) := by
  refine returnsInHanded_of_change_sized (C := Try.checked) own started (by kernel_rfl) Try.func7
    (ChangeSpec.witness6 (enc := enc) (C := Try.checked) false ⟨#[], #[.agg #[.int .i64 0, .int .i64 0, .string ByteArray.empty, .slice none 0 0], .agg #[.int .i64 0, .int .i64 0, .string ByteArray.empty, .slice none 0 0]], []⟩ 8 (by kernel_rfl) (by kernel_rfl) (by kernel_rfl) (by kernel_rfl)) ?_
  intro W base args ds gs before hval0 hW hcnd hsz0 _
  have hval : ∀ (j : Nat) t v, Try.f7.params[j]? = some t → args[j]? = some v → Value.okWide Try.prog W .any base t v := hval0
  have hW' := hW
  obtain ⟨p, q, hA0, hV, rfl, hfz, hnd⟩ := hW
  have hA : DataW.TrodAll enc Try.prog W 0 (fun _ => true) true Try.f7.params.toList args.toList ds p := hA0
  rw [Try.params7] at hA hval
  obtain ⟨v0, vs0, d0, ds0, p0, q0, hargs, rfl, rfl, h0, r0⟩ := trodAll_cons hA
  obtain ⟨v1, vs1, d1, ds1, p1, q1, rfl, rfl, rfl, h1, r1⟩ := trodAll_cons r0
  obtain ⟨rfl, rfl, rfl⟩ := trodAll_nil r1
  obtain rfl : args = #[v0, v1] := by cases args; simp_all
  obtain ⟨rfl, rfl⟩ := trodVars_none hV
  obtain ⟨f0, f1, f2, f3, L⟩ := laid
  have hagg0 : ∃ a, v0 = .agg a := by
    obtain ⟨cs, hcs, _⟩ := okWide_struct Try.underlying24 (hval 0 24 v0 rfl rfl)
    exact ⟨cs, hcs⟩
  obtain ⟨t0, ht0⟩ := Ty.open_ty L hagg0 h0
  have hlt0 : ∀ x ∈ p0, x.block < W.heap.size := fun x hx => by simpa using hW'.lt x (by simp [hx])
  have hagg1 : ∃ a, v1 = .agg a := by
    obtain ⟨cs, hcs, _⟩ := okWide_struct Try.underlying24 (hval 1 24 v1 rfl rfl)
    exact ⟨cs, hcs⟩
  obtain ⟨t1, ht1⟩ := Ty.open_ty L hagg1 h1
  have hlt1 : ∀ x ∈ p1, x.block < W.heap.size := fun x hx => by simpa using hW'.lt x (by simp [hx])
  clear hA0 hval0
  refine (Ty.law_orders t0 t1 v0 v1 W ht0 ht1).mono fun e W' ⟨he, hb⟩ => ?_
  subst he
  have hret0 := RowKit.Below.trod (enc := enc) (P := Try.prog) (t := 24) (by kernel_rfl) (by kernel_rfl) (of_decide_eq_true (by kernel_rfl)) h0 hb hlt0
  have hret1 := RowKit.Below.trod (enc := enc) (P := Try.prog) (t := 24) (by kernel_rfl) (by kernel_rfl) (of_decide_eq_true (by kernel_rfl)) h1 hb hlt1
  exact ⟨_, rfl, _, _, _, [], _, [], hW', trodAll_cons_mk (shut_bool Try.underlying4 _) trodAll_mk0, trodAll_cons_mk hret0 (trodAll_cons_mk hret1 trodAll_mk0), rfl, hb.frame _, fun h => by cases h⟩

theorem over : Rows.typesOrdersRow.holds Try.pinned (OpenSpec.ofChange Rows.typesOrdersSpec) :=
  OpenClaim.holds_of_wide 7 Try.f7 rfl rfl rfl rfl rfl rfl rfl ⟨rfl, rfl, rfl, rfl, rfl⟩ rfl rfl rfl rfl rfl (by kernel_rfl) Try.func7 (by kernel_rfl)
    (of_decide_eq_true (by kernel_rfl)) (by unfold Func.isWrapper; first | (rw [if_pos (by decide +kernel)]; kernel_rfl) | (rw [if_neg (by decide +kernel)]; exact ⟨rfl, rfl⟩))
    (fun os started H enc _ => lifted os started H enc)

theorem proved : Rows.TypesOrdersSaid :=
  over
#print axioms proved
end Go.Proofs.Ytkedhnahgpmkaaa.typesOrders
