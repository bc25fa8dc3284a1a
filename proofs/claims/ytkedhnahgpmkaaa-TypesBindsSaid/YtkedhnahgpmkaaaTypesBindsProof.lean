/- The law TypesBinds returns true for every type, every number and every list of numbers; the arguments read afterwards as before. Conditions: none beyond the statement's own. -/
import Derived.Test.YtkedhnahgpmkaaaRows
import Derived.Test.YtkedhnahgpmkaaaTyBindsLaw
import Derived.Deep.Slices
import Derived.Carry
import Derived.WideShapes
import Derived.WalkKit
import Derived.ProofKit
import Derived.OpenShut
import Derived.SizedLaws
namespace Go.Proofs.Ytkedhnahgpmkaaa.typesBinds
open Go.ChangeShapes Go.WideShapes Go.ChangeAt Go.RowKit

theorem own : ownKnob Try.prog.godebug = none := by kernel_rfl

theorem laid : ∃ f0 f1 f2 f3, Ty.Laid Try.prog 24 22 3 9 f0 f1 f2 f3 :=
  ⟨_, _, _, _, { hT := Try.underlying24, hS := Try.underlying22, hI := Try.underlying3, hSt := Try.underlying9, t0 := by kernel_rfl, t1 := by kernel_rfl, t2 := by kernel_rfl, t3 := by kernel_rfl, o0 := by kernel_rfl, o1 := by kernel_rfl, o2 := by kernel_rfl, o3 := by kernel_rfl, cT := by kernel_rfl, cI := by kernel_rfl, cSt := by kernel_rfl, cS := by kernel_rfl }⟩

/-! ### THE ROW's STEP: WRITTEN OUT: LEAVE IT -/
set_option maxRecDepth 100000 in
theorem lifted (os : Os) (started : os.Started) (H : Type) (enc : TypeId × Value → H) :
    ReturnsInHanded {} Try.checked os 9 .any (Rows.typesBindsSpec.pre6 enc Try.prog Try.f9 Rows.typesBindsRow.domain false) (Rows.typesBindsSpec.post enc Try.prog Try.f9 false true false false) := by
  refine returnsInHanded_of_change_sized (C := Try.checked) own started (by kernel_rfl) Try.func9
    (ChangeSpec.witness6 (enc := enc) (C := Try.checked) false ⟨#[], #[.agg #[.int .i64 0, .int .i64 0, .string ByteArray.empty, .slice none 0 0], .int .i64 0, .slice none 0 0], []⟩ 8 (by kernel_rfl) (by kernel_rfl) (by kernel_rfl) (by kernel_rfl)) ?_
  intro W base args ds gs before hval0 hW hcnd _ _
  have hval : ∀ (j : Nat) t v, Try.f9.params[j]? = some t → args[j]? = some v → Value.okWide Try.prog W .any base t v := hval0
  have hW' := hW
  obtain ⟨p, q, hA0, hV, rfl, hfz, hnd⟩ := hW
  have hA : DataW.TrodAll enc Try.prog W 0 (fun _ => true) true Try.f9.params.toList args.toList ds p := hA0
  rw [Try.params9] at hA hval
  obtain ⟨v0, vs0, d0, ds0, p0, q0, hargs, rfl, rfl, h0, r0⟩ := trodAll_cons hA
  obtain ⟨v1, vs1, d1, ds1, p1, q1, rfl, rfl, rfl, h1, r1⟩ := trodAll_cons r0
  obtain ⟨v2, vs2, d2, ds2, p2, q2, rfl, rfl, rfl, h2, r2⟩ := trodAll_cons r1
  obtain ⟨rfl, rfl, rfl⟩ := trodAll_nil r2
  obtain rfl : args = #[v0, v1, v2] := by cases args; simp_all
  obtain ⟨rfl, rfl⟩ := trodVars_none hV
  obtain ⟨f0, f1, f2, f3, L⟩ := laid
  have hagg : ∃ a, v0 = .agg a := by
    obtain ⟨cs, hcs, _⟩ := okWide_struct Try.underlying24 (hval 0 24 v0 rfl rfl)
    exact ⟨cs, hcs⟩
  obtain ⟨t, ht⟩ := Ty.open_ty L hagg h0
  obtain ⟨a1, rfl, rfl, rfl, w1⟩ := open_int Try.underlying3 (hval 1 3 v1 rfl rfl) h1
  obtain ⟨a0, len, cap, rfl⟩ := Go.WideShapes.okWide_slice Try.underlying25 (hval 2 25 v2 rfl rfl)
  have h2k := h2
  obtain ⟨fuel, hf⟩ := h2
  obtain ⟨l, b1, cap1, hv1, hsl, hrg, hcap⟩ := Ty.open_isl Try.underlying25 Try.underlying3 (by kernel_rfl) hf
  have hlt0 : ∀ x ∈ p0, x.block < W.heap.size := fun x hx => by simpa using hW'.lt x (by simp [hx])
  have hlt2 : ∀ x ∈ p2, x.block < W.heap.size := fun x hx => by simpa using hW'.lt x (by simp [hx])
  clear hA0 hval0
  have hwalk : Calls Try.prog 9 #[v0, .int .i64 a1, .slice a0 len cap] W fun e W' => e = .returned (.bool true) ∧ Below W.heap.size W W' := by
    rw [hv1]
    exact Ty.law_binds t a1 l b1 cap1 v0 W ht hsl hrg hcap
  refine hwalk.mono fun e W' ⟨he, hb⟩ => ?_
  subst he
  have hret0 := RowKit.Below.trod (enc := enc) (P := Try.prog) (t := 24) (by kernel_rfl) (by kernel_rfl) (of_decide_eq_true (by kernel_rfl)) h0 hb hlt0
  have hret2 := RowKit.Below.trod (enc := enc) (P := Try.prog) (t := 25) (by kernel_rfl) (by kernel_rfl) (of_decide_eq_true (by kernel_rfl)) h2k hb hlt2
  exact ⟨_, rfl, _, _, _, [], _, [], hW', trodAll_cons_mk (shut_bool Try.underlying4 _) trodAll_mk0, trodAll_cons_mk hret0 (trodAll_cons_mk (shut_int Try.underlying3 w1) (trodAll_cons_mk hret2 trodAll_mk0)), rfl, hb.frame _, fun h => by cases h⟩

theorem over : Rows.typesBindsRow.holds Try.pinned (OpenSpec.ofChange Rows.typesBindsSpec) :=
  OpenClaim.holds_of_wide 9 Try.f9 rfl rfl rfl rfl rfl rfl rfl ⟨rfl, rfl, rfl, rfl, rfl⟩ rfl rfl rfl rfl rfl (by kernel_rfl) Try.func9 (by kernel_rfl)
    (of_decide_eq_true (by kernel_rfl)) (by unfold Func.isWrapper; first | (rw [if_pos (by decide +kernel)]; kernel_rfl) | (rw [if_neg (by decide +kernel)]; exact ⟨rfl, rfl⟩))
    (fun os started H enc _ => lifted os started H enc)

theorem proved : Rows.TypesBindsSaid :=
  over
#print axioms proved
end Go.Proofs.Ytkedhnahgpmkaaa.typesBinds
