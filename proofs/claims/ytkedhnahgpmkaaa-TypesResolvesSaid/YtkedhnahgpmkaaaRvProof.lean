/- The law TypesResolves returns true for every list of metavariables and every type; the arguments read afterwards as before. Conditions: none beyond the statement's own. -/
import Derived.Test.YtkedhnahgpmkaaaRows
import Derived.Test.YtkedhnahgpmkaaaRvH
import Derived.Deep.Slices
import Derived.Carry
import Derived.WideShapes
import Derived.WalkKit
import Derived.ProofKit
import Derived.OpenShut
import Derived.SizedLaws
namespace Go.Proofs.Ytkedhnahgpmkaaa.typesResolves
open Go.ChangeShapes Go.WideShapes Go.ChangeAt Go.RowKit

theorem own : ownKnob Try.prog.godebug = none := by kernel_rfl

theorem laid : ∃ f0 f1 f2 f3, Ty.Laid Try.prog 24 22 3 9 f0 f1 f2 f3 :=
  ⟨_, _, _, _, { hT := Try.underlying24, hS := Try.underlying22, hI := Try.underlying3, hSt := Try.underlying9, t0 := by kernel_rfl, t1 := by kernel_rfl, t2 := by kernel_rfl, t3 := by kernel_rfl, o0 := by kernel_rfl, o1 := by kernel_rfl, o2 := by kernel_rfl, o3 := by kernel_rfl, cT := by kernel_rfl, cI := by kernel_rfl, cSt := by kernel_rfl, cS := by kernel_rfl }⟩

/-! ### THE ROW's STEP: WRITTEN OUT: LEAVE IT -/
set_option maxRecDepth 100000 in
theorem lifted (os : Os) (started : os.Started) (H : Type) (enc : TypeId × Value → H) :
    ReturnsInHanded {} Try.checked os 8 .any (Rows.typesResolvesSpec.pre6 enc Try.prog Try.f8 Rows.typesResolvesRow.domain false) (Rows.typesResolvesSpec.post enc Try.prog Try.f8 false true false false) := by
  refine returnsInHanded_of_change_sized (C := Try.checked) own started (by kernel_rfl) Try.func8
    (ChangeSpec.witness6 (enc := enc) (C := Try.checked) false ⟨#[], #[.slice none 0 0, .agg #[.int .i64 0, .int .i64 0, .string ByteArray.empty, .slice none 0 0]], []⟩ 8 (by kernel_rfl) (by kernel_rfl) (by kernel_rfl) (by kernel_rfl)) ?_
  intro W base args ds gs before hval0 hW hcnd hsz0 _
  have hsz : (DataW.weightsEach Try.prog (Try.f8.params.toList ++ Rows.typesResolvesSpec.plain.varTypes Try.prog) (ds ++ gs)).all (· ≤ reachBytes) = true := hsz0
  have hval : ∀ (j : Nat) t v, Try.f8.params[j]? = some t → args[j]? = some v → Value.okWide Try.prog W .any base t v := hval0
  have hW' := hW
  obtain ⟨p, q, hA0, hV, rfl, hfz, hnd⟩ := hW
  have hA : DataW.TrodAll enc Try.prog W 0 (fun _ => true) true Try.f8.params.toList args.toList ds p := hA0
  rw [Try.params8] at hA hval hsz
  obtain ⟨v0, vs0, d0, ds0, p0, q0, hargs, rfl, rfl, h0, r0⟩ := trodAll_cons hA
  obtain ⟨v1, vs1, d1, ds1, p1, q1, rfl, rfl, rfl, h1, r1⟩ := trodAll_cons r0
  obtain ⟨rfl, rfl, rfl⟩ := trodAll_nil r1
  obtain rfl : args = #[v0, v1] := by cases args; simp_all
  obtain ⟨rfl, rfl⟩ := trodVars_none hV
  obtain ⟨f0, f1, f2, f3, L⟩ := laid
  have hagg : ∃ a, v1 = .agg a := by
    obtain ⟨cs, hcs, _⟩ := okWide_struct Try.underlying24 (hval 1 24 v1 rfl rfl)
    exact ⟨cs, hcs⟩
  obtain ⟨t, ht⟩ := Ty.open_ty L hagg h1
  obtain ⟨a0, len, cap, rfl⟩ := Go.WideShapes.okWide_slice Try.underlying62 (hval 0 62 v0 rfl rfl)
  have h0k := h0
  obtain ⟨fuel, hf⟩ := h0
  obtain ⟨M, b1, cap1, hv1, hms⟩ := Ty.open_ms L Try.underlying62 Try.underlying98 Try.underlying4 (by kernel_rfl) (by kernel_rfl) (by kernel_rfl) (by kernel_rfl) (by kernel_rfl) (by kernel_rfl) (by kernel_rfl) (by kernel_rfl) (by kernel_rfl) (by kernel_rfl) hf
  have hlen : M.length ≤ 1099511627776 := by
    rcases Go.Deep.open_slice Try.underlying62 hf with ⟨hcs, _⟩ | ⟨a, len', cap', m, n, D, Pl, hcs, _, hl, hm, hmm, hx, hel⟩
    · obtain ⟨rfl, rfl, rfl⟩ : a0 = none ∧ len = 0 ∧ cap = 0 := by simpa [Value.cells] using hcs
      injection hv1 with _ e _
      omega
    · obtain ⟨rfl, rfl, rfl⟩ : a0 = some a ∧ len = len' ∧ cap = cap' := by simpa [Value.cells] using hcs
      have hd : d0 = .slice ((List.range len).map D) ((List.range (m - len)).map fun j => D (len + j)) := congrArg Prod.fst hx
      have hsize := sized_slice hsz (j := 0) (t := 62) (elems := (List.range len).map D) (spare := (List.range (m - len)).map fun j => D (len + j)) rfl (by rw [← hd]; rfl) Try.underlying62
      rw [List.length_map, List.length_range, show Try.prog.bytesOf 98 = 128 from by kernel_rfl] at hsize
      unfold reachBytes at hsize
      have h128 : len * 128 ≤ 140737488351232 := Nat.le_trans (Nat.mul_le_mul_right 128 (Nat.le_add_right _ _)) hsize
      injection hv1 with _ e _
      omega
  have hlt0 : ∀ x ∈ p0, x.block < W.heap.size := fun x hx => by simpa using hW'.lt x (by simp [hx])
  have hlt1 : ∀ x ∈ p1, x.block < W.heap.size := fun x hx => by simpa using hW'.lt x (by simp [hx])
  clear hA0 hval0
  have hwalk : Calls Try.prog 8 #[.slice a0 len cap, v1] W fun e W' => e = .returned (.bool true) ∧ Below W.heap.size W W' := by
    rw [hv1]
    exact Ty.law_resolves M t b1 cap1 v1 W hms ht hlen
  refine hwalk.mono fun e W' ⟨he, hb⟩ => ?_
  subst he
  have hret0 := RowKit.Below.trod (enc := enc) (P := Try.prog) (t := 62) (by kernel_rfl) (by kernel_rfl) (of_decide_eq_true (by kernel_rfl)) h0k hb hlt0
  have hret1 := RowKit.Below.trod (enc := enc) (P := Try.prog) (t := 24) (by kernel_rfl) (by kernel_rfl) (of_decide_eq_true (by kernel_rfl)) h1 hb hlt1
  exact ⟨_, rfl, _, _, _, [], _, [], hW', trodAll_cons_mk (shut_bool Try.underlying4 _) trodAll_mk0, trodAll_cons_mk hret0 (trodAll_cons_mk hret1 trodAll_mk0), rfl, hb.frame _, fun h => by cases h⟩

theorem over : Rows.typesResolvesRow.holds Try.pinned (OpenSpec.ofChange Rows.typesResolvesSpec) :=
  OpenClaim.holds_of_wide 8 Try.f8 rfl rfl rfl rfl rfl rfl rfl ⟨rfl, rfl, rfl, rfl, rfl⟩ rfl rfl rfl rfl rfl (by kernel_rfl) Try.func8 (by kernel_rfl)
    (of_decide_eq_true (by kernel_rfl)) (by unfold Func.isWrapper; first | (rw [if_pos (by decide +kernel)]; kernel_rfl) | (rw [if_neg (by decide +kernel)]; exact ⟨rfl, rfl⟩))
    (fun os started H enc _ => lifted os started H enc)

theorem proved : Rows.TypesResolvesSaid :=
  over
#print axioms proved
end Go.Proofs.Ytkedhnahgpmkaaa.typesResolves
