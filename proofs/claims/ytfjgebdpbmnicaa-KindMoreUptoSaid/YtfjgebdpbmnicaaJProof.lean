/- The law KindMore returns true for every place, type and environment of bulk at most 1048576 together; the arguments read afterwards as before. Conditions: none beyond the statement's own. -/
import Derived.Test.YtfjgebdpbmnicaaRows
import Derived.Test.YtfjgebdpbmnicaaJ53
import Derived.Deep.Slices
import Derived.Carry
import Derived.WideShapes
import Derived.WalkKit
import Derived.ProofKit
import Derived.OpenShut
import Derived.JoinedCond
namespace Go.Proofs.Ytfjgebdpbmnicaa.kindMore
open Go.ChangeShapes Go.WideShapes Go.ChangeAt Go.RowKit

theorem own : ownKnob Try.prog.godebug = none := by kernel_rfl

theorem agg_of {a : Array Value} {l : List Value} (h : a.toList = l) : Value.agg a = .agg l.toArray := by rw [← h]

/-! ### THE ROW's STEP: WRITTEN OUT: LEAVE IT -/
set_option maxRecDepth 100000 in
theorem lifted (os : Os) (started : os.Started) (H : Type) (enc : TypeId × Value → H) (F : Stop.Interp) :
    ReturnsInHanded {} Try.checked os 3 .any ((Rows.OpenSpec.upto Rows.kindMoreSpec).pre6 enc Try.prog Try.f3 Rows.kindMoreUptoRow.domain false) (((Rows.OpenSpec.upto Rows.kindMoreSpec).at F).post enc Try.prog Try.f3 false true false false) := by
  refine returnsInHanded_of_cond (C := Try.checked) (s := Rows.OpenSpec.upto Rows.kindMoreSpec) (k := Rows.uptoSmall) rfl own started (by kernel_rfl) Try.func3
    (OpenSpec.witness (enc := enc) (C := Try.checked) (s := Rows.OpenSpec.upto Rows.kindMoreSpec) (k := Rows.uptoSmall) rfl false ⟨#[], #[.agg #[.slice none 0 0, .slice none 0 0, .slice none 0 0, .slice none 0 0, .slice none 0 0, .slice none 0 0, .slice none 0 0, .slice none 0 0, .slice none 0 0], .agg #[.int .i64 0, .int .i64 0, .string ByteArray.empty, .slice none 0 0], .agg #[.slice none 0 0, .slice none 0 0, .slice none 0 0, .slice none 0 0, .slice none 0 0, .slice none 0 0]], []⟩ 8 (by kernel_rfl) (by kernel_rfl) (by kernel_rfl)
      (x := ([.agg [.agg [.nil, .nil, .nil, .nil, .nil, .nil], .nil, .nil, .nil], .agg [.lit (.int .i64 0), .lit (.int .i64 0), .lit (.string []), .nil], .agg [.nil, .nil, .nil, .nil, .nil, .nil]], [], [])) (by kernel_rfl) rfl (by kernel_rfl)) ?_
  intro W base args ds gs before hval0 hW _ hk _
  have hval : ∀ (j : Nat) t v, Try.f3.params[j]? = some t → args[j]? = some v → Value.okWide Try.prog W .any base t v := hval0
  have hW' := hW
  obtain ⟨p, q, hA0, hV, rfl, hfz, hnd⟩ := hW
  have hA : DataW.TrodAll enc Try.prog W 0 (fun _ => true) true Try.f3.params.toList args.toList ds p := hA0
  rw [Try.params3] at hA hval
  obtain ⟨v0, vs0, d0, ds0, p0, q0, hargs, rfl, rfl, h0, r0⟩ := trodAll_cons hA
  obtain ⟨v1, vs1, d1, ds1, p1, q1, rfl, rfl, rfl, h1, r1⟩ := trodAll_cons r0
  obtain ⟨v2, vs2, d2, ds2, p2, q2, rfl, rfl, rfl, h2, r2⟩ := trodAll_cons r1
  obtain ⟨rfl, rfl, rfl⟩ := trodAll_nil r2
  obtain rfl : args = #[v0, v1, v2] := by cases args; simp_all
  obtain ⟨rfl, rfl⟩ := trodVars_none hV
  have hbk : Rows.uptoBulk d0 + Rows.uptoBulk d1 + Rows.uptoBulk d2 ≤ 1048576 := by
    have h := of_decide_eq_true hk
    simp only [List.append_nil, Rows.uptoBulkAll] at h
    omega
  obtain ⟨f0, f1, f2, f3, L⟩ := Ty.laid
  have hagg0 : ∃ a, v0 = .agg a := by
    obtain ⟨cs, hcs, _⟩ := okWide_struct Try.underlying34 (hval 0 34 v0 rfl rfl)
    exact ⟨cs, hcs⟩
  have hagg1 : ∃ a, v1 = .agg a := by
    obtain ⟨cs, hcs, _⟩ := okWide_struct Try.underlying36 (hval 1 36 v1 rfl rfl)
    exact ⟨cs, hcs⟩
  have hagg2 : ∃ a, v2 = .agg a := by
    obtain ⟨cs, hcs, _⟩ := okWide_struct Try.underlying29 (hval 2 29 v2 rfl rfl)
    exact ⟨cs, hcs⟩
  obtain ⟨t, ht⟩ := Ty.open_ty L hagg1 h1
  have h0k := h0
  have h2k := h2
  obtain ⟨fuel0, hf0⟩ := h0
  obtain ⟨fuel2, hf2⟩ := h2
  obtain ⟨a0, rfl⟩ := hagg0
  obtain ⟨a2, rfl⟩ := hagg2
  obtain ⟨M, hMI⟩ := Ty.open_env hf2
  obtain ⟨e0, e1, e2, e3, e4, e5, e6, e7, e8, y0, y1, y2, y3, n, hcs, hx, g0, g1, g2, g3⟩ := Ty.parts34 hf0
  obtain ⟨env, hEI⟩ := Ty.open_env g0
  obtain ⟨metas, mb, mc, _, rfl, hm, _, _, _, _⟩ := Ty.open_slG (R := Ty.MetAt) Try.underlying30 Ty.cells92 (by omega) (fun _ => 0) (fun _ _ _ hy => Ty.each92 hy) g1
  obtain ⟨rigids, rb, rc, _, rfl, hr, _, _, _, _⟩ := Ty.open_slG (R := Ty.RigAt) Try.underlying31 Ty.cells96 (by omega) (fun _ => 0) (fun _ _ _ hy => Ty.each96 hy) g2
  obtain ⟨ctx, xb, xc, rfl, hc, hcx, _⟩ := Ty.open_types g3
  have hN : Rows.uptoBulk y0.1 + Rows.uptoBulk d2 ≤ 1048576 := by
    have hx' : d0 = _ := hx
    rw [hx'] at hbk
    simp only [Rows.uptoBulk, Rows.uptoBulkAll] at hbk
    omega
  have hcs' : a0.toList = _ := hcs
  have hlt0 : ∀ x ∈ p0, x.block < W.heap.size := fun x hx => by simpa using hW'.lt x (by simp [hx])
  have hlt1 : ∀ x ∈ p1, x.block < W.heap.size := fun x hx => by simpa using hW'.lt x (by simp [hx])
  have hlt2 : ∀ x ∈ p2, x.block < W.heap.size := fun x hx => by simpa using hW'.lt x (by simp [hx])
  clear hA0 hval0
  have hwalk : Calls Try.prog 3 #[.agg a0, v1, .agg a2] W fun e W' => e = .returned (.bool true) ∧ Below W.heap.size W W' := by
    have h := Ty.law_more hEI hMI hN metas rigids ctx t mb rb xb mc rc xc v1 hm hr hc hcx ht
    rw [agg_of hcs']
    exact h
  refine hwalk.mono fun e W' ⟨he, hb⟩ => ?_
  subst he
  have hret0 := RowKit.Below.trod (enc := enc) (P := Try.prog) (t := 34) (by kernel_rfl) (by kernel_rfl) (of_decide_eq_true (by kernel_rfl)) h0k hb hlt0
  have hret1 := RowKit.Below.trod (enc := enc) (P := Try.prog) (t := 36) (by kernel_rfl) (by kernel_rfl) (of_decide_eq_true (by kernel_rfl)) h1 hb hlt1
  have hret2 := RowKit.Below.trod (enc := enc) (P := Try.prog) (t := 29) (by kernel_rfl) (by kernel_rfl) (of_decide_eq_true (by kernel_rfl)) h2k hb hlt2
  exact ⟨_, rfl, _, _, _, [], _, [], hW', trodAll_cons_mk (shut_bool Try.underlying4 _) trodAll_mk0, trodAll_cons_mk hret0 (trodAll_cons_mk hret1 (trodAll_cons_mk hret2 trodAll_mk0)), rfl, hb.frame _, fun h => by cases h⟩

theorem over : Rows.kindMoreUptoRow.holds Try.pinned (Rows.OpenSpec.upto Rows.kindMoreSpec) :=
  OpenClaim.holds_of_cond 3 Try.f3 rfl rfl rfl rfl rfl rfl rfl ⟨rfl, rfl, rfl, rfl, rfl⟩ rfl rfl rfl rfl rfl (by kernel_rfl) Try.func3 (by kernel_rfl)
    (of_decide_eq_true (by kernel_rfl)) (by unfold Func.isWrapper; first | (rw [if_pos (by decide +kernel)]; kernel_rfl) | (rw [if_neg (by decide +kernel)]; exact ⟨rfl, rfl⟩))
    (fun os started H enc _ F => lifted os started H enc F)

theorem proved : Rows.KindMoreUptoSaid :=
  over
#print axioms proved
end Go.Proofs.Ytfjgebdpbmnicaa.kindMore
