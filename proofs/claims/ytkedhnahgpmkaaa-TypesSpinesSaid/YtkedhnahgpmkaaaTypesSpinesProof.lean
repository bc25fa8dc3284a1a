/- The law TypesSpines returns true for every type and every list of types; the arguments read afterwards as before. Conditions: none beyond the statement's own. -/
import Derived.Test.YtkedhnahgpmkaaaRows
import Derived.Test.YtkedhnahgpmkaaaTySpinesW
import Derived.Deep.Slices
import Derived.Carry
import Derived.WideShapes
import Derived.WalkKit
import Derived.ProofKit
import Derived.OpenShut
import Derived.SizedLaws
namespace Go.Proofs.Ytkedhnahgpmkaaa
open Go.RowKit

namespace Ty
theorem vo_zeros (ok : Nat → Prop) (w : World) : VO ok w zeroT zeroV := ⟨none, 0, rfl, by decide, by decide, .inl rfl⟩
theorem sl_nil (w : World) : Sl w none [] := ⟨Nat.zero_le _, .inl rfl⟩
theorem spineR_ex {t : Ty} (hg : Good t) : ∃ h l, SpineR t h l ∧ l.length + 1 ≤ nodes t := by
  induction hg with
  | var op n h1 h2 h3 => exact ⟨_, [], .done _ (by show op ≠ 3; omega), nodes_pos _⟩
  | con s h1 h2 => exact ⟨_, [], .done _ (by show (2 : Int) ≠ 3; decide), nodes_pos _⟩
  | node op x y hop hx hy ihx ihy =>
    by_cases h3 : op = 3
    · subst h3
      obtain ⟨h, l, h1, h2⟩ := ihx
      exact ⟨h, y :: l, .app x y h l h1, by rw [nodes_node]; simp only [List.length_cons]; omega⟩
    · exact ⟨_, [], .done _ h3, nodes_pos _⟩
theorem argR_few : ∀ {t : Ty} {l : List Ty} {h : Ty}, ArgR t l h → l.length + 1 ≤ nodes t := by
  intro t l h a
  induction a with
  | done t hne => exact nodes_pos _
  | app k a r h l hf hr ih =>
    rw [nodes_node, nodes_node]
    have h1 := nodes_pos k
    have h2 := nodes_pos a
    simp only [List.length_cons]
    omega
theorem spineR_few : ∀ {t h : Ty} {l : List Ty}, SpineR t h l → l.length + 1 ≤ nodes t := by
  intro t h l a
  induction a with
  | done t hne => exact nodes_pos _
  | app f x h l hr ih =>
    rw [nodes_node]
    have h1 := nodes_pos x
    simp only [List.length_cons]
    omega
theorem argR_ex : ∀ (n : Nat) {t : Ty}, nodes t ≤ n → Good t → ∃ l h, ArgR t l h
  | 0, t, hn, _ => by have := nodes_pos t; omega
  | n + 1, t, hn, hg => by
    cases hf : isFun t with
    | false => exact ⟨[], t, .done _ hf⟩
    | true =>
      obtain ⟨k, a, r, rfl, hk, ha, hr⟩ := isFun_form hg hf
      rw [nodes_node, nodes_node] at hn
      have h1 := nodes_pos k
      have h2 := nodes_pos a
      obtain ⟨l, h, h3⟩ := argR_ex n (by omega) hr
      exact ⟨a :: l, h, .app k a r h l hf h3⟩
theorem slo_true {w : World} {base : Option Addr} {l : List Ty} (h : Sl w base l) : SlO (fun _ => True) w base l := by
  refine ⟨h.1, ?_⟩
  rcases h.2 with h0 | ⟨g, o, e, hr⟩
  · exact .inl h0
  · by_cases hne : l = []
    · exact .inl hne
    · exact .inr ⟨g, o, e, trivial, RowO.keep (ok := (· < w.heap.size)) (fun _ _ => trivial) (fun _ _ _ hc => hc) (row_lt hr hne) (Row.bound hr)⟩
theorem vo_true {w : World} {t : Ty} {v : Value} (h : V w t v) : VO (fun _ => True) w t v := h.bound.keep (fun _ _ => trivial) (fun _ _ _ hc => hc)
theorem tn_bad {w : World} {e : Ending} {w' : World} (h : BadP 2 w e w') : TnR zeroT 2 w e w' := ⟨zeroV, h.1, vo_zeros _ _, h.2⟩
/-- what a built type and its number are, and what the reference says of it -/
theorem tn_full {r : Ty} {w : World} {e : Ending} {w' : World} (h : PApP r w e w') : (isProper r = true → TnR r 0 w e w') ∧ (isProper r = false → TnR zeroT 5 w e w') := by
  obtain ⟨v, h1, h2, h3⟩ := h
  exact ⟨fun hp => ⟨v, by rw [h1, fullV_ok hp], h2, h3⟩, fun hp => ⟨zeroV, by rw [h1, fullV_bad hp], vo_zeros _ _, h3⟩⟩
theorem tn_whole (r : Ty) : ∃ (u : Ty) (g : Int), wholeT u g r = true ∧ ∀ w e w', PApP r w e w' → TnR u g w e w' := by
  cases hp : isProper r with
  | true => exact ⟨r, 0, by unfold wholeT; rw [if_pos hp, same_refl6]; rfl, fun w e w' h => (tn_full h).1 hp⟩
  | false => exact ⟨zeroT, 5, by unfold wholeT; rw [if_neg (by rw [hp]; simp), same_refl6]; rfl, fun w e w' h => (tn_full h).2 hp⟩

theorem law_spines (t : Ty) (l : List Ty) (base : Option Addr) (cap : Nat) (v : Value) (w : World) (hv : V w t v) (hl : Sl w base l) (hn : l.length ≤ 2513169434843) :
    Calls Try.prog 6 #[v, .slice base l.length cap] w fun e w' => e = .returned (.bool true) ∧ Below w.heap.size w w' := by
  cases hp : isProper t with
  | false =>
    refine spines_walk t zeroT zeroT zeroT zeroT 2 2 2 [] [] l base cap v w hv hl hn (fun W hb => ?_) (fun W hb => ?_) (fun W bb cap' hb hs => ?_) (fun W bb cap' hb hs => ?_) (.inl ⟨hp, rfl, rfl, rfl, rfl, rfl, rfl, rfl, rfl, rfl⟩)
    · exact (spine_bad t hp v W (hv.next hb)).mono fun e w' ⟨h1, h2⟩ => ⟨zeroV, none, 0, h1, (vo_zeros (fun _ => True) w').weak, sl_nil _, h2⟩
    · exact (pargs_bad t hp v W (hv.next hb)).mono fun e w' ⟨h1, h2⟩ => ⟨zeroV, none, 0, h1, (vo_zeros (fun _ => True) w').weak, sl_nil _, h2⟩
    · exact (papply_bad t l v bb cap' W (hv.next hb) hs (.inl hp)).mono fun e w' h => tn_bad h
    · exact (pfun_bad t l v bb cap' W (hv.next hb) hs (.inl hp)).mono fun e w' h => tn_bad h
  | true =>
    have hg := Good.of hp
    have hnt := proper_nodes t hp
    obtain ⟨h, zs, hsp, hfs⟩ := spineR_ex hg
    obtain ⟨ys, r, har⟩ := argR_ex _ (Nat.le_refl _) hg
    have hfa := argR_few har
    have h1 := fun (W : World) (hb : Below w.heap.size w W) => (spine_ok t hp v W (hv.next hb)).mono (R' := TlR h zs.reverse 0 W) fun e w' hS => by
      obtain ⟨h', acc, v', ov, e1, e2, e3, ⟨bb, cp, e4, e5⟩, e6⟩ := hS
      obtain ⟨q1, q2⟩ := SpineR.one e1 hsp
      subst q1 q2 e4
      exact ⟨v', bb, cp, by rw [e2], e3.weak, e5.weak, e6⟩
    have h2 := fun (W : World) (hb : Below w.heap.size w W) => (pargs_ok t hp v W (hv.next hb)).mono (R' := LtR r ys 0 W) fun e w' hS => by
      obtain ⟨h', acc, v', bb, cp, e1, e2, e3, e4, e5⟩ := hS
      obtain ⟨q1, q2⟩ := ArgR.one e1 har
      subst q1 q2
      exact ⟨v', bb, cp, e2, e3.weak, e4.weak, e5⟩
    have h3 := fun (W : World) (hb : Below w.heap.size w W) => (rspine_ok t hp v W (hv.next hb)).mono (R' := TlQ h zs.reverse W) fun e w' hS => by
      obtain ⟨h', acc, v', bb, cp, e1, e2, e3, e4, e5⟩ := hS
      obtain ⟨q1, q2⟩ := SpineR.one e1 hsp
      subst q1 q2
      exact ⟨v', bb, cp, by rw [e2, List.length_reverse], e3.next e5, e4, e5⟩
    have h4 := fun (W : World) (hb : Below w.heap.size w W) => (rargs_ok t hp v W (hv.next hb)).mono (R' := LtQ r ys W) fun e w' hS => by
      obtain ⟨h', acc, v', bb, cp, e1, e2, e3, e4, e5⟩ := hS
      obtain ⟨q1, q2⟩ := ArgR.one e1 har
      subst q1 q2
      exact ⟨v', bb, cp, e2, e3.next e5, e4, e5⟩
    have hzl : zs.reverse.length ≤ 600 := by rw [List.length_reverse]; omega
    cases hp2 : propersT l with
    | false =>
      exact spines_walk t h r zeroT zeroT 0 2 2 zs.reverse ys l base cap v w hv hl hn h1 h2
        (fun W bb cap' hb hs => (papply_bad t l v bb cap' W (hv.next hb) hs (.inr hp2)).mono fun e w' h => tn_bad h)
        (fun W bb cap' hb hs => (pfun_bad t l v bb cap' W (hv.next hb) hs (.inr hp2)).mono fun e w' h => tn_bad h)
        (.inr ⟨hp, rfl, hzl, by omega, h3, h4, .inl ⟨hp2, rfl, rfl, rfl, rfl⟩⟩)
    | true =>
      obtain ⟨uA, gA, wA, kA⟩ := tn_whole (applyT t l)
      obtain ⟨uF, gF, wF, kF⟩ := tn_whole (funT t l)
      refine spines_walk t h r uA uF 0 gA gF zs.reverse ys l base cap v w hv hl hn h1 h2
        (fun W bb cap' hb hs => (papply_ok t l v bb cap' W (hv.next hb) hs hp hp2).mono fun e w' h => kA _ _ _ h)
        (fun W bb cap' hb hs => (pfun_ok t l v bb cap' W (hv.next hb) hs hp hp2).mono fun e w' h => kF _ _ _ h)
        (.inr ⟨hp, rfl, hzl, by omega, h3, h4, .inr ⟨hp2, applyT t l, funT t l, wA, wF, fun W hb => ?_, fun W hb => ?_⟩⟩)
      · exact apply_o t l v base cap W (fun _ _ => trivial) (vo_true (hv.next hb)) (slo_true (hl.next hb))
      · exact rfun_o t l v base cap W (fun _ _ => trivial) (vo_true (hv.next hb)) (slo_true (hl.next hb))
section
variable {H : Type} {enc : TypeId × Value → H} {P : Program} {w : World} {base : Nat} {spare : Nat → Bool} {held : Bool}
/-- a list of types that comes in -/
theorem open_sl6 {T S I St : TypeId} {f0 f1 f2 f3 : Field} (L : Laid P T S I St f0 f1 f2 f3) {fuel : Nat} {v3 : Value} {x : DataW H × List MemPlace} (g3 : DataW.trod enc P w base spare held fuel S [v3] = some x) : ∃ l b cap, v3 = .slice b (List.length l) cap ∧ Sl w b l := by
  rcases DataW.trod_slice L.hS g3 with ⟨h3, _⟩ | ⟨a, len, cap, elems, rest, m, hm, h3, _, _, hlc, hcm, hel, hE, _, _⟩
  · exact ⟨[], none, 0, by injection h3, Nat.zero_le _, .inl rfl⟩
  · have h3' : v3 = .slice (some a) len cap := by injection h3
    have each : ∀ i, i < len → ∃ t, ∃ cs', w.cells? base (a.add (i * 4)) 4 = some cs' ∧ Cells w t cs' := fun i hi => by
      have hi2 := hE i hi
      rw [L.cT] at hi2
      rw [List.getElem?_eq_getElem (by omega)] at hi2
      obtain ⟨cs', c1, c2⟩ := Option.bind_eq_some_iff.1 hi2
      obtain ⟨t, ht⟩ := open_cells L m cs' _ c2
      exact ⟨t, cs', c1, ht⟩
    have hin : Inhabited Ty := ⟨.mk 0 0 [] []⟩
    obtain ⟨f, hfi⟩ := Go.Deep.choose_lt each
    refine ⟨(List.range len).map f, some a, cap, by rw [h3', List.length_map, List.length_range], by rw [List.length_map, List.length_range]; omega, ?_⟩
    by_cases hz : len = 0
    · left
      rw [hz]; rfl
    · right
      obtain ⟨cs0, c0, _⟩ := hfi 0 (by omega)
      obtain ⟨_, hl0, hc0⟩ := World.cells?_some c0
      have ha0 : w.cell? a = cs0[0]? := by
        have := hc0 0 (by omega)
        rw [Go.Deep.add_add] at this
        have e : a.add (0 * 4 + 0) = a := by unfold Addr.add; rw [if_pos (by omega)]
        rw [e] at this
        exact this
      rw [List.getElem?_eq_getElem (by omega)] at ha0
      have hsp := spot_none ha0
      obtain ⟨g, o, sp⟩ := a
      have hsp' : sp = none := hsp
      subst hsp'
      refine ⟨g, o, rfl, row_of (fun i hi => ?_)⟩
      have hi' : i < len := by
        have : i < ((List.range len).map f).length := hi
        rwa [List.length_map, List.length_range] at this
      obtain ⟨cs', c1, c2⟩ := hfi i hi'
      obtain ⟨_, hl', hc'⟩ := World.cells?_some c1
      have ef : ((List.range len).map f)[i]'hi = f i := (List.getElem_map (f := f) (l := List.range len) (i := i) (h := hi)).trans (congrArg f (List.getElem_range ..))
      show At w g (o + i * 4) (((List.range len).map f)[i]'hi)
      rw [ef]
      refine at_of_cells c2 (fun j hj => ?_)
      have := hc' j hj
      rw [add_none, add_none] at this
      exact this
end
end Ty
end Go.Proofs.Ytkedhnahgpmkaaa
namespace Go.Proofs.Ytkedhnahgpmkaaa.typesSpines
open Go.ChangeShapes Go.WideShapes Go.ChangeAt Go.RowKit

theorem own : ownKnob Try.prog.godebug = none := by kernel_rfl

theorem laid : ∃ f0 f1 f2 f3, Ty.Laid Try.prog 24 22 3 9 f0 f1 f2 f3 :=
  ⟨_, _, _, _, { hT := Try.underlying24, hS := Try.underlying22, hI := Try.underlying3, hSt := Try.underlying9, t0 := by kernel_rfl, t1 := by kernel_rfl, t2 := by kernel_rfl, t3 := by kernel_rfl, o0 := by kernel_rfl, o1 := by kernel_rfl, o2 := by kernel_rfl, o3 := by kernel_rfl, cT := by kernel_rfl, cI := by kernel_rfl, cSt := by kernel_rfl, cS := by kernel_rfl }⟩

/-! ### THE ROW's STEP: WRITTEN OUT: LEAVE IT -/
set_option maxRecDepth 100000 in
theorem lifted (os : Os) (started : os.Started) (H : Type) (enc : TypeId × Value → H) :
    ReturnsInHanded {} Try.checked os 6 .any (Rows.typesSpinesSpec.pre6 enc Try.prog Try.f6 Rows.typesSpinesRow.domain false) (Rows.typesSpinesSpec.post enc Try.prog Try.f6 false true false false) := by
  refine returnsInHanded_of_change_sized (C := Try.checked) own started (by kernel_rfl) Try.func6
    (ChangeSpec.witness6 (enc := enc) (C := Try.checked) false ⟨#[], #[.agg #[.int .i64 0, .int .i64 0, .string ByteArray.empty, .slice none 0 0], .slice none 0 0], []⟩ 8 (by kernel_rfl) (by kernel_rfl) (by kernel_rfl) (by kernel_rfl)) ?_
  intro W base args ds gs before hval0 hW hcnd hsz0 _
  have hsz : (DataW.weightsEach Try.prog (Try.f6.params.toList ++ Rows.typesSpinesSpec.plain.varTypes Try.prog) (ds ++ gs)).all (· ≤ reachBytes) = true := hsz0
  have hval : ∀ (j : Nat) t v, Try.f6.params[j]? = some t → args[j]? = some v → Value.okWide Try.prog W .any base t v := hval0
  have hW' := hW
  obtain ⟨p, q, hA0, hV, rfl, hfz, hnd⟩ := hW
  have hA : DataW.TrodAll enc Try.prog W 0 (fun _ => true) true Try.f6.params.toList args.toList ds p := hA0
  rw [Try.params6] at hA hval hsz
  obtain ⟨v0, vs0, d0, ds0, p0, q0, hargs, rfl, rfl, h0, r0⟩ := trodAll_cons hA
  obtain ⟨v1, vs1, d1, ds1, p1, q1, rfl, rfl, rfl, h1, r1⟩ := trodAll_cons r0
  obtain ⟨rfl, rfl, rfl⟩ := trodAll_nil r1
  obtain rfl : args = #[v0, v1] := by cases args; simp_all
  obtain ⟨rfl, rfl⟩ := trodVars_none hV
  obtain ⟨f0, f1, f2, f3, L⟩ := laid
  have hagg : ∃ a, v0 = .agg a := by
    obtain ⟨cs, hcs, _⟩ := okWide_struct Try.underlying24 (hval 0 24 v0 rfl rfl)
    exact ⟨cs, hcs⟩
  obtain ⟨t, ht⟩ := Ty.open_ty L hagg h0
  obtain ⟨a0, len, cap, rfl⟩ := Go.WideShapes.okWide_slice Try.underlying22 (hval 1 22 v1 rfl rfl)
  have h1k := h1
  obtain ⟨fuel, hf⟩ := h1
  obtain ⟨l, b1, cap1, hv1, hsl⟩ := Ty.open_sl6 L hf
  have hlen : l.length ≤ 2513169434843 := by
    rcases Go.Deep.open_slice Try.underlying22 hf with ⟨hcs, _⟩ | ⟨a, len', cap', m, n, D, Pl, hcs, _, hl, hm, hmm, hx, hel⟩
    · obtain ⟨rfl, rfl, rfl⟩ : a0 = none ∧ len = 0 ∧ cap = 0 := by simpa [Value.cells] using hcs
      injection hv1 with _ e _
      omega
    · obtain ⟨rfl, rfl, rfl⟩ : a0 = some a ∧ len = len' ∧ cap = cap' := by simpa [Value.cells] using hcs
      have hd : d1 = .slice ((List.range len).map D) ((List.range (m - len)).map fun j => D (len + j)) := congrArg Prod.fst hx
      have hsize := sized_slice hsz (j := 1) (t := 22) (elems := (List.range len).map D) (spare := (List.range (m - len)).map fun j => D (len + j)) rfl (by rw [← hd]; rfl) Try.underlying22
      rw [List.length_map, List.length_range, show Try.prog.bytesOf 24 = 56 from by kernel_rfl] at hsize
      unfold reachBytes at hsize
      have h56 : len * 56 ≤ 140737488351232 := Nat.le_trans (Nat.mul_le_mul_right 56 (Nat.le_add_right _ _)) hsize
      injection hv1 with _ e _
      omega
  have hlt0 : ∀ x ∈ p0, x.block < W.heap.size := fun x hx => by simpa using hW'.lt x (by simp [hx])
  have hlt1 : ∀ x ∈ p1, x.block < W.heap.size := fun x hx => by simpa using hW'.lt x (by simp [hx])
  clear hA0 hval0
  have hwalk : Calls Try.prog 6 #[v0, .slice a0 len cap] W fun e W' => e = .returned (.bool true) ∧ Below W.heap.size W W' := by
    rw [hv1]
    exact Ty.law_spines t l b1 cap1 v0 W ht hsl hlen
  refine hwalk.mono fun e W' ⟨he, hb⟩ => ?_
  subst he
  have hret0 := RowKit.Below.trod (enc := enc) (P := Try.prog) (t := 24) (by kernel_rfl) (by kernel_rfl) (of_decide_eq_true (by kernel_rfl)) h0 hb hlt0
  have hret1 := RowKit.Below.trod (enc := enc) (P := Try.prog) (t := 22) (by kernel_rfl) (by kernel_rfl) (of_decide_eq_true (by kernel_rfl)) h1k hb hlt1
  exact ⟨_, rfl, _, _, _, [], _, [], hW', trodAll_cons_mk (shut_bool Try.underlying4 _) trodAll_mk0, trodAll_cons_mk hret0 (trodAll_cons_mk hret1 trodAll_mk0), rfl, hb.frame _, fun h => by cases h⟩

theorem over : Rows.typesSpinesRow.holds Try.pinned (OpenSpec.ofChange Rows.typesSpinesSpec) :=
  OpenClaim.holds_of_wide 6 Try.f6 rfl rfl rfl rfl rfl rfl rfl ⟨rfl, rfl, rfl, rfl, rfl⟩ rfl rfl rfl rfl rfl (by kernel_rfl) Try.func6 (by kernel_rfl)
    (of_decide_eq_true (by kernel_rfl)) (by unfold Func.isWrapper; first | (rw [if_pos (by decide +kernel)]; kernel_rfl) | (rw [if_neg (by decide +kernel)]; exact ⟨rfl, rfl⟩))
    (fun os started H enc _ => lifted os started H enc)

theorem proved : Rows.TypesSpinesSaid :=
  over
#print axioms proved
end Go.Proofs.Ytkedhnahgpmkaaa.typesSpines
