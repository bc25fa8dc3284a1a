/- What the program's Spine returns. Conditions: the type lies in memory. -/
import Derived.Test.YtfjgebdpbmnicaaJ08
import Derived.Test.YtfjgebdpbmnicaaJ09
import Derived.Deep.AppendLies
import Derived.Laws.AppendOwnNone
import Derived.IntWalk
namespace Go.Proofs.Ytfjgebdpbmnicaa
open Go.RowKit

namespace Ty
/-- a type has a head, and these arguments, the last one first -/
inductive SpineR : Ty → Ty → List Ty → Prop where
  | done (t : Ty) : t.op ≠ 3 → SpineR t t []
  | app (f x h : Ty) (l : List Ty) : SpineR f h l → SpineR (.mk 3 0 [] [f, x]) h (x :: l)
theorem SpineR.one {t h h' : Ty} {l l' : List Ty} (a : SpineR t h l) (b : SpineR t h' l') : h = h' ∧ l = l' := by
  induction a generalizing h' l' with
  | done t hne =>
    cases b with
    | done _ _ => exact ⟨rfl, rfl⟩
    | app f x h l hr => exact absurd rfl hne
  | app f x h l hr ih =>
    cases b with
    | done _ hne => exact absurd rfl hne
    | app _ _ _ _ hr' =>
      obtain ⟨e1, e2⟩ := ih hr'
      exact ⟨e1, by rw [e2]⟩
def lenOf : Value → Nat | .slice _ n _ => n | _ => 0

def SpineP (t : Ty) (w : World) (e : Ending) (w' : World) : Prop :=
  ∃ h acc v ov, SpineR t h acc ∧ e = .returned (.tuple #[v, ov, .int .i64 0]) ∧ VO (w.heap.size ≤ ·) w' h v ∧ RevP.OwnR w.heap.size ov acc.reverse w' ∧ Below w.heap.size w w'

/-- where the loop stands -/
structure SpS (w : World) (t t' : Ty) (b : Option Addr) (c : Nat) (ov : Value) (acc : List Ty) (W : World) : Prop where
  below : Below w.heap.size w W
  box : B4 W w.heap.size (.int .i64 t'.op) (.int .i64 t'.n) (.string t'.name) (.slice b t'.args.length c)
  res : B4 W (w.heap.size + 1) (.int .i64 0) (.int .i64 0) (.string ⟨#[]⟩) (.slice none 0 0)
  v : V w t' (.agg #[.int .i64 t'.op, .int .i64 t'.n, .string t'.name, .slice b t'.args.length c])
  good : Good t'
  few : nodes t' + acc.length ≤ nodes t
  own : OwnL (w.heap.size + 2) ov acc W
  rest : ∀ h l, SpineR t' h l → SpineR t h (acc ++ l)

theorem results_three {fn : Func} {a b d : Tmp} (hfn : fn.results = #[.cell a 36, .tmp b, .tmp d]) {tmps : Array Value} {w : World} {B o : Nat} {v0 v1 v2 v3 u y : Value} (h : tmps.getD a undef = .pointer (some ⟨B, o, none⟩)) (hu : tmps.getD b undef = u) (hy : tmps.getD d undef = y)
    (c0 : w.cell? ⟨B, o, none⟩ = some v0) (c1 : w.cell? ⟨B, o + 1, none⟩ = some v1) (c2 : w.cell? ⟨B, o + 2, none⟩ = some v2) (c3 : w.cell? ⟨B, o + 3, none⟩ = some v3) :
    (results fn tmps).run Try.prog w = .ok (.tuple #[.agg #[v0, v1, v2, v3], u, y]) w := by
  have h' : tmps[a]?.getD undef = .pointer (some ⟨B, o, none⟩) := by rw [← h]; simp
  have hu' : tmps[b]?.getD undef = u := by rw [← hu]; simp
  have hy' : tmps[d]?.getD undef = y := by rw [← hy]; simp
  simp [results, hfn, h', hu', hy', c0, c1, c2, c3, go_sem]

theorem v_parts {w : World} {t : Ty} {b : Option Addr} {c : Nat} (h : V w t (.agg #[.int .i64 t.op, .int .i64 t.n, .string t.name, .slice b t.args.length c])) : t.s.length ≤ maxLen ∧ Sl w b t.args := by
  obtain ⟨b', c', e, h1, h2⟩ := h
  simp only [Value.agg.injEq, Array.mk.injEq, List.cons.injEq, Value.slice.injEq, true_and, and_true] at e
  rw [e.1]
  exact ⟨h1, h2⟩
theorem own_new {w wr w3 : World} {t : Ty} {base : Nat} {b9 : Option Addr} {c9 : Nat} {ov : Value} {acc : List Ty} (h : OwnL base ov acc wr) (hb : base ≤ wr.heap.size) (hs : t.s.length ≤ maxLen) (hl : SlO (wr.heap.size ≤ ·) w3 b9 t.args) (hk : ∀ (p : Addr) v, wr.heap.size ≤ p.block → w3.cell? p = some v → w.cell? p = some v) :
    TC.Of (fun g => base ≤ g ∧ some g ≠ ov.ownBlock) w ⟨t.op, t.n, t.name, b9, t.args.length, c9⟩ t := by
  obtain ⟨ds, h1, h2⟩ := h
  refine ⟨rfl, rfl, rfl, rfl, hs, hl.keep (fun g hg => ⟨by have : wr.heap.size ≤ g := hg; omega, fun e => ?_⟩) hk⟩
  have := (ownBlock_lt h1 e.symm).2
  have : wr.heap.size ≤ g := hg
  omega
theorem own_nodes {base : Nat} {ov : Value} {acc : List Ty} {W : World} (h : OwnL base ov acc W) : ∃ ds, ds.length = acc.length ∧ W.ownsRow base 36 4 ov ds.length (TC.all ds) ∧ TC.AllOf (fun g => base ≤ g ∧ some g ≠ ov.ownBlock) W ds acc := by
  obtain ⟨ds, h1, h2⟩ := h
  exact ⟨ds, h2.1, h1, h2⟩
theorem b4_far {a b : World} {row : Option Nat} {B base : Nat} {v0 v1 v2 v3 : Value} (h : B4 a B v0 v1 v2 v3) (hg : a.grownBy b row) (hr : ∀ j, row = some j → base ≤ j) (hB : B < base) : B4 b B v0 v1 v2 v3 :=
  (hg.block B (lt_of_block h) (fun e => by have := hr B e.symm; omega)).trans h

end Ty
end Go.Proofs.Ytfjgebdpbmnicaa

/- Plain: a list of types in memory as cells, and copied into a row of the call's own. Conditions: none. -/
namespace Go.Proofs.Ytfjgebdpbmnicaa
open Go.RowKit

namespace Ty
/-- a row of types as cells -/
theorem row_tc {w : World} {g : Nat} : ∀ (l : List Ty) (o : Nat), Row w g o l → ∃ ds, TC.AllOf (· < w.heap.size) w ds l ∧ ∀ j u, (TC.all ds)[j]? = some u → w.cell? ⟨g, o + j, none⟩ = some u
  | [], o, _ => ⟨[], ⟨rfl, fun i h => absurd h (Nat.not_lt_zero _)⟩, fun j u h => by unfold TC.all at h; simp at h⟩
  | t :: l, o, hr => by
    obtain ⟨ds, ⟨h1, h2⟩, h3⟩ := row_tc l (o + 4) hr.2
    obtain ⟨c0, c1, c2, hs, b, cap, c3, hsl⟩ := atO_iff.mp hr.1.bound
    refine ⟨⟨t.op, t.n, t.name, b, t.args.length, cap⟩ :: ds, ⟨by simp [h1], fun i h h' => ?_⟩, fun j u hu => ?_⟩
    · cases i with
      | zero => exact ⟨rfl, rfl, rfl, rfl, hs, hsl⟩
      | succ i => exact h2 i (by simpa using h) (by simpa using h')
    · unfold TC.all at hu h3
      rw [List.flatMap_cons] at hu
      by_cases hj : j < 4
      · rw [List.getElem?_append_left (by rw [TC.enc_len]; exact hj)] at hu
        match j, hj, hu with
        | 0, _, hu => injection hu with hu; rw [← hu]; exact c0
        | 1, _, hu => injection hu with hu; rw [← hu]; exact c1
        | 2, _, hu => injection hu with hu; rw [← hu]; exact c2
        | 3, _, hu => injection hu with hu; rw [← hu]; exact c3
      · rw [List.getElem?_append_right (by rw [TC.enc_len]; omega), TC.enc_len] at hu
        have := h3 (j - 4) u hu
        rwa [show o + 4 + (j - 4) = o + j from by omega] at this
theorem TC.all_one (ds : List TC) : ∀ u ∈ TC.all ds, u.oneCell' = true := by
  intro u hu
  unfold TC.all at hu
  obtain ⟨x, _, hx⟩ := List.mem_flatMap.mp hu
  exact TC.enc_one x u hx
/-- a list that was copied into a row of the call's own -/
theorem copied {w W : World} {base : Nat} {ov : Value} {ds : List TC} {l : List Ty} (h : W.ownsRow base 36 4 ov ds.length (TC.all ds)) (ha : TC.AllOf (· < w.heap.size) w ds l) (hb : Below w.heap.size w W) (hl : l.length ≤ maxLen) : ∃ bb cap, ov = .slice bb l.length cap ∧ Sl W bb l := by
  by_cases hne : ds = []
  · subst hne
    have hnil : l = [] := List.eq_nil_of_length_eq_zero ha.1.symm
    subst hnil
    obtain ⟨_, ⟨h1, h2⟩ | ⟨g, cap, cur, h1, _⟩⟩ := h
    · exact ⟨none, 0, h1, Nat.zero_le _, .inl rfl⟩
    · exact ⟨_, cap, h1, Nat.zero_le _, .inl rfl⟩
  · obtain ⟨g, cap, hov, _, hk⟩ := cells_own h hne
    exact ⟨some ⟨g, 0, none⟩, cap, by rw [hov, ha.1], hl, .inr ⟨g, 0, rfl, RowO.weak (ok := fun _ => True) (row_held hk (ha.keep (fun _ _ => trivial) (fun p v _ hc => keeps hb p v hc)))⟩⟩

end Ty
end Go.Proofs.Ytfjgebdpbmnicaa

/- A list of types appended to a row of one's own, and what slices.Concat of two lists returns. Conditions: not too many. -/
namespace Go.Proofs.Ytfjgebdpbmnicaa
open Go.RowKit

namespace Ty
/-- a row of types as cells: their parts in named blocks -/
theorem row_tcO {ok : Nat → Prop} {w : World} {g : Nat} : ∀ (l : List Ty) (o : Nat), RowO ok w g o l → ∃ ds, TC.AllOf ok w ds l ∧ ∀ j u, (TC.all ds)[j]? = some u → w.cell? ⟨g, o + j, none⟩ = some u
  | [], o, _ => ⟨[], ⟨rfl, fun i h => absurd h (Nat.not_lt_zero _)⟩, fun j u h => by unfold TC.all at h; simp at h⟩
  | t :: l, o, hr => by
    obtain ⟨ds, ⟨h1, h2⟩, h3⟩ := row_tcO l (o + 4) hr.2
    obtain ⟨c0, c1, c2, hs, b, cap, c3, hsl⟩ := atO_iff.mp hr.1
    refine ⟨⟨t.op, t.n, t.name, b, t.args.length, cap⟩ :: ds, ⟨by simp [h1], fun i h h' => ?_⟩, fun j u hu => ?_⟩
    · cases i with
      | zero => exact ⟨rfl, rfl, rfl, rfl, hs, hsl⟩
      | succ i => exact h2 i (by simpa using h) (by simpa using h')
    · unfold TC.all at hu h3
      rw [List.flatMap_cons] at hu
      by_cases hj : j < 4
      · rw [List.getElem?_append_left (by rw [TC.enc_len]; exact hj)] at hu
        match j, hj, hu with
        | 0, _, hu => injection hu with hu; rw [← hu]; exact c0
        | 1, _, hu => injection hu with hu; rw [← hu]; exact c1
        | 2, _, hu => injection hu with hu; rw [← hu]; exact c2
        | 3, _, hu => injection hu with hu; rw [← hu]; exact c3
      · rw [List.getElem?_append_right (by rw [TC.enc_len]; omega), TC.enc_len] at hu
        have := h3 (j - 4) u hu
        rwa [show o + 4 + (j - 4) = o + j from by omega] at this
theorem all_app (a b : List TC) : TC.all (a ++ b) = TC.all a ++ TC.all b := by unfold TC.all; simp
theorem allOf_app {ok : Nat → Prop} {w : World} {a b : List TC} {l m : List Ty} (h1 : TC.AllOf ok w a l) (h2 : TC.AllOf ok w b m) : TC.AllOf ok w (a ++ b) (l ++ m) := by
  obtain ⟨e1, k1⟩ := h1
  obtain ⟨e2, k2⟩ := h2
  refine ⟨by simp [e1, e2], fun i h h' => ?_⟩
  by_cases hi : i < a.length
  · rw [List.getElem_append_left hi, List.getElem_append_left (by omega)]
    exact k1 i hi (by omega)
  · rw [List.getElem_append_right (by omega), List.getElem_append_right (by omega)]
    have := k2 (i - a.length) (by simp at h; omega) (by simp at h'; omega)
    simpa [e1] using this
/-- a row of one's own that holds these types, of which the parts lie in named blocks of the world before -/
def OwnB (ok : Nat → Prop) (w : World) (ov : Value) (l : List Ty) (wc : World) : Prop := ∃ ds, wc.ownsRow w.heap.size 36 4 ov ds.length (TC.all ds) ∧ TC.AllOf ok w ds l ∧ Below w.heap.size w wc
theorem run_appB {ok : Nat → Prop} {w wc : World} {ov : Value} {l m : List Ty} (ty : TypeId) (h : OwnB ok w ov l wc) {base : Option Addr} (cap : Nat) (hm : SlO ok w base m) (hn : l.length + m.length ≤ 2513169434843) :
    ∃ v' w', (Builtin.append_ #[32, 32] ty #[ov, .slice base m.length cap]).run Try.prog wc = .ok v' w' ∧ OwnB ok w v' (l ++ m) w' := by
  obtain ⟨i0, hi, hz0, hz1, hz2⟩ := info_parts info24
  obtain ⟨ds, hown, hall, hb⟩ := h
  cases base with
  | none =>
    have hnil : m = [] := by
      rcases hm.2 with h | ⟨g, o, h, _⟩
      · exact h
      · cases h
    subst hnil
    refine ⟨ov, wc, ?_, ds, hown, by simpa using hall, hb⟩
    have h1 := run_append_owned_none (P := Try.prog) (w := wc) w.heap.size 32 ty 36 i0 4 Try.underlying32 hi ov ds.length (TC.all ds) hown
    rw [← h1]
    rfl
  | some ad =>
    obtain ⟨es, ha, hc⟩ : ∃ es, TC.AllOf ok w es m ∧ ∀ j u, (TC.all es)[j]? = some u → wc.cell? (ad.add j) = some u := by
      rcases hm.2 with h | ⟨g, o, h, _, hr⟩
      · subst h
        exact ⟨[], ⟨rfl, fun i h => absurd h (Nat.not_lt_zero _)⟩, fun j u h => by unfold TC.all at h; simp at h⟩
      · injection h with h
        subst h
        obtain ⟨es, h1, h2⟩ := row_tcO m o hr
        refine ⟨es, h1, fun j u hu => ?_⟩
        rw [Addr.add_lit]
        exact keeps hb _ _ (h2 j u hu)
    have e1 := hall.1
    have e2 := ha.1
    obtain ⟨v', w', hr, h2, h3, _⟩ := run_append_own (P := Try.prog) wc w.heap.size 32 ty 36 i0 _ 4 56 Try.underlying32 hi hz0 hz1 hz2 rfl (by omega) ov ds.length (TC.all ds) hown ad m.length cap (TC.all es) (by rw [TC.all_len, e2]) hc (TC.all_one es) (by unfold maxLen; omega) (by omega) hb.size
    rw [← e2] at h2 hr
    rw [← e2]
    refine ⟨v', w', hr, ds ++ es, ?_, allOf_app hall ha, hb.grown h3 hb.size (fun m hm => (hown.lt m hm).1)⟩
    rw [all_app, List.length_append]
    exact h2
theorem wpList_appB {ok : Nat → Prop} {ops : Array Oper} {rest : List Oper} {o : Oper} {a : Act} {Q : Exit → Act → World → Prop} (hgd : o.guard = none) (s x : Operand)
    (ho : o.op = .call { callee := .builtin .append, args := #[s, x], argTypes := #[32, 32] })
    {w wc : World} {ov : Value} {l m : List Ty} (hs : a.eval s = ov) (h : OwnB ok w ov l wc) {base : Option Addr} {n cap : Nat} (hx : a.eval x = .slice base n cap) (hln : m.length = n) (hm : SlO ok w base m) (hn : l.length + m.length ≤ 2513169434843)
    (hK : ∀ v' w', OwnB ok w v' (l ++ m) w' → wpList Try.prog ops Q rest (a.put o.dst v') w') : wpList Try.prog ops Q (o :: rest) a wc := by
  subst hln
  refine wpList_plain hgd fun K hK' => ?_
  obtain ⟨v', w', hrun, h2⟩ := run_appB o.type h cap hm hn
  unfold Oper.wp
  simp [execOp, ho, resolve, invoke, builtin, hs, hx, hrun, Result.andThen]
  exact hK' _ _ (hK v' w' h2)
theorem OwnB.below {ok : Nat → Prop} {w wc : World} {ov : Value} {l : List Ty} (h : OwnB ok w ov l wc) : Below w.heap.size w wc := h.choose_spec.2.2
theorem ownB_nil {ok : Nat → Prop} {w wc : World} {ov : Value} (h : wc.ownsRow w.heap.size 36 4 ov 0 []) (hb : Below w.heap.size w wc) : OwnB ok w ov [] wc := ⟨[], h, ⟨rfl, fun _ h => absurd h (Nat.not_lt_zero _)⟩, hb⟩
set_option maxHeartbeats 8000000 in
set_option maxRecDepth 100000 in
theorem concat_any {ok : Nat → Prop} (B : Nat) (ub xb : Option Addr) (uc xc : Nat) (l m : List Ty) (w : World) (hl : SlO ok w ub l) (hm : SlO ok w xb m) (h0 : w.cell? ⟨B, 0, none⟩ = some (.slice ub l.length uc)) (h1 : w.cell? ⟨B, 1, none⟩ = some (.slice xb m.length xc)) (hn : l.length + m.length ≤ 2513169434843) :
    Calls Try.prog 74 #[.slice (some ⟨B, 0, none⟩) 2 2] w fun e w' => ∃ ov, e = .returned ov ∧ OwnB ok w ov (l ++ m) w' := by
  obtain ⟨un, hun⟩ : ∃ n, n = l.length := ⟨_, rfl⟩
  obtain ⟨xn, hxn⟩ : ∃ n, n = m.length := ⟨_, rfl⟩
  rw [← hun] at h0 hn
  rw [← hxn] at h1 hn
  have HUN := Lib.hid hun
  have HXN := Lib.hid hxn
  have HL := Lib.hid hl
  have HM := Lib.hid hm
  have HN := Lib.hid hn
  have hz0 : IntKind.i64.wrap (un : Int) = (un : Int) := IntWalk.i64_in _ (by omega)
  have hz1 : IntKind.i64.wrap ((un : Int) + (xn : Int)) = ((un + xn : Nat) : Int) := by rw [IntWalk.i64_in _ (by omega)]; omega
  have hd0 : decide ((un : Int) < 0) = false := by simp
  have hd1 : decide (((un + xn : Nat) : Int) < 0) = false := decide_eq_false (by omega)
  clear hun hxn hl hm hn
  go_enter Try.func74, Try.ntmps74
  go_wp2_with fail
  refine wp_loop_rounds 3 ?_
  rw [rounds_succ]
  go_wp2_with fail
  rw [rounds_succ]
  go_wp2_with fail
  rw [rounds_succ]
  go_wp2_with fail
  refine (grow_any (un + xn) HN.out w).mono ?_
  rintro e w2 ⟨ov, rfl, ho2, hb2⟩
  have HO := Lib.hid (ownB_nil (ok := ok) ho2 hb2)
  have k0 := keeps hb2 _ _ h0
  have k1 := keeps hb2 _ _ h1
  clear ho2 hb2
  go_wp2_with fail
  refine wp_loop_rounds 3 ?_
  rw [rounds_succ]
  go_wp2_with (at_builtin; go_loud (refine wpList_appB rfl (.tmp 31) (.tmp 32) rfl rfl HO.out rfl HUN.out.symm HL.out (by have := HN.out; have := HUN.out; simp; omega) ?_; intro v3 w3 h3; have HO3 := Lib.hid h3; have j1 := keeps h3.below _ _ h1; clear h3))
  rw [rounds_succ]
  go_wp2_with (at_builtin; go_loud (refine wpList_appB rfl (.tmp 31) (.tmp 32) rfl rfl HO3.out rfl HXN.out.symm HM.out (by have := HN.out; have := HUN.out; have := HXN.out; simp; omega) ?_; intro v4 w4 h4; have HO4 := Lib.hid h4; clear h4))
  rw [rounds_succ]
  go_wp2_with fail
  go_ret
  exact ⟨v4, rfl, HO4.out⟩
end Ty
end Go.Proofs.Ytfjgebdpbmnicaa
