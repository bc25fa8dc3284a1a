/- One type appended to a row of one's own, of which the parts lie in named blocks. Conditions: not too many. -/
import Derived.Test.YtfjgebdpbmnicaaJ10
import Derived.Test.YtfjgebdpbmnicaaJ24
import Derived.Test.YtfjgebdpbmnicaaJ30
import Derived.Test.YtfjgebdpbmnicaaJ38
import Derived.RangeFuncLeaves
namespace Go.Proofs.Ytfjgebdpbmnicaa
open Go.RowKit

namespace Ty
theorem wpList_app1 {ok : Nat → Prop} {ops : Array Oper} {rest : List Oper} {o : Oper} {a : Act} {Q : Exit → Act → World → Prop} (hgd : o.guard = none) (s x : Operand)
    (ho : o.op = .call { callee := .builtin .append, args := #[s, x], argTypes := #[32, 32] })
    {w wc : World} {ov : Value} {l : List Ty} {t : Ty} {u : TC} {D : Nat} (hs : a.eval s = ov) (h : OwnB ok w ov l wc) (hx : a.eval x = .slice (some ⟨D, 0, none⟩) 1 1) (hD : wc.heap[D]? = some (Obj.cells #[.int .i64 u.op, .int .i64 u.n, .string u.name, .slice u.b u.len u.cap] 36)) (hu : TC.Of ok w u t) (hn : l.length + 1 ≤ 2513169434843)
    (hK : ∀ v' w', OwnB ok w v' (l ++ [t]) w' → wpList Try.prog ops Q rest (a.put o.dst v') w') : wpList Try.prog ops Q (o :: rest) a wc := by
  refine wpList_plain hgd fun K hK' => ?_
  obtain ⟨i0, hi, hz0, hz1, hz2⟩ := info_parts info24
  obtain ⟨ds, hown, hall, hb⟩ := h
  have e1 := hall.1
  obtain ⟨v', w', hrun, h2, h3, _⟩ := run_append_own (P := Try.prog) wc w.heap.size 32 o.type 36 i0 _ 4 56 Try.underlying32 hi hz0 hz1 hz2 rfl (by omega) ov ds.length (TC.all ds) hown ⟨D, 0, none⟩ 1 1 (TC.enc u) rfl (World.news_of_block hD) (TC.enc_one u) (by unfold maxLen; omega) (by omega) hb.size
  have h4 : OwnB ok w v' (l ++ [t]) w' := ⟨ds ++ [u], by rw [TC.all_snoc, List.length_append]; exact h2, hall.snoc hu, hb.grown h3 hb.size (fun m hm => (hown.lt m hm).1)⟩
  unfold Oper.wp
  simp [execOp, ho, resolve, invoke, builtin, hs, hx, hrun, Result.andThen]
  exact hK' _ _ (hK v' w' h4)
theorem OwnB.next {ok : Nat → Prop} {w wc wd : World} {ov : Value} {l : List Ty} (h : OwnB ok w ov l wc) (hb : Below wc.heap.size wc wd) : OwnB ok w ov l wd := by
  obtain ⟨ds, h1, h2, h3⟩ := h
  exact ⟨ds, h1.kept (row := none) (grown_of_below hb) (by cases hv : ov.ownBlock <;> simp), h2, h3.trans (hb.mono h3.size)⟩
theorem univT_succ (n m : Nat) : univT n (m + 1) = univT n m ++ [.mk 1 ((n : Int) - 1 - (m : Int)) [] []] := by unfold univT; rw [List.range_succ, List.map_append]; rfl
theorem univT_len (n m : Nat) : (univT n m).length = m := by unfold univT; simp
end Ty
end Go.Proofs.Ytfjgebdpbmnicaa

/- Types put around a type in foralls, and a row of one's own as cells: what a promoted constructor's kind wants. Conditions: none. -/
namespace Go.Proofs.Ytfjgebdpbmnicaa
open Go.RowKit Go.Shelf

namespace Ty
/-- a walk that does not panic -/
def noPanic (Q : Exit → Act → World → Prop) : Exit → Act → World → Prop := fun e a w => match e with | .panic _ => False | e => Q e a w
theorem wp_noPanic {P : Program} {c : Code} {Q : Exit → Act → World → Prop} {a : Act} {w : World} (h : c.wp P (noPanic Q) a w) : c.wp P Q a w :=
  Code.wp_mono (fun e a w h => by cases e <;> first | exact h | exact h.elim) h
theorem own_row {ok : Nat → Prop} {w wc : World} {base : Option Addr} {cap : Nat} {l : List Ty} (h : OwnB ok w (.slice base l.length cap) l wc) :
    l = [] ∨ ∃ g, base = some ⟨g, 0, none⟩ ∧ w.heap.size ≤ g ∧ g < wc.heap.size ∧ RowO ok wc g 0 l := by
  obtain ⟨ds, h1, h2, h3⟩ := h
  by_cases hne : ds = []
  · subst hne
    exact .inl (List.eq_nil_of_length_eq_zero h2.1.symm)
  · obtain ⟨g, cp, hov, hg, hk⟩ := cells_own h1 hne
    have hr : RowO ok wc g 0 l := row_held hk (h2.keep (fun _ h => h) (fun p v _ hc => keeps h3 p v hc))
    injection hov with e1 e2 e3
    have hl : l ≠ [] := fun e => hne (List.eq_nil_of_length_eq_zero (by rw [h2.1, e]; rfl))
    exact .inr ⟨g, e1, hg, row_lt hr.weak hl, hr⟩
theorem row_tcs {ok : Nat → Prop} {w : World} {g o : Nat} {l : List Ty} (h : RowO ok w g o l) : ∃ ts : Nat → TC, ∀ j (h : j < l.length), (w.cell? ⟨g, o + j * 4, none⟩ = some (.int .i64 (ts j).op) ∧ w.cell? ⟨g, o + j * 4 + 1, none⟩ = some (.int .i64 (ts j).n) ∧ w.cell? ⟨g, o + j * 4 + 2, none⟩ = some (.string (ts j).name) ∧ w.cell? ⟨g, o + j * 4 + 3, none⟩ = some (.slice (ts j).b (ts j).len (ts j).cap)) ∧
    VO ok w (l[j]'h) (.agg #[.int .i64 (ts j).op, .int .i64 (ts j).n, .string (ts j).name, .slice (ts j).b (ts j).len (ts j).cap]) := by
  obtain ⟨ds, h1, h2⟩ := row_tcO l o h
  refine ⟨fun j => ds[j]?.getD ⟨0, 0, ⟨#[]⟩, none, 0, 0⟩, fun j hj => ?_⟩
  have hj' : j < ds.length := by rw [h1.1]; exact hj
  obtain ⟨e1, e2, e3, e4, e5, e6⟩ := h1.2 j hj' hj
  have hc : ∀ i, i < 4 → ∀ u, (ds[j]'hj').enc[i]? = some u → w.cell? ⟨g, o + (j * 4 + i), none⟩ = some u := fun i hi u hu => h2 (j * 4 + i) u (by rw [TC.all_get ds j i hj' hi, hu])
  dsimp only
  rw [List.getElem?_eq_getElem hj']
  refine ⟨⟨hc 0 (by omega) _ rfl, hc 1 (by omega) _ rfl, hc 2 (by omega) _ rfl, hc 3 (by omega) _ rfl⟩, (ds[j]'hj').b, (ds[j]'hj').cap, ?_, e5, e6⟩
  show Value.agg #[.int .i64 (ds[j]'hj').op, .int .i64 (ds[j]'hj').n, .string (ds[j]'hj').name, .slice (ds[j]'hj').b (ds[j]'hj').len (ds[j]'hj').cap] = _
  rw [e1, e2, e3, e4]
/-- a type put around by the kinds at these places -/
def folA (l : List Ty) (t : Ty) (pre : List (Dn l.length)) : Ty := pre.foldl (fun acc x => .mk 4 0 [] [l[x.1]'x.2, acc]) t
theorem folA_snoc (l : List Ty) (t : Ty) (pre : List (Dn l.length)) (x : Dn l.length) : folA l t (pre ++ [x]) = .mk 4 0 [] [l[x.1]'x.2, folA l t pre] := by
  unfold folA
  rw [List.foldl_append]
  rfl
theorem allT_drop {l : List Ty} (t : Ty) {q : Nat} (h : q < l.length) : allT (l.drop q) t = .mk 4 0 [] [l[q]'h, allT (l.drop (q + 1)) t] := by
  rw [List.drop_eq_getElem_cons h]
  rfl
theorem folA_drop (l : List Ty) (t : Ty) : ∀ k, k ≤ l.length → folA l t (dnto l.length k) = allT (l.drop (l.length - k)) t
  | 0, _ => by rw [Nat.sub_zero, List.drop_length]; rfl
  | k + 1, h => by
    have hq : l.length - (k + 1) < l.length := by omega
    have e := dnto_succ hq
    rw [show l.length - (l.length - (k + 1)) = k + 1 from by omega, show l.length - (l.length - (k + 1) + 1) = k from by omega] at e
    rw [e, folA_snoc, folA_drop l t k (by omega), allT_drop t hq, show l.length - (k + 1) + 1 = l.length - k from by omega]
theorem folA_all (l : List Ty) (t : Ty) : folA l t (dnto l.length l.length) = allT l t := by
  rw [folA_drop l t _ (Nat.le_refl _), Nat.sub_self, List.drop_zero]
/-- a node of two types whose cells are new -/
theorem vo_two1 {ok : Nat → Prop} {w w1 : World} (hok : ∀ g, w.heap.size ≤ g → ok g) (hb : Below w.heap.size w w1) (o : Int) {ta tb : Ty} {ba bb : Option Addr} {ca cb : Nat} (hsa : ta.s.length ≤ maxLen) (hsb : tb.s.length ≤ maxLen) (hla : SlO ok w ba ta.args) (hlb : SlO ok w bb tb.args) :
    VO ok (w1.alloc (Obj.cells #[.int .i64 ta.op, .int .i64 ta.n, .string ta.name, .slice ba ta.args.length ca, .int .i64 tb.op, .int .i64 tb.n, .string tb.name, .slice bb tb.args.length cb] 36)) (.mk o 0 [] [ta, tb])
      (.agg #[.int .i64 o, .int .i64 0, .string ⟨#[]⟩, .slice (some ⟨w1.heap.size, 0, none⟩) 2 2]) := by
  obtain ⟨S, hS⟩ : ∃ S, S = Obj.cells #[.int .i64 ta.op, .int .i64 ta.n, .string ta.name, .slice ba ta.args.length ca, .int .i64 tb.op, .int .i64 tb.n, .string tb.name, .slice bb tb.args.length cb] 36 := ⟨_, rfl⟩
  rw [← hS]
  have hrow : (w1.alloc S).heap[w1.heap.size]? = some S := heap_alloc_new w1 S
  have hrow2 := hrow.trans (congrArg some hS)
  have hbl : Below w.heap.size w (w1.alloc S) := hb.trans (((Below.refl _ _).alloc (Nat.le_refl _) S).mono hb.size)
  have c := fun i => cell_of_row (w1.alloc S) w1.heap.size i _ 36 (0, 0) hrow2
  have hkeep : ∀ (p : Addr) v, ok p.block → w.cell? p = some v → (w1.alloc S).cell? p = some v := fun p v _ hc => keeps hbl p v hc
  refine ⟨some ⟨w1.heap.size, 0, none⟩, 2, rfl, Nat.zero_le _, by show 2 ≤ maxLen; unfold maxLen; omega, .inr ⟨w1.heap.size, 0, rfl, hok _ hb.size, ?_, ?_, trivial⟩⟩
  · exact atO_iff.mpr ⟨c 0, c 1, c 2, hsa, ba, ca, c 3, hla.keep (fun _ h => h) hkeep⟩
  · exact atO_iff.mpr ⟨c 4, c 5, c 6, hsb, bb, cb, c 7, hlb.keep (fun _ h => h) hkeep⟩
/-- a kind in a box that is written again and again, beside the result's box -/
structure PrS (w0 w : World) (B : Nat) (t : Ty) (b : Option Addr) (c : Nat) (W : World) : Prop where
  below : Below w.heap.size w W
  old : w0.heap.size ≤ w.heap.size
  big : w.heap.size < B
  res : B4 W w.heap.size (.int .i64 0) (.int .i64 0) (.string ⟨#[]⟩) (.slice none 0 0)
  box : B4 W B (.int .i64 t.op) (.int .i64 t.n) (.string t.name) (.slice b t.args.length c)
  v : VO (fun g => g < w0.heap.size ∨ (w.heap.size < g ∧ g ≠ B)) W t (.agg #[.int .i64 t.op, .int .i64 t.n, .string t.name, .slice b t.args.length c])
theorem PrS.next {w0 w W W' : World} {B : Nat} {t : Ty} {b : Option Addr} {c : Nat} (h : PrS w0 w B t b c W) (hb : Below W.heap.size W W') : PrS w0 w B t b c W' :=
  ⟨h.below.trans (hb.mono h.below.size), h.old, h.big, h.res.next hb, h.box.next hb, h.v.next hb⟩
theorem PrS.put {w0 w W : World} {B : Nat} {t t' : Ty} {b b' : Option Addr} {c c' : Nat} (h : PrS w0 w B t b c W) (hv : VO (fun g => g < w0.heap.size ∨ (w.heap.size < g ∧ g ≠ B)) W t' (.agg #[.int .i64 t'.op, .int .i64 t'.n, .string t'.name, .slice b' t'.args.length c'])) :
    PrS w0 w B t' b' c' (put4 W B (.int .i64 t'.op) (.int .i64 t'.n) (.string t'.name) (.slice b' t'.args.length c')) :=
  ⟨below_put4 h.below (by have := h.big; omega) _ _ _ _, h.old, h.big, (put4_other (by have := h.big; omega) _ _ _ _).trans h.res, put4_cells h.box _ _ _ _, hv.keep (fun _ h => h) (fun p v hp hc => put4_keep _ _ _ _ p v hc (by have := h.big; have := h.old; rcases hp with hp | hp <;> omega))⟩
theorem PrS.kept {w0 w W W' : World} {row : Option Nat} {B : Nat} {t : Ty} {b : Option Addr} {c : Nat} (h : PrS w0 w B t b c W) (hg : W.grownBy W' row) (hr : ∀ r, row = some r → w.heap.size ≤ r ∧ ∃ o : Obj, W.heap[r]? = some o ∧ o.isCells = false) : PrS w0 w B t b c W' :=
  ⟨h.below.grown hg h.below.size (fun j hj => (hr j hj).1), h.old, h.big, b4_kept h.res hg (fun r e => (hr r e).2), b4_kept h.box hg (fun r e => (hr r e).2), h.v.keep (fun _ h => h) (fun p v _ hc => hg.cell hc (fun e => by
    obtain ⟨_, o, h1, h2⟩ := hr p.block e.symm
    exact not_cells h1 h2 hc rfl))⟩
theorem prs_end {w0 w W0 W : World} {B C : Nat} {t t' : Ty} {b b' : Option Addr} {c c' : Nat} (h : PrS w0 w B t b c W) {ok : Nat → Prop} (hokB : ∀ g, ok g → g ≠ B) (hbl : Below W0.heap.size W0 W) (hC : B < C) (hv : VO (fun g => g < w0.heap.size ∨ (w.heap.size < g ∧ g ≠ B)) W t' (.agg #[.int .i64 t'.op, .int .i64 t'.n, .string t'.name, .slice b' t'.args.length c'])) :
    KeepsFrom C W0 (put4 W B (.int .i64 t'.op) (.int .i64 t'.n) (.string t'.name) (.slice b' t'.args.length c')) ∧ KC ok W0 (put4 W B (.int .i64 t'.op) (.int .i64 t'.n) (.string t'.name) (.slice b' t'.args.length c')) ∧ PrS w0 w B t' b' c' (put4 W B (.int .i64 t'.op) (.int .i64 t'.n) (.string t'.name) (.slice b' t'.args.length c')) := by
  refine ⟨⟨?_, fun k o hB hk _ => ?_⟩, fun p v hp hc => ?_, h.put hv⟩
  · have := hbl.size
    unfold put4
    simpa [World.setCell] using this
  · exact (put4_other (by omega) _ _ _ _).trans ((hbl.block k (Array.getElem?_eq_some_iff.1 hk).1).trans hk)
  · exact put4_keep _ _ _ _ p v (keeps hbl p v hc) (hokB _ hp)
theorem prs_fin {w0 w W : World} {B D : Nat} {t : Ty} {b : Option Addr} {c : Nat} (h : PrS w0 w B t b c W) (hD : w.heap.size < D) (hK : W.heap[D]? = some (.deferred (some []))) :
    (put4 W w.heap.size (.int .i64 t.op) (.int .i64 t.n) (.string t.name) (.slice b t.args.length c)).heap[D]? = some (.deferred (some [])) ∧
    B4 ((put4 W w.heap.size (.int .i64 t.op) (.int .i64 t.n) (.string t.name) (.slice b t.args.length c)).putObj D (.deferred none)) w.heap.size (.int .i64 t.op) (.int .i64 t.n) (.string t.name) (.slice b t.args.length c) ∧
    VO (fun g => g < w0.heap.size ∨ w.heap.size ≤ g) ((put4 W w.heap.size (.int .i64 t.op) (.int .i64 t.n) (.string t.name) (.slice b t.args.length c)).putObj D (.deferred none)) t (.agg #[.int .i64 t.op, .int .i64 t.n, .string t.name, .slice b t.args.length c]) ∧
    Below w.heap.size w ((put4 W w.heap.size (.int .i64 t.op) (.int .i64 t.n) (.string t.name) (.slice b t.args.length c)).putObj D (.deferred none)) := by
  have ho := h.old
  have k1 : (put4 W w.heap.size (.int .i64 t.op) (.int .i64 t.n) (.string t.name) (.slice b t.args.length c)).heap[D]? = some (.deferred (some [])) := (put4_other (by omega) _ _ _ _).trans hK
  have k2 := put4_cells h.res (.int .i64 t.op) (.int .i64 t.n) (.string t.name) (.slice b t.args.length c)
  have k3 : VO (fun g => g < w0.heap.size ∨ w.heap.size ≤ g) (put4 W w.heap.size (.int .i64 t.op) (.int .i64 t.n) (.string t.name) (.slice b t.args.length c)) t _ := h.v.keep (fun g hg => hg.imp (fun h => h) (fun h => Nat.le_of_lt h.1)) (fun p v hp hc => put4_keep _ _ _ _ p v hc (by rcases hp with hp | hp <;> omega))
  have k4 := below_put4 (B := w.heap.size) h.below (Nat.le_refl _) (.int .i64 t.op) (.int .i64 t.n) (.string t.name) (.slice b t.args.length c)
  generalize put4 W w.heap.size (.int .i64 t.op) (.int .i64 t.n) (.string t.name) (.slice b t.args.length c) = X at *
  have hg := grownBy_putObj' X D (.deferred none)
  refine ⟨k1, b4_kept k2 hg (fun r e => by cases e; exact ⟨_, k1, rfl⟩), k3.keep (fun _ h => h) (fun p v _ hc => hg.cell hc (not_cells k1 rfl hc)), k4.trans ?_⟩
  exact belowK_b (w := w) (Nat.le_refl _) X D _ _ (by omega) k1 rfl rfl
theorem act_name {motive : Act → Prop} (a : Act) (h : ∀ A0, A0 = a → motive A0) : motive a := h a rfl
abbrev S5 (V0 : World) (a : Addr) (v : Value) (B : Nat) (v0 v1 v2 v3 : Value) (W : World) : Prop :=
  Hid (Below V0.heap.size V0 W) ∧ W.cell? a = some v ∧ W.cell? ⟨B, 0, none⟩ = some v0 ∧ W.cell? ⟨B, 1, none⟩ = some v1 ∧ W.cell? ⟨B, 2, none⟩ = some v2 ∧ W.cell? ⟨B, 3, none⟩ = some v3
theorem s5_next {V0 W W' : World} {a : Addr} {v : Value} {B : Nat} {v0 v1 v2 v3 : Value} (h : S5 V0 a v B v0 v1 v2 v3 W) (hb : Below W.heap.size W W') : S5 V0 a v B v0 v1 v2 v3 W' :=
  ⟨Lib.hid (h.1.out.trans (hb.mono h.1.out.size)), keeps hb _ _ h.2.1, keeps hb _ _ h.2.2.1, keeps hb _ _ h.2.2.2.1, keeps hb _ _ h.2.2.2.2.1, keeps hb _ _ h.2.2.2.2.2⟩
theorem s5_put {V0 W : World} {a : Addr} {v : Value} {B : Nat} {v0 v1 v2 v3 : Value} {C : Nat} (u0 u1 u2 u3 : Value) (h : S5 V0 a v B v0 v1 v2 v3 W) (hC : V0.heap.size ≤ C) (ha : a.block < V0.heap.size) (hB : B < V0.heap.size) :
    S5 V0 a v B v0 v1 v2 v3 ((((W.setCell ⟨C, 0, none⟩ u0).setCell ⟨C, 1, none⟩ u1).setCell ⟨C, 2, none⟩ u2).setCell ⟨C, 3, none⟩ u3) := by
  have hn : ∀ {p : Addr} {x : Value}, p.block < V0.heap.size → W.cell? p = some x → ((((W.setCell ⟨C, 0, none⟩ u0).setCell ⟨C, 1, none⟩ u1).setCell ⟨C, 2, none⟩ u2).setCell ⟨C, 3, none⟩ u3).cell? p = some x := fun hp hx => put4_keep _ _ _ _ _ _ hx (by omega)
  exact ⟨Lib.hid (below_put4 h.1.out hC _ _ _ _), hn ha h.2.1, hn hB h.2.2.1, hn hB h.2.2.2.1, hn hB h.2.2.2.2.1, hn hB h.2.2.2.2.2⟩
theorem s5_swap {V0 W : World} {a : Addr} {v : Value} {B : Nat} {v0 v1 v2 v3 : Value} {o o' : Obj} (h : S5 V0 a v B v0 v1 v2 v3 (W.alloc o)) (hs : V0.heap.size ≤ W.heap.size) (ha : a.block < V0.heap.size) (hB : B < V0.heap.size) : S5 V0 a v B v0 v1 v2 v3 (W.alloc o') := by
  obtain ⟨b, k0, k1, k2, k3, k4⟩ := h
  refine ⟨Lib.hid ⟨b.out.os, b.out.tape, b.out.output, by simp; omega, fun j hj => ?_⟩, kswap_cell (by omega) k0, kswap_cell (by show B < _; omega) k1, kswap_cell (by show B < _; omega) k2, kswap_cell (by show B < _; omega) k3, kswap_cell (by show B < _; omega) k4⟩
  have hj' : j < W.heap.size := by omega
  exact ((Below.heap_alloc W o' j hj').trans (Below.heap_alloc W o j hj').symm).trans (b.out.block j hj)
theorem pfin_c {V0 W5 w6 : World} {r : Ty} {v : Value} (hs : V0.heap.size ≤ W5.heap.size) (hv : VO (W5.heap.size ≤ ·) w6 r v) (o : Obj) : VO (fun g => V0.heap.size ≤ g ∧ g ≠ w6.heap.size) (w6.alloc o) r v :=
  hv.bound.keep (fun g hg => by have h1 : W5.heap.size ≤ g := hg.1; have h2 := hg.2; exact ⟨by omega, by omega⟩) (fun p v _ hc => keeps ((Below.refl _ _).alloc (Nat.le_refl _) _) _ _ hc)
theorem pfin_p {V0 W5 w6 : World} {B : Nat} {r : Ty} {v : Value} (hs : V0.heap.size ≤ W5.heap.size) (hB : B < W5.heap.size) (hv : VO (W5.heap.size ≤ ·) w6 r v) (v0 v1 v2 v3 : Value) : VO (fun g => V0.heap.size ≤ g ∧ g ≠ B) (put4 w6 B v0 v1 v2 v3) r v :=
  hv.keep (fun g hg => by have : W5.heap.size ≤ g := hg; exact ⟨by omega, by omega⟩) (fun p v hp hc => put4_keep _ _ _ _ p v hc (by have : W5.heap.size ≤ p.block := hp; omega))
end Ty
end Go.Proofs.Ytfjgebdpbmnicaa
