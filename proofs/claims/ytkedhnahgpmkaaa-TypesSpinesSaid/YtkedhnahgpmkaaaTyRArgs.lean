/- What the reference's Arguments returns. Conditions: the type lies in memory and is proper. -/
import Derived.Test.YtkedhnahgpmkaaaTyPair
import Derived.Test.YtkedhnahgpmkaaaTyPArgs
import Derived.Test.YtkedhnahgpmkaaaTyCopy
namespace Go.Proofs.Ytkedhnahgpmkaaa
open Go.RowKit

namespace Ty
/-- a row of one's own with copies of types that lie in an older world -/
def OwnC (w : World) (base : Nat) (ov : Value) (ts : List Ty) (W : World) : Prop := ∃ ds, W.ownsRow base 24 4 ov ds.length (TC.all ds) ∧ TC.AllOf (· < w.heap.size) w ds ts
theorem OwnC.nil (w : World) (base : Nat) (W : World) : OwnC w base (.slice none 0 0) [] W := ⟨[], World.ownsRow_nil _ _ _ _, rfl, fun _ h => absurd h (Nat.not_lt_zero _)⟩
theorem OwnC.len {w : World} {base : Nat} {ov : Value} {ts : List Ty} {W : World} (h : OwnC w base ov ts W) : ∃ bb cap, ov = .slice bb ts.length cap := by
  obtain ⟨ds, ⟨_, ⟨h1, h2⟩ | ⟨g, cap, cur, h1, _⟩⟩, h3, _⟩ := h
  · exact ⟨none, 0, by rw [h1, ← h3, h2]⟩
  · exact ⟨_, cap, by rw [h1, h3]⟩
theorem OwnC.next {w : World} {base : Nat} {ov : Value} {ts : List Ty} {W W' : World} (h : OwnC w base ov ts W) (hb : Below W.heap.size W W') : OwnC w base ov ts W' := by
  obtain ⟨ds, h1, h2⟩ := h
  exact ⟨ds, h1.kept (row := none) (grown_of_below hb) (by cases hv : ov.ownBlock <;> simp), h2⟩
theorem OwnC.put {w : World} {base B : Nat} {ov : Value} {ts : List Ty} {W : World} (h : OwnC w base ov ts W) (hB : B < base) (v0 v1 v2 v3 : Value) : OwnC w base ov ts (put4 W B v0 v1 v2 v3) := by
  obtain ⟨ds, h1, h2⟩ := h
  refine ⟨ds, h1.kept (row := some B) ?_ ?_, h2⟩
  · refine ⟨rfl, rfl, rfl, by simp [put4, World.setCell], fun j hj hne => put4_other (by intro e; exact hne (by rw [e])) _ _ _ _⟩
  · right
    intro e
    have := (ownBlock_lt h1 e).1
    omega
theorem OwnC.snoc {w : World} {base g cap' : Nat} {ts : List Ty} {W' : World} {ds : List TC} {x : TC} {t : Ty} (h2 : TC.AllOf (· < w.heap.size) w ds ts) (hx : TC.Of (· < w.heap.size) w x t)
    (hown : W'.ownsRow base 24 4 (.slice (some ⟨g, 0, none⟩) (ds.length + 1) cap') (ds.length + 1) (TC.all ds ++ x.enc)) : OwnC w base (.slice (some ⟨g, 0, none⟩) (ds.length + 1) cap') (ts ++ [t]) W' :=
  ⟨ds ++ [x], by rw [TC.all_snoc, List.length_append, List.length_singleton]; exact hown, h2.snoc hx⟩
theorem OwnC.sl {w : World} {base : Nat} {ov : Value} {ts : List Ty} {W : World} (h : OwnC w base ov ts W) (hb : Below w.heap.size w W) (hl : ts.length ≤ maxLen) : ∃ bb cap, ov = .slice bb ts.length cap ∧ Sl W bb ts := by
  obtain ⟨ds, h1, h2⟩ := h
  exact copied h1 h2 hb hl
theorem tc_v {w : World} {t : Ty} {b : Option Addr} {c : Nat} (h : V w t (.agg #[.int .i64 t.op, .int .i64 t.n, .string t.name, .slice b t.args.length c])) : TC.Of (· < w.heap.size) w ⟨t.op, t.n, t.name, b, t.args.length, c⟩ t := by
  obtain ⟨b', c', e, hs, hl⟩ := h.bound
  simp only [Value.agg.injEq, Array.mk.injEq, List.cons.injEq, Value.slice.injEq, true_and, and_true] at e
  obtain ⟨e1, e2⟩ := e
  subst e1
  exact ⟨rfl, rfl, rfl, rfl, hs, hl⟩
theorem b4_apart {a b : World} {row : Option Nat} {B : Nat} {v0 v1 v2 v3 : Value} (h : B4 a B v0 v1 v2 v3) (hg : a.grownBy b row) (hr : row ≠ some B) : B4 b B v0 v1 v2 v3 :=
  (hg.block B (lt_of_block h) (fun e => hr e.symm)).trans h
def RArgP (t : Ty) (w : World) (e : Ending) (w' : World) : Prop :=
  ∃ h acc v bb cap, ArgR t acc h ∧ e = .returned (.tuple #[.slice bb acc.length cap, v]) ∧ V w h v ∧ Sl w' bb acc ∧ Below w.heap.size w w'
/-- where the loop stands -/
structure RgS (w : World) (t t' : Ty) (b : Option Addr) (c : Nat) (ov : Value) (acc : List Ty) (W : World) : Prop where
  below : Below w.heap.size w W
  box : B4 W w.heap.size (.int .i64 t'.op) (.int .i64 t'.n) (.string t'.name) (.slice b t'.args.length c)
  res : B4 W (w.heap.size + 1) (.int .i64 0) (.int .i64 0) (.string ⟨#[]⟩) (.slice none 0 0)
  v : V w t' (.agg #[.int .i64 t'.op, .int .i64 t'.n, .string t'.name, .slice b t'.args.length c])
  good : Good t'
  few : nodes t' + acc.length ≤ nodes t
  own : OwnC w (w.heap.size + 2) ov acc W
  rest : ∀ h l, ArgR t' l h → ArgR t (acc ++ l) h
theorem results_tc {fn : Func} {a b : Tmp} (hfn : fn.results = #[.tmp b, .cell a 24]) {tmps : Array Value} {w : World} {B o : Nat} {v0 v1 v2 v3 u : Value} (h : tmps.getD a undef = .pointer (some ⟨B, o, none⟩)) (hu : tmps.getD b undef = u)
    (c0 : w.cell? ⟨B, o, none⟩ = some v0) (c1 : w.cell? ⟨B, o + 1, none⟩ = some v1) (c2 : w.cell? ⟨B, o + 2, none⟩ = some v2) (c3 : w.cell? ⟨B, o + 3, none⟩ = some v3) :
    (results fn tmps).run Try.prog w = .ok (.tuple #[u, .agg #[v0, v1, v2, v3]]) w := by
  have h' : tmps[a]?.getD undef = .pointer (some ⟨B, o, none⟩) := by rw [← h]; simp
  have hu' : tmps[b]?.getD undef = u := by rw [← hu]; simp
  simp [results, hfn, h', hu', c0, c1, c2, c3, go_sem]

set_option maxRecDepth 100000 in
set_option maxHeartbeats 8000000 in
theorem rargs_ok (t : Ty) (hp : isProper t = true) (v : Value) (w : World) (hv : V w t v) : Calls Try.prog 37 #[v] w (RArgP t w) := by
  obtain ⟨i0, hi0, hz0, hz1, hz2⟩ := info_parts info24
  have hgood := Good.of hp
  have hnt := proper_nodes t hp
  obtain ⟨b, c, ev, hs, hl⟩ := hv
  have HV : Hid (V w t _) := Lib.hid ⟨b, c, rfl, hs, hl⟩
  subst ev
  obtain ⟨ht1, ht2⟩ := two_boxes w (.int .i64 t.op) (.int .i64 t.n) (.string t.name) (.slice b t.args.length c) (.int .i64 0) (.int .i64 0) (.string ⟨#[]⟩) (.slice none 0 0)
  have hb2 : Below w.heap.size w ((w.alloc (Obj.cells #[.int .i64 t.op, .int .i64 t.n, .string t.name, .slice b t.args.length c] 24)).alloc (Obj.cells #[.int .i64 0, .int .i64 0, .string ⟨#[]⟩, .slice none 0 0] 24)) := below_two w _ _
  have HST : Hid (RgS w t t b c (.slice none 0 0) [] _) := Lib.hid ⟨hb2, ht1, ht2, HV.out, hgood, by simp, OwnC.nil _ _ _, fun h l hr => hr⟩
  have HI0 := Lib.hid hi0
  have HZ0 := Lib.hid hz0
  have HZ1 := Lib.hid hz1
  have HZ2 := Lib.hid hz2
  clear ht1 ht2 hb2 hp hl hs hi0 hz0 hz1 hz2
  go_enter Try.func37, Try.ntmps37
  go_upto_region 1 with fail
  obtain ⟨W2, hW2⟩ : ∃ W2, W2 = (w.alloc (Obj.cells #[.int .i64 t.op, .int .i64 t.n, .string t.name, .slice b t.args.length c] 24)).alloc (Obj.cells #[.int .i64 0, .int .i64 0, .string ⟨#[]⟩, .slice none 0 0] 24) := ⟨_, rfl⟩
  rw [← hW2] at HST ⊢
  clear hW2
  go_wp2_with fail
  go_loopw [4] (fun ov wr => ∃ (t' : Ty) (b' : Option Addr) (c' : Nat) (acc : List Ty), Hid (RgS w t t' b' c' ov acc wr)) (fun ov _ => nodes t - lenOf ov)
  case atStart => exact ⟨t, b, c, [], HST⟩
  case round =>
    obtain ⟨t', b', c', acc, HS⟩ := hrel
    obtain ⟨q0, q1, q2, q3⟩ := HS.out.box.cells
    obtain ⟨bb, cc, hov⟩ := HS.out.own.len
    subst hov
    cases hf : isFun t' with
    | true =>
      obtain ⟨k, x, f, ht', hgk, hgx, hgf⟩ := isFun_form HS.out.good hf
      subst ht'
      clear HST
      have HSP := Lib.hid (rsplit_yes k x f hf _ w wr HS.out.v HS.out.below)
      have hfew := HS.out.few
      rw [nodes_node, nodes_node] at hfew
      have hnf := nodes_pos f
      have hnx := nodes_pos x
      have hnk := nodes_pos k
      go_wp2_with fail
      refine HSP.out.mono ?_
      rintro e w3 ⟨vx, vf, rfl, hvx, hvf, hb⟩
      have HVX := Lib.hid hvx
      have HVF := Lib.hid hvf
      obtain ⟨xb, xc, rfl, _, _⟩ := hvx
      obtain ⟨fb, fc, rfl, _, _⟩ := hvf
      have HB3 := Lib.hid hb
      clear hb q0 q1 q2 q3
      go_upto_region 5 with fail
      obtain ⟨W5, hW5⟩ : ∃ W5, W5 = (w3.alloc (Obj.cells #[.int .i64 x.op, .int .i64 x.n, .string x.name, .slice xb x.args.length xc] 24)).alloc (Obj.cells #[.int .i64 f.op, .int .i64 f.n, .string f.name, .slice fb f.args.length fc] 24) := ⟨_, rfl⟩
      obtain ⟨B5, hB5⟩ : ∃ B5, B5 = w3.heap.size := ⟨_, rfl⟩
      obtain ⟨hx5, hf5⟩ := two_boxes w3 (.int .i64 x.op) (.int .i64 x.n) (.string x.name) (.slice xb x.args.length xc) (.int .i64 f.op) (.int .i64 f.n) (.string f.name) (.slice fb f.args.length fc)
      have hb5 : Below w3.heap.size w3 W5 := by rw [hW5]; exact below_two w3 _ _
      have HNE : Hid ((Value.slice bb acc.length cc).ownBlock ≠ some (B5 + 1)) := Lib.hid (fun e => by
        obtain ⟨ds0, h0, _⟩ := HS.out.own
        have h1 := (ownBlock_lt h0 e).2
        have h2 := HB3.out.size
        omega)
      rw [← hW5, ← hB5] at hx5 hf5
      rw [← hW5, ← hB5]
      clear hW5 hB5
      have HB5 := Lib.hid (HB3.out.trans (hb5.mono HB3.out.size))
      have HX5 := Lib.hid hx5
      have HF5 := Lib.hid hf5
      have HO5 := Lib.hid (HS.out.own.next HB5.out)
      have HQ5 := Lib.hid (HS.out.box.next HB5.out)
      have HR5 := Lib.hid (HS.out.res.next HB5.out)
      have HC5 := Lib.hid (HS.out.below.trans (HB5.out.mono HS.out.below.size))
      clear hx5 hf5 hb5 HB3 HSP
      obtain ⟨x0, x1, x2, x3⟩ := HX5.out.cells
      have hnew : Below W5.heap.size W5 (W5.alloc (Obj.cells #[.int .i64 x.op, .int .i64 x.n, .string x.name, .slice xb x.args.length xc] 24)) := (Below.refl _ _).alloc (Nat.le_refl _) _
      have HNEW := Lib.hid (heap_alloc_new W5 (Obj.cells #[.int .i64 x.op, .int .i64 x.n, .string x.name, .slice xb x.args.length xc] 24))
      have HBN := Lib.hid hnew
      have HTC := Lib.hid (tc_v HVX.out)
      obtain ⟨ds, hown, hall⟩ := HO5.out.next hnew
      have hdl := hall.1
      have HDL := Lib.hid hdl
      have HOWN := Lib.hid hown
      have HALL := Lib.hid hall
      have HSZ : Hid (w.heap.size + 2 ≤ (W5.alloc (Obj.cells #[.int .i64 x.op, .int .i64 x.n, .string x.name, .slice xb x.args.length xc] 24)).heap.size) := Lib.hid (by have := lt_of_block HR5.out; have := hnew.size; omega)
      have hlen : acc.length + 1 ≤ 1000 := by omega
      clear hnew hdl hown hall
      go_wp2_with (at_builtin; go_loud (refine wpList_append_lies _ rfl (.tmp 18) (.tmp 20) 22 rfl (w.heap.size + 2) 24 i0 _ 4 56 Try.underlying22 HI0.out HZ0.out HZ1.out HZ2.out rfl (by omega) _ ds.length (TC.all ds) rfl HOWN.out ⟨W5.heap.size, 0, none⟩ 1 1 (TC.enc ⟨x.op, x.n, x.name, xb, x.args.length, xc⟩) rfl rfl (World.news_of_block HNEW.out) (TC.enc_one _) (by omega) (by unfold maxLen; have := HDL.out; omega) (by have := HDL.out; omega) HSZ.out _ rfl ?_; intro g1 cap1 w8 hown8 hgr8 _ _; have HSN := Lib.hid (OwnC.snoc HALL.out HTC.out hown8); have HB8 := Lib.hid ((HC5.out.trans (HBN.out.mono HC5.out.size)).grown hgr8 (HC5.out.trans (HBN.out.mono HC5.out.size)).size (fun j hj => by have := (ownBlock_lt HOWN.out hj).1; omega)); have HQ8 := Lib.hid (b4_far (HQ5.out.next HBN.out) hgr8 (fun j hj => (ownBlock_lt HOWN.out hj).1) (by omega : w.heap.size < w.heap.size + 2)); have HR8 := Lib.hid (b4_far (HR5.out.next HBN.out) hgr8 (fun j hj => (ownBlock_lt HOWN.out hj).1) (by omega : w.heap.size + 1 < w.heap.size + 2)); have HF8 := Lib.hid (b4_apart (HF5.out.next HBN.out) hgr8 HNE.out); clear hown8 hgr8 x0 x1 x2 x3; obtain ⟨x0, x1, x2, x3⟩ := HF8.out.cells; obtain ⟨z0, z1, z2, z3⟩ := HQ8.out.cells; have k0 := HQ8.out.frozen 0; have k1 := HQ8.out.frozen 1; have k2 := HQ8.out.frozen 2; have k3 := HQ8.out.frozen 3; have HNS : Hid (RgS w t f fb fc (.slice (some ⟨g1, 0, none⟩) (ds.length + 1) cap1) (acc ++ [x]) (put4 w8 w.heap.size (.int .i64 f.op) (.int .i64 f.n) (.string f.name) (.slice fb f.args.length fc))) := Lib.hid ⟨below_put4 HB8.out (Nat.le_refl _) _ _ _ _, put4_cells HQ8.out _ _ _ _, (put4_other (by omega) _ _ _ _).trans HR8.out, HVF.out, hgf, by simp; omega, HSN.out.put (by omega) _ _ _ _, fun h l hr => by have h9 := HS.out.rest h (x :: l) (.app k x f h l hf hr); rwa [show acc ++ x :: l = acc ++ [x] ++ l from by simp] at h9⟩))
      go_roundw
      case rel => exact ⟨f, fb, fc, acc ++ [x], by assumption⟩
      case measure => simp [lenOf]; have := HDL.out; omega
    | false =>
      have HSP := Lib.hid (rsplit_no t' HS.out.good hf _ wr (HS.out.v.next HS.out.below))
      have hres := HS.out.rest t' [] (.done t' hf)
      rw [List.append_nil] at hres
      have HRES := Lib.hid hres
      have hfew := HS.out.few
      clear hres hf HST
      go_wp2_with fail
      refine HSP.out.mono ?_
      rintro e w3 ⟨rfl, hb⟩
      have HB3 := Lib.hid hb
      clear hb q0 q1 q2 q3
      go_upto_region 4 with fail
      obtain ⟨W5, hW5⟩ : ∃ W5, W5 = (w3.alloc (Obj.cells #[.int .i64 0, .int .i64 0, .string ⟨#[]⟩, .slice none 0 0] 24)).alloc (Obj.cells #[.int .i64 0, .int .i64 0, .string ⟨#[]⟩, .slice none 0 0] 24) := ⟨_, rfl⟩
      have hb5 : Below w3.heap.size w3 W5 := by rw [hW5]; exact below_two w3 _ _
      rw [← hW5]
      clear hW5
      have HB5 := Lib.hid (HB3.out.trans (hb5.mono HB3.out.size))
      have HO5 := Lib.hid (HS.out.own.next HB5.out)
      have HQ5 := Lib.hid (HS.out.box.next HB5.out)
      have HR5 := Lib.hid (HS.out.res.next HB5.out)
      have HC5 := Lib.hid (HS.out.below.trans (HB5.out.mono HS.out.below.size))
      clear hb5 HB3 HSP
      obtain ⟨x0, x1, x2, x3⟩ := HQ5.out.cells
      obtain ⟨z0, z1, z2, z3⟩ := HR5.out.cells
      have k0 := HR5.out.frozen 0
      have k1 := HR5.out.frozen 1
      have k2 := HR5.out.frozen 2
      have k3 := HR5.out.frozen 3
      go_region
      all_goals
        go_wp2_with fail
        obtain ⟨bb', cap', he, hslo⟩ := (HO5.out.put (B := w.heap.size + 1) (by omega) (.int .i64 t'.op) (.int .i64 t'.n) (.string t'.name) (.slice b' t'.args.length c')).sl (below_put4 HC5.out (by omega) _ _ _ _) (by unfold maxLen; omega)
        injection he with e1 _ e2
        subst e1
        first
        | (refine bodyPost_ret (results_tc (a := 3) (b := 2) (by kernel_rfl) (B := w.heap.size + 1) (by rfl) (by rfl) (put4_cells HR5.out _ _ _ _).cells.1 (put4_cells HR5.out _ _ _ _).cells.2.1 (put4_cells HR5.out _ _ _ _).cells.2.2.1 (put4_cells HR5.out _ _ _ _).cells.2.2.2) rfl ?_; exact ⟨t', acc, _, bb, cc, HRES.out, rfl, HS.out.v, hslo, below_put4 HC5.out (by omega) _ _ _ _⟩)
        | (refine bodyPost_ret (results_tc (a := 3) (b := 2) (by kernel_rfl) (B := w.heap.size + 1) (by rfl) (by rfl) (put4_cells HR5.out _ _ _ _).cells.1 (put4_cells HR5.out _ _ _ _).cells.2.1 (put4_cells HR5.out _ _ _ _).cells.2.2.1 (put4_cells HR5.out _ _ _ _).cells.2.2.2) rfl ?_; exact ⟨t', acc, _, bb, cc, HRES.out, rfl, HS.out.v, hslo.next (Below.refl _ _).drew, (below_put4 HC5.out (by omega) _ _ _ _).drew⟩)

end Ty
end Go.Proofs.Ytkedhnahgpmkaaa
