/- What the program's Spine returns. Conditions: the type lies in memory. -/
import Derived.Test.YtkedhnahgpmkaaaTyRow
import Derived.Test.YtkedhnahgpmkaaaTyAnewT
import Derived.Deep.AppendLies
namespace Go.Proofs.Ytkedhnahgpmkaaa
open Go.RowKit

namespace Ty
/-- a type has a head, and these arguments, the last one first -/
inductive SpineR : Ty → Ty → List Ty → Prop where
  | done (t : Ty) : t.op ≠ 3 → SpineR t t []
  | app (f x h : Ty) (l : List Ty) : SpineR f h l → SpineR (.mk 3 0 [] [f, x]) h (x :: l)
theorem SpineR.one {t h h' : Ty} {l l' : List Ty} (a : SpineR t h l) (b : SpineR t h' l') : h = h' ∧ l = l' := by
  induction a generalizing h' l' with
  | done t hne =>
    cases b with
    | done _ _ => exact ⟨rfl, rfl⟩
    | app f x h l hr => exact absurd rfl hne
  | app f x h l hr ih =>
    cases b with
    | done _ hne => exact absurd rfl hne
    | app _ _ _ _ hr' =>
      obtain ⟨e1, e2⟩ := ih hr'
      exact ⟨e1, by rw [e2]⟩
def lenOf : Value → Nat | .slice _ n _ => n | _ => 0

def SpineP (t : Ty) (w : World) (e : Ending) (w' : World) : Prop :=
  ∃ h acc v ov, SpineR t h acc ∧ e = .returned (.tuple #[v, ov, .int .i64 0]) ∧ VO (w.heap.size ≤ ·) w' h v ∧ RevP.OwnR w.heap.size ov acc.reverse w' ∧ Below w.heap.size w w'

/-- where the loop stands -/
structure SpS (w : World) (t t' : Ty) (b : Option Addr) (c : Nat) (ov : Value) (acc : List Ty) (W : World) : Prop where
  below : Below w.heap.size w W
  box : B4 W w.heap.size (.int .i64 t'.op) (.int .i64 t'.n) (.string t'.name) (.slice b t'.args.length c)
  res : B4 W (w.heap.size + 1) (.int .i64 0) (.int .i64 0) (.string ⟨#[]⟩) (.slice none 0 0)
  v : V w t' (.agg #[.int .i64 t'.op, .int .i64 t'.n, .string t'.name, .slice b t'.args.length c])
  good : Good t'
  few : nodes t' + acc.length ≤ nodes t
  own : OwnL (w.heap.size + 2) ov acc W
  rest : ∀ h l, SpineR t' h l → SpineR t h (acc ++ l)

theorem results_three {fn : Func} {a b d : Tmp} (hfn : fn.results = #[.cell a 24, .tmp b, .tmp d]) {tmps : Array Value} {w : World} {B o : Nat} {v0 v1 v2 v3 u y : Value} (h : tmps.getD a undef = .pointer (some ⟨B, o, none⟩)) (hu : tmps.getD b undef = u) (hy : tmps.getD d undef = y)
    (c0 : w.cell? ⟨B, o, none⟩ = some v0) (c1 : w.cell? ⟨B, o + 1, none⟩ = some v1) (c2 : w.cell? ⟨B, o + 2, none⟩ = some v2) (c3 : w.cell? ⟨B, o + 3, none⟩ = some v3) :
    (results fn tmps).run Try.prog w = .ok (.tuple #[.agg #[v0, v1, v2, v3], u, y]) w := by
  have h' : tmps[a]?.getD undef = .pointer (some ⟨B, o, none⟩) := by rw [← h]; simp
  have hu' : tmps[b]?.getD undef = u := by rw [← hu]; simp
  have hy' : tmps[d]?.getD undef = y := by rw [← hy]; simp
  simp [results, hfn, h', hu', hy', c0, c1, c2, c3, go_sem]

theorem v_parts {w : World} {t : Ty} {b : Option Addr} {c : Nat} (h : V w t (.agg #[.int .i64 t.op, .int .i64 t.n, .string t.name, .slice b t.args.length c])) : t.s.length ≤ maxLen ∧ Sl w b t.args := by
  obtain ⟨b', c', e, h1, h2⟩ := h
  simp only [Value.agg.injEq, Array.mk.injEq, List.cons.injEq, Value.slice.injEq, true_and, and_true] at e
  rw [e.1]
  exact ⟨h1, h2⟩
theorem own_new {w wr w3 : World} {t : Ty} {base : Nat} {b9 : Option Addr} {c9 : Nat} {ov : Value} {acc : List Ty} (h : OwnL base ov acc wr) (hb : base ≤ wr.heap.size) (hs : t.s.length ≤ maxLen) (hl : SlO (wr.heap.size ≤ ·) w3 b9 t.args) (hk : ∀ (p : Addr) v, wr.heap.size ≤ p.block → w3.cell? p = some v → w.cell? p = some v) :
    TC.Of (fun g => base ≤ g ∧ some g ≠ ov.ownBlock) w ⟨t.op, t.n, t.name, b9, t.args.length, c9⟩ t := by
  obtain ⟨ds, h1, h2⟩ := h
  refine ⟨rfl, rfl, rfl, rfl, hs, hl.keep (fun g hg => ⟨by have : wr.heap.size ≤ g := hg; omega, fun e => ?_⟩) hk⟩
  have := (ownBlock_lt h1 e.symm).2
  have : wr.heap.size ≤ g := hg
  omega
theorem own_nodes {base : Nat} {ov : Value} {acc : List Ty} {W : World} (h : OwnL base ov acc W) : ∃ ds, ds.length = acc.length ∧ W.ownsRow base 24 4 ov ds.length (TC.all ds) ∧ TC.AllOf (fun g => base ≤ g ∧ some g ≠ ov.ownBlock) W ds acc := by
  obtain ⟨ds, h1, h2⟩ := h
  exact ⟨ds, h2.1, h1, h2⟩
theorem b4_far {a b : World} {row : Option Nat} {B base : Nat} {v0 v1 v2 v3 : Value} (h : B4 a B v0 v1 v2 v3) (hg : a.grownBy b row) (hr : ∀ j, row = some j → base ≤ j) (hB : B < base) : B4 b B v0 v1 v2 v3 :=
  (hg.block B (lt_of_block h) (fun e => by have := hr B e.symm; omega)).trans h

set_option maxRecDepth 100000 in
set_option maxHeartbeats 8000000 in
theorem spine_ok (t : Ty) (hp : isProper t = true) (v : Value) (w : World) (hv : V w t v) : Calls Try.prog 32 #[v] w (SpineP t w) := by
  obtain ⟨i0, hi0, hz0, hz1, hz2⟩ := info_parts info24
  have hty := fun W (hb : Below w.heap.size w W) => ptype_any t v W (hv.next hb)
  rw [hp] at hty
  have hgood := Good.of hp
  have hnt := proper_nodes t hp
  obtain ⟨b, c, ev, hs, hl⟩ := hv
  have HV : Hid (V w t _) := Lib.hid ⟨b, c, rfl, hs, hl⟩
  subst ev
  obtain ⟨ht1, ht2⟩ := two_boxes w (.int .i64 t.op) (.int .i64 t.n) (.string t.name) (.slice b t.args.length c) (.int .i64 0) (.int .i64 0) (.string ⟨#[]⟩) (.slice none 0 0)
  have hb2 : Below w.heap.size w ((w.alloc (Obj.cells #[.int .i64 t.op, .int .i64 t.n, .string t.name, .slice b t.args.length c] 24)).alloc (Obj.cells #[.int .i64 0, .int .i64 0, .string ⟨#[]⟩, .slice none 0 0] 24)) := below_two w _ _
  have HT1 := Lib.hid ht1
  have HT2 := Lib.hid ht2
  have HB2 := Lib.hid hb2
  have HC := Lib.hid hty
  have HI0 := Lib.hid hi0
  have HZ0 := Lib.hid hz0
  have HZ1 := Lib.hid hz1
  have HZ2 := Lib.hid hz2
  clear ht1 ht2 hb2 hty hp hl hs hi0 hz0 hz1 hz2
  go_enter Try.func32, Try.ntmps32
  go_upto_region 1 with fail
  obtain ⟨W2, hW2⟩ : ∃ W2, W2 = (w.alloc (Obj.cells #[.int .i64 t.op, .int .i64 t.n, .string t.name, .slice b t.args.length c] 24)).alloc (Obj.cells #[.int .i64 0, .int .i64 0, .string ⟨#[]⟩, .slice none 0 0] 24) := ⟨_, rfl⟩
  rw [← hW2] at HT1 HT2 HB2 ⊢
  clear hW2
  obtain ⟨c0, c1, c2, c3⟩ := HT1.out.cells
  go_wp2_with fail
  refine (HC.out W2 HB2.out).mono ?_
  rintro e w2 ⟨rfl, hb⟩
  have HST : Hid (SpS w t t b c (.slice none 0 0) [] w2) := Lib.hid ⟨HB2.out.trans (hb.mono HB2.out.size), HT1.out.next hb, HT2.out.next hb, HV.out, hgood, by simp, OwnL.nil _ _, fun h l hr => hr⟩
  clear hb c0 c1 c2 c3 HT1 HT2 HB2 HC hgood HV
  go_wp2_with fail
  go_loopw [5] (fun ov wr => ∃ (t' : Ty) (b' : Option Addr) (c' : Nat) (acc : List Ty), Hid (SpS w t t' b' c' ov acc wr)) (fun ov _ => nodes t - lenOf ov)
  case atStart => exact ⟨t, b, c, [], HST⟩
  case round =>
    obtain ⟨t', b', c', acc, HS⟩ := hrel
    obtain ⟨q0, q1, q2, q3⟩ := HS.out.box.cells
    obtain ⟨bb, cc, hov⟩ := HS.out.own.len
    subst hov
    by_cases h3 : t'.op = 3
    · have hg := HS.out.good
      cases hg with
      | var op n h1 h2 h4 => exact absurd h3 (by show op ≠ 3; omega)
      | con s h1 h2 => exact absurd h3 (by show (2 : Int) ≠ 3; decide)
      | node op f x hop hgf hgx =>
        have h3' : op = 3 := h3
        subst h3'
        clear hop h3
        obtain ⟨_, hsl⟩ := v_parts HS.out.v
        rcases hsl.2 with h0 | ⟨g, o, hbg, hrow⟩
        · cases h0
        subst hbg
        obtain ⟨hrf, hrx, _⟩ := hrow
        obtain ⟨fb, fc, f0, f1, f2, f3, hvf⟩ := at_v hrf
        obtain ⟨xb, xc, x0, x1, x2, x3, hvx⟩ := at_v hrx
        have HVF := Lib.hid hvf
        have hbel := HS.out.below
        have F0 := Lib.hid f0
        have F1 := Lib.hid f1
        have F2 := Lib.hid f2
        have F3 := Lib.hid f3
        have x0 := keeps hbel _ _ x0
        have x1 := keeps hbel _ _ x1
        have x2 := keeps hbel _ _ x2
        have x3 := keeps hbel _ _ x3
        have hfew := HS.out.few
        rw [nodes_node] at hfew
        have hnf := nodes_pos f
        have hnx := nodes_pos x
        have HAN := Lib.hid (anewp_any hgx wr g (o + 4) (hrx.next hbel))
        replace q0 : wr.cell? ⟨w.heap.size, 0, none⟩ = some (.int .i64 3) := q0
        replace q3 : wr.cell? ⟨w.heap.size, 3, none⟩ = some (.slice (some ⟨g, o, none⟩) 2 c') := q3
        have HBO : Hid (w.heap.size + 2 ≤ wr.heap.size) := Lib.hid (by have := lt_of_block HS.out.res; omega)
        clear hvf hvx hrf hrx hbel f0 f1 f2 f3 hsl q1 q2 HST
        go_wp2_with fail
        refine HAN.out.mono ?_
        rintro e w3 ⟨v3, rfl, ⟨b9, c9, rfl, hs9, hl9⟩, hb3⟩
        have hnew : Below w3.heap.size w3 (w3.alloc (Obj.cells #[.int .i64 x.op, .int .i64 x.n, .string x.name, .slice b9 x.args.length c9] 24)) := (Below.refl _ _).alloc (Nat.le_refl _) _
        have HTC := Lib.hid (own_new (w := w3.alloc (Obj.cells #[.int .i64 x.op, .int .i64 x.n, .string x.name, .slice b9 x.args.length c9] 24)) (c9 := c9) HS.out.own HBO.out hs9 hl9 (fun p v _ hc => keeps hnew _ _ hc))
        have HB3 := Lib.hid hb3
        have HNEW := Lib.hid (heap_alloc_new w3 (Obj.cells #[.int .i64 x.op, .int .i64 x.n, .string x.name, .slice b9 x.args.length c9] 24))
        have HBN := Lib.hid (hb3.trans (hnew.mono hb3.size))
        obtain ⟨ds, hdl, hown, hall⟩ := own_nodes (HS.out.own.next HBN.out)
        have HDL := Lib.hid hdl
        have HOWN := Lib.hid hown
        have HALL := Lib.hid hall
        have HSZ : Hid (w3.heap.size + 1 = (w3.alloc (Obj.cells #[.int .i64 x.op, .int .i64 x.n, .string x.name, .slice b9 x.args.length c9] 24)).heap.size) := Lib.hid (by simp)
        clear hs9 hl9 hb3 hnew hdl hown hall x0 x1 x2 x3 q0 q3 HAN
        have hlen : acc.length + 1 ≤ 1000 := by omega
        go_wp2_with (at_builtin; go_loud (refine wpList_append_lies _ rfl (.tmp 13) (.tmp 18) 22 rfl (w.heap.size + 2) 24 i0 _ 4 56 Try.underlying22 HI0.out HZ0.out HZ1.out HZ2.out rfl (by omega) _ ds.length (TC.all ds) rfl HOWN.out ⟨w3.heap.size, 0, none⟩ 1 1 (TC.enc ⟨x.op, x.n, x.name, b9, x.args.length, c9⟩) rfl rfl (World.news_of_block HNEW.out) (TC.enc_one _) (by omega) (by unfold maxLen; have := HDL.out; omega) (by have := HDL.out; omega) (by have := HSZ.out; have := HBO.out; have := HB3.out.size; omega) _ rfl ?_; intro g1 cap1 w5 hown5 hgr5 hlie5 _; have HSN := Lib.hid (OwnL.snoc HALL.out HTC.out hown5 hgr5 hlie5); have HB5 := Lib.hid ((HS.out.below.trans (HBN.out.mono HS.out.below.size)).grown hgr5 (HS.out.below.trans (HBN.out.mono HS.out.below.size)).size (fun j hj => by have := (ownBlock_lt HOWN.out hj).1; omega)); have HQ5 := Lib.hid (b4_far (HS.out.box.next HBN.out) hgr5 (fun j hj => (ownBlock_lt HOWN.out hj).1) (by omega : w.heap.size < w.heap.size + 2)); have HR5 := Lib.hid (b4_far (HS.out.res.next HBN.out) hgr5 (fun j hj => (ownBlock_lt HOWN.out hj).1) (by omega : w.heap.size + 1 < w.heap.size + 2)); clear hown5 hgr5 hlie5; obtain ⟨z0, z1, z2, z3⟩ := HQ5.out.cells; have k0 := HQ5.out.frozen 0; have k1 := HQ5.out.frozen 1; have k2 := HQ5.out.frozen 2; have k3 := HQ5.out.frozen 3; have y0 := keeps HB5.out _ _ F0.out; have y1 := keeps HB5.out _ _ F1.out; have y2 := keeps HB5.out _ _ F2.out; have y3 := keeps HB5.out _ _ F3.out; replace z3 : w5.cell? ⟨w.heap.size, 3, none⟩ = some (.slice (some ⟨g, o, none⟩) 2 c') := z3; have HNS : Hid (SpS w t f fb fc (.slice (some ⟨g1, 0, none⟩) (ds.length + 1) cap1) (acc ++ [x]) (put4 w5 w.heap.size (.int .i64 f.op) (.int .i64 f.n) (.string f.name) (.slice fb f.args.length fc))) := Lib.hid ⟨below_put4 HB5.out (Nat.le_refl _) _ _ _ _, put4_cells HQ5.out _ _ _ _, (put4_other (by omega) _ _ _ _).trans HR5.out, HVF.out, hgf, by simp; omega, HSN.out.put (by omega) _ _ _ _, fun h l hr => by have h9 := HS.out.rest h (x :: l) (.app f x h l hr); rwa [show acc ++ x :: l = acc ++ [x] ++ l from by simp] at h9⟩))
        go_roundw
        case rel => exact ⟨f, fb, fc, acc ++ [x], by assumption⟩
        case measure => simp [lenOf]; have := HDL.out; omega
    · have q3 : (t'.op == 3) = false := by simpa using h3
      have hres := HS.out.rest t' [] (.done t' h3)
      rw [List.append_nil] at hres
      have HRES := Lib.hid hres
      have hfew := HS.out.few
      have HREV := Lib.hid (rev_any HS.out.own (by omega))
      have HROW := Lib.hid (fun (W : World) (hb : Below w.heap.size w W) (hx : B4 W w.heap.size (.int .i64 t'.op) (.int .i64 t'.n) (.string t'.name) (.slice b' t'.args.length c')) => anewp_any HS.out.good W w.heap.size 0 (at_box hx (HS.out.v.next hb)))
      clear hres h3 HST
      obtain ⟨ds, hdl, hown, _⟩ := own_nodes HS.out.own
      have HOB := Lib.hid (fun j (hj : (Value.slice bb acc.length cc).ownBlock = some j) => (ownBlock_lt hown hj).1)
      clear hdl hown
      go_wp2_with fail
      refine HREV.out.mono ?_
      rintro e w3 ⟨rfl, hor, hgr⟩
      have HB3 := Lib.hid (HS.out.below.grown hgr HS.out.below.size (fun j hj => by have := HOB.out j hj; omega))
      have HQ3 := Lib.hid (b4_far HS.out.box hgr HOB.out (by omega : w.heap.size < w.heap.size + 2))
      have HR3 := Lib.hid (b4_far HS.out.res hgr HOB.out (by omega : w.heap.size + 1 < w.heap.size + 2))
      have HOR := Lib.hid hor
      clear hor hgr HREV q0 q1 q2 q3 HOB
      obtain ⟨z0, z1, z2, z3⟩ := HQ3.out.cells
      go_wp2_with fail
      refine (HROW.out w3 HB3.out HQ3.out).mono ?_
      rintro e w4 ⟨v4, rfl, ⟨b9, c9, rfl, hs9, hl9⟩, hb4⟩
      have HV4 : Hid (VO (w3.heap.size ≤ ·) w4 t' _) := Lib.hid ⟨b9, c9, rfl, hs9, hl9⟩
      have HB4 := Lib.hid (HB3.out.trans (hb4.mono HB3.out.size))
      have HR4 := Lib.hid (HR3.out.next hb4)
      have HBL := Lib.hid hb4
      clear hs9 hl9 hb4 z0 z1 z2 z3
      obtain ⟨z0, z1, z2, z3⟩ := HR4.out.cells
      have k0 := HR4.out.frozen 0
      have k1 := HR4.out.frozen 1
      have k2 := HR4.out.frozen 2
      have k3 := HR4.out.frozen 3
      go_wp2_with fail
      refine bodyPost_ret (results_three (a := 2) (b := 3) (d := 4) (by kernel_rfl) (B := w.heap.size + 1) (by rfl) (by rfl) (by rfl) (put4_cells HR4.out _ _ _ _).cells.1 (put4_cells HR4.out _ _ _ _).cells.2.1 (put4_cells HR4.out _ _ _ _).cells.2.2.1 (put4_cells HR4.out _ _ _ _).cells.2.2.2) rfl ?_
      have hlt := lt_of_block HR3.out
      obtain ⟨bb', cap', he, hslo⟩ := HOR.out
      refine ⟨t', acc, _, _, HRES.out, rfl, HV4.out.keep (fun g hg => by show w.heap.size ≤ g; have : w3.heap.size ≤ g := hg; omega) (fun p v hp hc => put4_keep _ _ _ _ p v hc (by have : w3.heap.size ≤ p.block := hp; omega)), ⟨bb', cap', he, hslo.keep (fun g hg => by show w.heap.size ≤ g; have : w.heap.size + 2 ≤ g := hg; omega) (fun p v hp hc => put4_keep _ _ _ _ p v (keeps HBL.out _ _ hc) (by have : w.heap.size + 2 ≤ p.block := hp; omega))⟩, below_put4 HB4.out (by omega) _ _ _ _⟩

end Ty
end Go.Proofs.Ytkedhnahgpmkaaa
