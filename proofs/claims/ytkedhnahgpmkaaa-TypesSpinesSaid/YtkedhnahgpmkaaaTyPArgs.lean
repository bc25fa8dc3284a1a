/- What the program's Arguments returns. Conditions: the type lies in memory. -/
import Derived.Test.YtkedhnahgpmkaaaTyAnewT
import Derived.Test.YtkedhnahgpmkaaaTyPIsFun
import Derived.Test.YtkedhnahgpmkaaaTyPShift
namespace Go.Proofs.Ytkedhnahgpmkaaa
open Go.RowKit

namespace Ty
/-- a type has these arguments, and this result behind them -/
inductive ArgR : Ty → List Ty → Ty → Prop where
  | done (t : Ty) : isFun t = false → ArgR t [] t
  | app (k a r h : Ty) (l : List Ty) : isFun (.mk 3 0 [] [.mk 3 0 [] [k, a], r]) = true → ArgR r l h → ArgR (.mk 3 0 [] [.mk 3 0 [] [k, a], r]) (a :: l) h
theorem ArgR.one {t h h' : Ty} {l l' : List Ty} (a : ArgR t l h) (b : ArgR t l' h') : l = l' ∧ h = h' := by
  induction a generalizing h' l' with
  | done t hne =>
    cases b with
    | done _ _ => exact ⟨rfl, rfl⟩
    | app k a r h l hr _ => rw [hne] at hr; cases hr
  | app k a r h l hf hr ih =>
    cases b with
    | done _ hne => rw [hf] at hne; cases hne
    | app _ _ _ _ _ _ hr' =>
      obtain ⟨e1, e2⟩ := ih hr'
      exact ⟨by rw [e1], e2⟩
def PArgP (t : Ty) (w : World) (e : Ending) (w' : World) : Prop :=
  ∃ h acc v bb cap, ArgR t acc h ∧ e = .returned (.tuple #[.slice bb acc.length cap, v, .int .i64 0]) ∧ VO (w.heap.size ≤ ·) w' h v ∧ SlO (fun _ => True) w' bb acc ∧ Below w.heap.size w w'
/-- where the loop stands -/
structure AgS (w : World) (t t' : Ty) (b : Option Addr) (c : Nat) (ov : Value) (acc : List Ty) (W : World) : Prop where
  below : Below w.heap.size w W
  box : B4 W w.heap.size (.int .i64 t'.op) (.int .i64 t'.n) (.string t'.name) (.slice b t'.args.length c)
  res : B4 W (w.heap.size + 1) (.int .i64 0) (.int .i64 0) (.string ⟨#[]⟩) (.slice none 0 0)
  v : V w t' (.agg #[.int .i64 t'.op, .int .i64 t'.n, .string t'.name, .slice b t'.args.length c])
  good : Good t'
  few : nodes t' + acc.length ≤ nodes t
  own : OwnL (w.heap.size + 2) ov acc W
  rest : ∀ h l, ArgR t' l h → ArgR t (acc ++ l) h

theorem results_targ {fn : Func} {a b d : Tmp} (hfn : fn.results = #[.tmp b, .cell a 24, .tmp d]) {tmps : Array Value} {w : World} {B o : Nat} {v0 v1 v2 v3 u y : Value} (h : tmps.getD a undef = .pointer (some ⟨B, o, none⟩)) (hu : tmps.getD b undef = u) (hy : tmps.getD d undef = y)
    (c0 : w.cell? ⟨B, o, none⟩ = some v0) (c1 : w.cell? ⟨B, o + 1, none⟩ = some v1) (c2 : w.cell? ⟨B, o + 2, none⟩ = some v2) (c3 : w.cell? ⟨B, o + 3, none⟩ = some v3) :
    (results fn tmps).run Try.prog w = .ok (.tuple #[u, .agg #[v0, v1, v2, v3], y]) w := by
  have h' : tmps[a]?.getD undef = .pointer (some ⟨B, o, none⟩) := by rw [← h]; simp
  have hu' : tmps[b]?.getD undef = u := by rw [← hu]; simp
  have hy' : tmps[d]?.getD undef = y := by rw [← hy]; simp
  simp [results, hfn, h', hu', hy', c0, c1, c2, c3, go_sem]
theorem own_slk {base : Nat} {ov : Value} {ts : List Ty} {W : World} (h : OwnL base ov ts W) (hn : ts.length ≤ maxLen) : ∃ bb cap, ov = .slice bb ts.length cap ∧ SlO (base ≤ ·) W bb ts := by
  obtain ⟨bb, cap, e⟩ := h.len
  refine ⟨bb, cap, e, hn, ?_⟩
  obtain ⟨ds, h1, h2⟩ := h
  by_cases hne : ds = []
  · left
    have := h2.1
    rw [hne] at this
    exact List.length_eq_zero_iff.mp this.symm
  · obtain ⟨g, cap', e', hg, hk⟩ := cells_own h1 hne
    rw [e] at e'
    injection e' with e1 _ _
    exact .inr ⟨g, 0, e1, hg, row_held hk (h2.keep (fun _ h => h.1) (fun _ _ _ hc => hc))⟩

set_option maxHeartbeats 8000000 in
theorem pargs_bad (t : Ty) (hp : isProper t = false) (v : Value) (w : World) (hv : V w t v) : Calls Try.prog 33 #[v] w fun e w' => e = .returned (.tuple #[.slice none 0 0, zeroV, .int .i64 2]) ∧ Below w.heap.size w w' := by
  have hty := fun W (hb : Below w.heap.size w W) => ptype_any t v W (hv.next hb)
  rw [hp] at hty
  obtain ⟨b, c, ev, _, _⟩ := hv
  subst ev
  obtain ⟨ht1, ht2⟩ := two_boxes w (.int .i64 t.op) (.int .i64 t.n) (.string t.name) (.slice b t.args.length c) (.int .i64 0) (.int .i64 0) (.string ⟨#[]⟩) (.slice none 0 0)
  have hb2 : Below w.heap.size w ((w.alloc (Obj.cells #[.int .i64 t.op, .int .i64 t.n, .string t.name, .slice b t.args.length c] 24)).alloc (Obj.cells #[.int .i64 0, .int .i64 0, .string ⟨#[]⟩, .slice none 0 0] 24)) := below_two w _ _
  have HT1 := Lib.hid ht1
  have HT2 := Lib.hid ht2
  have HB2 := Lib.hid hb2
  have HC := Lib.hid hty
  clear ht1 ht2 hb2 hty
  go_enter Try.func33, Try.ntmps33
  go_upto_region 1 with fail
  obtain ⟨W2, hW2⟩ : ∃ W2, W2 = (w.alloc (Obj.cells #[.int .i64 t.op, .int .i64 t.n, .string t.name, .slice b t.args.length c] 24)).alloc (Obj.cells #[.int .i64 0, .int .i64 0, .string ⟨#[]⟩, .slice none 0 0] 24) := ⟨_, rfl⟩
  rw [← hW2] at HT1 HT2 HB2 ⊢
  clear hW2
  obtain ⟨c0, c1, c2, c3⟩ := HT1.out.cells
  go_wp2_with fail
  refine (HC.out W2 HB2.out).mono ?_
  rintro e w2 ⟨rfl, hb⟩
  have HR := Lib.hid (HT2.out.next hb)
  have HB := Lib.hid (HB2.out.trans (hb.mono HB2.out.size))
  clear hb c0 c1 c2 c3 HT1 HT2 HB2 HC
  obtain ⟨z0, z1, z2, z3⟩ := HR.out.cells
  have f0 := HR.out.frozen 0
  have f1 := HR.out.frozen 1
  have f2 := HR.out.frozen 2
  have f3 := HR.out.frozen 3
  go_wp2_with fail
  refine bodyPost_ret (results_targ (a := 3) (b := 2) (d := 4) (by kernel_rfl) (B := w.heap.size + 1) (by rfl) (by rfl) (by rfl) (put4_cells HR.out _ _ _ _).cells.1 (put4_cells HR.out _ _ _ _).cells.2.1 (put4_cells HR.out _ _ _ _).cells.2.2.1 (put4_cells HR.out _ _ _ _).cells.2.2.2) rfl ?_
  exact ⟨rfl, below_put4 HB.out (by omega) _ _ _ _⟩

set_option maxRecDepth 100000 in
set_option maxHeartbeats 8000000 in
theorem pargs_ok (t : Ty) (hp : isProper t = true) (v : Value) (w : World) (hv : V w t v) : Calls Try.prog 33 #[v] w (PArgP t w) := by
  obtain ⟨i0, hi0, hz0, hz1, hz2⟩ := info_parts info24
  have hty := fun W (hb : Below w.heap.size w W) => ptype_any t v W (hv.next hb)
  rw [hp] at hty
  have hgood := Good.of hp
  have hnt := proper_nodes t hp
  obtain ⟨b, c, ev, hs, hl⟩ := hv
  have HV : Hid (V w t _) := Lib.hid ⟨b, c, rfl, hs, hl⟩
  subst ev
  obtain ⟨ht1, ht2⟩ := two_boxes w (.int .i64 t.op) (.int .i64 t.n) (.string t.name) (.slice b t.args.length c) (.int .i64 0) (.int .i64 0) (.string ⟨#[]⟩) (.slice none 0 0)
  have hb2 : Below w.heap.size w ((w.alloc (Obj.cells #[.int .i64 t.op, .int .i64 t.n, .string t.name, .slice b t.args.length c] 24)).alloc (Obj.cells #[.int .i64 0, .int .i64 0, .string ⟨#[]⟩, .slice none 0 0] 24)) := below_two w _ _
  have HT1 := Lib.hid ht1
  have HT2 := Lib.hid ht2
  have HB2 := Lib.hid hb2
  have HC := Lib.hid hty
  have HI0 := Lib.hid hi0
  have HZ0 := Lib.hid hz0
  have HZ1 := Lib.hid hz1
  have HZ2 := Lib.hid hz2
  clear ht1 ht2 hb2 hty hp hl hs hi0 hz0 hz1 hz2
  go_enter Try.func33, Try.ntmps33
  go_upto_region 1 with fail
  obtain ⟨W2, hW2⟩ : ∃ W2, W2 = (w.alloc (Obj.cells #[.int .i64 t.op, .int .i64 t.n, .string t.name, .slice b t.args.length c] 24)).alloc (Obj.cells #[.int .i64 0, .int .i64 0, .string ⟨#[]⟩, .slice none 0 0] 24) := ⟨_, rfl⟩
  rw [← hW2] at HT1 HT2 HB2 ⊢
  clear hW2
  obtain ⟨c0, c1, c2, c3⟩ := HT1.out.cells
  go_wp2_with fail
  refine (HC.out W2 HB2.out).mono ?_
  rintro e w2 ⟨rfl, hb⟩
  have HST : Hid (AgS w t t b c (.slice none 0 0) [] w2) := Lib.hid ⟨HB2.out.trans (hb.mono HB2.out.size), HT1.out.next hb, HT2.out.next hb, HV.out, hgood, by simp, OwnL.nil _ _, fun h l hr => hr⟩
  clear hb c0 c1 c2 c3 HT1 HT2 HB2 HC hgood HV
  go_wp2_with fail
  go_loopw [5] (fun ov wr => ∃ (t' : Ty) (b' : Option Addr) (c' : Nat) (acc : List Ty), Hid (AgS w t t' b' c' ov acc wr)) (fun ov _ => nodes t - lenOf ov)
  case atStart => exact ⟨t, b, c, [], HST⟩
  case round =>
    obtain ⟨t', b', c', acc, HS⟩ := hrel
    obtain ⟨q0, q1, q2, q3⟩ := HS.out.box.cells
    obtain ⟨bb, cc, hov⟩ := HS.out.own.len
    subst hov
    have HIS := Lib.hid (isfun_any t' HS.out.good _ wr (HS.out.v.next HS.out.below))
    cases hf : isFun t' with
    | true =>
      rw [hf] at HIS
      obtain ⟨k, x, f, ht', hgk, hgx, hgf⟩ := isFun_form HS.out.good hf
      subst ht'
      clear HST
      obtain ⟨_, hsl⟩ := v_parts HS.out.v
      rcases hsl.2 with h0 | ⟨g, o, hbg, hrow⟩
      · cases h0
      subst hbg
      obtain ⟨hrf, hrx, _⟩ := hrow
      obtain ⟨fb0, fc0, m0, m1, m2, m3, hvm⟩ := at_v hrf
      obtain ⟨fb, fc, f0, f1, f2, f3, hvf⟩ := at_v hrx
      obtain ⟨_, hsl2⟩ := v_parts hvm
      rcases hsl2.2 with h0 | ⟨g2, o2, hbg, hrow2⟩
      · cases h0
      subst hbg
      obtain ⟨_, hra, _⟩ := hrow2
      obtain ⟨xb, xc, x0, x1, x2, x3, hvx⟩ := at_v hra
      have HVF := Lib.hid hvf
      have hbel := HS.out.below
      have F0 := Lib.hid f0
      have F1 := Lib.hid f1
      have F2 := Lib.hid f2
      have F3 := Lib.hid f3
      have M3 := Lib.hid m3
      have X0 := Lib.hid x0
      have X1 := Lib.hid x1
      have X2 := Lib.hid x2
      have X3 := Lib.hid x3
      have hfew := HS.out.few
      rw [nodes_node, nodes_node] at hfew
      have hnf := nodes_pos f
      have hnx := nodes_pos x
      have hnk := nodes_pos k
      have HVX := Lib.hid hra
      replace q0 : wr.cell? ⟨w.heap.size, 0, none⟩ = some (.int .i64 3) := q0
      replace q1 : wr.cell? ⟨w.heap.size, 1, none⟩ = some (.int .i64 0) := q1
      replace q3 : wr.cell? ⟨w.heap.size, 3, none⟩ = some (.slice (some ⟨g, o, none⟩) 2 c') := q3
      clear hvf hvx hvm hrf hrx hra hbel f0 f1 f2 f3 x0 x1 x2 x3 m0 m1 m2 m3 hsl hsl2
      go_wp2_with fail
      refine HIS.out.mono ?_
      rintro e w2 ⟨rfl, hb2⟩
      have HSb := Lib.hid (show Below w.heap.size w w2 from HS.out.below.trans (hb2.mono HS.out.below.size))
      have HQ2 := Lib.hid (HS.out.box.next hb2)
      have HR2 := Lib.hid (HS.out.res.next hb2)
      have HO2 := Lib.hid (HS.out.own.next hb2)
      clear hb2 q0 q1 q2 q3 HIS
      obtain ⟨q0, q1, q2, q3⟩ := HQ2.out.cells
      replace q3 : w2.cell? ⟨w.heap.size, 3, none⟩ = some (.slice (some ⟨g, o, none⟩) 2 c') := q3
      have m3 := keeps HSb.out _ _ M3.out
      replace m3 : w2.cell? ⟨g, o + 3, none⟩ = some (.slice (some ⟨g2, o2, none⟩) 2 fc0) := m3
      have x0 := keeps HSb.out _ _ X0.out
      have x1 := keeps HSb.out _ _ X1.out
      have x2 := keeps HSb.out _ _ X2.out
      have x3 := keeps HSb.out _ _ X3.out
      have HAN := Lib.hid (anewp_any hgx w2 g2 (o2 + 4) (HVX.out.next HSb.out))
      have HBO : Hid (w.heap.size + 2 ≤ w2.heap.size) := Lib.hid (by have := lt_of_block HR2.out; omega)
      go_wp2_with fail
      refine HAN.out.mono ?_
      rintro e w3 ⟨v3, rfl, ⟨b9, c9, rfl, hs9, hl9⟩, hb3⟩
      have hnew : Below w3.heap.size w3 (w3.alloc (Obj.cells #[.int .i64 x.op, .int .i64 x.n, .string x.name, .slice b9 x.args.length c9] 24)) := (Below.refl _ _).alloc (Nat.le_refl _) _
      have HTC := Lib.hid (own_new (w := w3.alloc (Obj.cells #[.int .i64 x.op, .int .i64 x.n, .string x.name, .slice b9 x.args.length c9] 24)) (c9 := c9) HO2.out HBO.out hs9 hl9 (fun p v _ hc => keeps hnew _ _ hc))
      have HB3 := Lib.hid hb3
      have HNEW := Lib.hid (heap_alloc_new w3 (Obj.cells #[.int .i64 x.op, .int .i64 x.n, .string x.name, .slice b9 x.args.length c9] 24))
      have HBN := Lib.hid (hb3.trans (hnew.mono hb3.size))
      obtain ⟨ds, hdl, hown, hall⟩ := own_nodes (HO2.out.next HBN.out)
      have HDL := Lib.hid hdl
      have HOWN := Lib.hid hown
      have HALL := Lib.hid hall
      have HSZ : Hid (w3.heap.size + 1 = (w3.alloc (Obj.cells #[.int .i64 x.op, .int .i64 x.n, .string x.name, .slice b9 x.args.length c9] 24)).heap.size) := Lib.hid (by simp)
      clear hs9 hl9 hb3 hnew hdl hown hall x0 x1 x2 x3 q0 q1 q2 q3 m3 HAN
      have hlen : acc.length + 1 ≤ 1000 := by omega
      go_wp2_with (at_builtin; go_loud (refine wpList_append_lies _ rfl (.tmp 12) (.tmp 20) 22 rfl (w.heap.size + 2) 24 i0 _ 4 56 Try.underlying22 HI0.out HZ0.out HZ1.out HZ2.out rfl (by omega) _ ds.length (TC.all ds) rfl HOWN.out ⟨w3.heap.size, 0, none⟩ 1 1 (TC.enc ⟨x.op, x.n, x.name, b9, x.args.length, c9⟩) rfl rfl (World.news_of_block HNEW.out) (TC.enc_one _) (by omega) (by unfold maxLen; have := HDL.out; omega) (by have := HDL.out; omega) (by have := HSZ.out; have := HBO.out; have := HB3.out.size; omega) _ rfl ?_; intro g1 cap1 w5 hown5 hgr5 hlie5 _; have HSN := Lib.hid (OwnL.snoc HALL.out HTC.out hown5 hgr5 hlie5); have HB5 := Lib.hid ((HSb.out.trans (HBN.out.mono HSb.out.size)).grown hgr5 (HSb.out.trans (HBN.out.mono HSb.out.size)).size (fun j hj => by have := (ownBlock_lt HOWN.out hj).1; omega)); have HQ5 := Lib.hid (b4_far (HQ2.out.next HBN.out) hgr5 (fun j hj => (ownBlock_lt HOWN.out hj).1) (by omega : w.heap.size < w.heap.size + 2)); have HR5 := Lib.hid (b4_far (HR2.out.next HBN.out) hgr5 (fun j hj => (ownBlock_lt HOWN.out hj).1) (by omega : w.heap.size + 1 < w.heap.size + 2)); clear hown5 hgr5 hlie5; obtain ⟨z0, z1, z2, z3⟩ := HQ5.out.cells; have k0 := HQ5.out.frozen 0; have k1 := HQ5.out.frozen 1; have k2 := HQ5.out.frozen 2; have k3 := HQ5.out.frozen 3; have y0 := keeps HB5.out _ _ F0.out; have y1 := keeps HB5.out _ _ F1.out; have y2 := keeps HB5.out _ _ F2.out; have y3 := keeps HB5.out _ _ F3.out; replace z3 : w5.cell? ⟨w.heap.size, 3, none⟩ = some (.slice (some ⟨g, o, none⟩) 2 c') := z3; have HNS : Hid (AgS w t f fb fc (.slice (some ⟨g1, 0, none⟩) (ds.length + 1) cap1) (acc ++ [x]) (put4 w5 w.heap.size (.int .i64 f.op) (.int .i64 f.n) (.string f.name) (.slice fb f.args.length fc))) := Lib.hid ⟨below_put4 HB5.out (Nat.le_refl _) _ _ _ _, put4_cells HQ5.out _ _ _ _, (put4_other (by omega) _ _ _ _).trans HR5.out, HVF.out, hgf, by simp; omega, HSN.out.put (by omega) _ _ _ _, fun h l hr => by have h9 := HS.out.rest h (x :: l) (.app k x f h l hf hr); rwa [show acc ++ x :: l = acc ++ [x] ++ l from by simp] at h9⟩))
      go_roundw
      case rel => exact ⟨f, fb, fc, acc ++ [x], by assumption⟩
      case measure => simp [lenOf]; have := HDL.out; omega
    | false =>
      rw [hf] at HIS
      have hres := HS.out.rest t' [] (.done t' hf)
      rw [List.append_nil] at hres
      have HRES := Lib.hid hres
      have hfew := HS.out.few
      clear hres hf HST
      go_wp2_with fail
      refine HIS.out.mono ?_
      rintro e w3 ⟨rfl, hb2⟩
      have HB3 := Lib.hid (HS.out.below.trans (hb2.mono HS.out.below.size))
      have HQ3 := Lib.hid (HS.out.box.next hb2)
      have HR3 := Lib.hid (HS.out.res.next hb2)
      have HO3 := Lib.hid (HS.out.own.next hb2)
      have HAN := Lib.hid (anewp_any HS.out.good w3 w.heap.size 0 (at_box HQ3.out (HS.out.v.next HB3.out)))
      clear hb2 q0 q1 q2 q3 HIS
      obtain ⟨z0, z1, z2, z3⟩ := HQ3.out.cells
      go_wp2_with fail
      refine HAN.out.mono ?_
      rintro e w4 ⟨v4, rfl, ⟨b9, c9, rfl, hs9, hl9⟩, hb4⟩
      have HV4 : Hid (VO (w3.heap.size ≤ ·) w4 t' _) := Lib.hid ⟨b9, c9, rfl, hs9, hl9⟩
      have HB4 := Lib.hid (HB3.out.trans (hb4.mono HB3.out.size))
      have HR4 := Lib.hid (HR3.out.next hb4)
      have HO4 := Lib.hid (HO3.out.next hb4)
      have HLT : Hid (w.heap.size + 1 < w3.heap.size) := Lib.hid (lt_of_block HR3.out)
      clear hs9 hl9 hb4 z0 z1 z2 z3
      obtain ⟨z0, z1, z2, z3⟩ := HR4.out.cells
      have k0 := HR4.out.frozen 0
      have k1 := HR4.out.frozen 1
      have k2 := HR4.out.frozen 2
      have k3 := HR4.out.frozen 3
      go_wp2_with fail
      refine bodyPost_ret (results_targ (a := 3) (b := 2) (d := 4) (by kernel_rfl) (B := w.heap.size + 1) (by rfl) (by rfl) (by rfl) (put4_cells HR4.out _ _ _ _).cells.1 (put4_cells HR4.out _ _ _ _).cells.2.1 (put4_cells HR4.out _ _ _ _).cells.2.2.1 (put4_cells HR4.out _ _ _ _).cells.2.2.2) rfl ?_
      obtain ⟨bb', cap', he, hslo⟩ := own_slk HO4.out (by unfold maxLen; omega)
      injection he with e1 _ e2
      subst e1
      have hlt := HLT.out
      exact ⟨t', acc, _, bb, cc, HRES.out, rfl, HV4.out.keep (fun g hg => by show w.heap.size ≤ g; have : w3.heap.size ≤ g := hg; omega) (fun p v hp hc => put4_keep _ _ _ _ p v hc (by have : w3.heap.size ≤ p.block := hp; omega)), SlO.keep (fun _ _ => trivial) (fun p v hp hc => put4_keep _ _ _ _ p v hc (by have : w.heap.size + 2 ≤ p.block := hp; omega)) hslo, below_put4 HB4.out (by omega) _ _ _ _⟩

end Ty
end Go.Proofs.Ytkedhnahgpmkaaa
