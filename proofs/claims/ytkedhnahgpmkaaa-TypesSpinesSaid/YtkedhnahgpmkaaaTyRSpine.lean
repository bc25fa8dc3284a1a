/- What the reference's Spine returns. Conditions: the type lies in memory and is proper. -/
import Derived.Test.YtkedhnahgpmkaaaTyRArgs
import Derived.Test.YtkedhnahgpmkaaaTyAwake
namespace Go.Proofs.Ytkedhnahgpmkaaa
open Go.RowKit

namespace Ty
/-- a row of one's own with copies of types whose rows lie in blocks that are allowed -/
def OwnK (ok : Nat → Prop) (w : World) (base : Nat) (ov : Value) (ts : List Ty) (W : World) : Prop := ∃ ds, W.ownsRow base 24 4 ov ds.length (TC.all ds) ∧ TC.AllOf ok w ds ts
theorem OwnK.nil (ok : Nat → Prop) (w : World) (base : Nat) (W : World) : OwnK ok w base (.slice none 0 0) [] W := ⟨[], World.ownsRow_nil _ _ _ _, rfl, fun _ h => absurd h (Nat.not_lt_zero _)⟩
theorem OwnK.len {ok : Nat → Prop} {w : World} {base : Nat} {ov : Value} {ts : List Ty} {W : World} (h : OwnK ok w base ov ts W) : ∃ bb cap, ov = .slice bb ts.length cap := by
  obtain ⟨ds, ⟨_, ⟨h1, h2⟩ | ⟨g, cap, cur, h1, _⟩⟩, h3, _⟩ := h
  · exact ⟨none, 0, by rw [h1, ← h3, h2]⟩
  · exact ⟨_, cap, by rw [h1, h3]⟩
theorem OwnK.next {ok : Nat → Prop} {w : World} {base : Nat} {ov : Value} {ts : List Ty} {W W' : World} (h : OwnK ok w base ov ts W) (hb : Below W.heap.size W W') : OwnK ok w base ov ts W' := by
  obtain ⟨ds, h1, h2⟩ := h
  exact ⟨ds, h1.kept (row := none) (grown_of_below hb) (by cases hv : ov.ownBlock <;> simp), h2⟩
theorem OwnK.snoc {ok : Nat → Prop} {w : World} {base g cap' : Nat} {ts : List Ty} {W' : World} {ds : List TC} {x : TC} {t : Ty} (h2 : TC.AllOf ok w ds ts) (hx : TC.Of ok w x t)
    (hown : W'.ownsRow base 24 4 (.slice (some ⟨g, 0, none⟩) (ds.length + 1) cap') (ds.length + 1) (TC.all ds ++ x.enc)) : OwnK ok w base (.slice (some ⟨g, 0, none⟩) (ds.length + 1) cap') (ts ++ [t]) W' :=
  ⟨ds ++ [x], by rw [TC.all_snoc, List.length_append, List.length_singleton]; exact hown, h2.snoc hx⟩
theorem OwnK.slo {ok ok' : Nat → Prop} {w : World} {base : Nat} {ov : Value} {ts : List Ty} {W : World} (h : OwnK ok w base ov ts W) (hb : Below w.heap.size w W) (hl : ts.length ≤ maxLen) (h1 : ∀ g, ok g → ok' g) (h2 : ∀ g, base ≤ g → ok' g) : ∃ bb cap, ov = .slice bb ts.length cap ∧ SlO ok' W bb ts := by
  obtain ⟨bb, cap, e⟩ := h.len
  refine ⟨bb, cap, e, hl, ?_⟩
  obtain ⟨ds, ho, ha⟩ := h
  by_cases hne : ds = []
  · left
    have := ha.1
    rw [hne] at this
    exact List.length_eq_zero_iff.mp this.symm
  · obtain ⟨g, cap', e', hg, hk⟩ := cells_own ho hne
    rw [e] at e'
    injection e' with e1 _ _
    exact .inr ⟨g, 0, e1, h2 g hg, row_held hk (ha.keep h1 (fun p v _ hc => keeps hb p v hc))⟩
theorem tc_vo {ok : Nat → Prop} {w : World} {t : Ty} {b : Option Addr} {c : Nat} (h : VO ok w t (.agg #[.int .i64 t.op, .int .i64 t.n, .string t.name, .slice b t.args.length c])) : TC.Of ok w ⟨t.op, t.n, t.name, b, t.args.length, c⟩ t := by
  obtain ⟨b', c', e, hs, hl⟩ := h
  simp only [Value.agg.injEq, Array.mk.injEq, List.cons.injEq, Value.slice.injEq, true_and, and_true] at e
  obtain ⟨e1, e2⟩ := e
  subst e1
  exact ⟨rfl, rfl, rfl, rfl, hs, hl⟩
def RSpP (t : Ty) (w : World) (e : Ending) (w' : World) : Prop :=
  ∃ h acc v bb cap, SpineR t h acc ∧ e = .returned (.tuple #[v, .slice bb acc.length cap]) ∧ V w h v ∧ Sl w' bb acc.reverse ∧ Below w.heap.size w w'
/-- where the first loop stands -/
structure RpS (w : World) (t t' : Ty) (b : Option Addr) (c : Nat) (ov : Value) (acc : List Ty) (W : World) : Prop where
  below : Below w.heap.size w W
  box : B4 W w.heap.size (.int .i64 t'.op) (.int .i64 t'.n) (.string t'.name) (.slice b t'.args.length c)
  res : B4 W (w.heap.size + 1) (.int .i64 0) (.int .i64 0) (.string ⟨#[]⟩) (.slice none 0 0)
  v : V w t' (.agg #[.int .i64 t'.op, .int .i64 t'.n, .string t'.name, .slice b t'.args.length c])
  good : Good t'
  few : nodes t' + acc.length ≤ nodes t
  own : OwnC w (w.heap.size + 2) ov acc W
  rest : ∀ h l, SpineR t' h l → SpineR t h (acc ++ l)

set_option maxRecDepth 100000 in
set_option maxHeartbeats 8000000 in
theorem rspine_ok (t : Ty) (hp : isProper t = true) (v : Value) (w : World) (hv : V w t v) : Calls Try.prog 36 #[v] w (RSpP t w) := by
  obtain ⟨i0, hi0, hz0, hz1, hz2⟩ := info_parts info24
  have hgood := Good.of hp
  have hnt := proper_nodes t hp
  obtain ⟨b, c, ev, hs, hl⟩ := hv
  have HV : Hid (V w t _) := Lib.hid ⟨b, c, rfl, hs, hl⟩
  subst ev
  obtain ⟨ht1, ht2⟩ := two_boxes w (.int .i64 t.op) (.int .i64 t.n) (.string t.name) (.slice b t.args.length c) (.int .i64 0) (.int .i64 0) (.string ⟨#[]⟩) (.slice none 0 0)
  have hb2 : Below w.heap.size w ((w.alloc (Obj.cells #[.int .i64 t.op, .int .i64 t.n, .string t.name, .slice b t.args.length c] 24)).alloc (Obj.cells #[.int .i64 0, .int .i64 0, .string ⟨#[]⟩, .slice none 0 0] 24)) := below_two w _ _
  have HST : Hid (RpS w t t b c (.slice none 0 0) [] _) := Lib.hid ⟨hb2, ht1, ht2, HV.out, hgood, by simp, OwnC.nil _ _ _, fun h l hr => hr⟩
  have HI0 := Lib.hid hi0
  have HZ0 := Lib.hid hz0
  have HZ1 := Lib.hid hz1
  have HZ2 := Lib.hid hz2
  clear ht1 ht2 hb2 hp hl hs hi0 hz0 hz1 hz2
  go_enter Try.func36, Try.ntmps36
  go_upto_region 1 with fail
  obtain ⟨W2, hW2⟩ : ∃ W2, W2 = (w.alloc (Obj.cells #[.int .i64 t.op, .int .i64 t.n, .string t.name, .slice b t.args.length c] 24)).alloc (Obj.cells #[.int .i64 0, .int .i64 0, .string ⟨#[]⟩, .slice none 0 0] 24) := ⟨_, rfl⟩
  rw [← hW2] at HST ⊢
  clear hW2
  go_wp2_with fail
  go_loopw [4] (fun ov wr => ∃ (t' : Ty) (b' : Option Addr) (c' : Nat) (acc : List Ty), Hid (RpS w t t' b' c' ov acc wr)) (fun ov _ => nodes t - lenOf ov)
  case atStart => exact ⟨t, b, c, [], HST⟩
  case round =>
    obtain ⟨t', b', c', acc, HS⟩ := hrel
    obtain ⟨wi, rfl⟩ : ∃ wi : World, wi = wr := ⟨_, rfl⟩
    obtain ⟨q0, q1, q2, q3⟩ := HS.out.box.cells
    obtain ⟨bb, cc, hov⟩ := HS.out.own.len
    subst hov
    by_cases h3 : t'.op = 3
    · have hg := HS.out.good
      cases hg with
      | var op n h1 h2 h4 => exact absurd h3 (by show op ≠ 3; omega)
      | con s h1 h2 => exact absurd h3 (by show (2 : Int) ≠ 3; decide)
      | node op f x hop hgf hgx =>
        have h3' : op = 3 := h3
        subst h3'
        clear hop h3 HST
        obtain ⟨_, hsl⟩ := v_parts HS.out.v
        rcases hsl.2 with h0 | ⟨g, o, hbg, hrow⟩
        · cases h0
        subst hbg
        obtain ⟨hrf, hrx, _⟩ := hrow
        obtain ⟨fb, fc, f0, f1, f2, f3, hvf⟩ := at_v hrf
        obtain ⟨xb, xc, x0, x1, x2, x3, hvx⟩ := at_v hrx
        have HVF := Lib.hid hvf
        have hbel := HS.out.below
        have F0 := Lib.hid f0
        have F1 := Lib.hid f1
        have F2 := Lib.hid f2
        have F3 := Lib.hid f3
        have x0 := keeps hbel _ _ x0
        have x1 := keeps hbel _ _ x1
        have x2 := keeps hbel _ _ x2
        have x3 := keeps hbel _ _ x3
        have hfew := HS.out.few
        rw [nodes_node] at hfew
        have hnf := nodes_pos f
        have hnx := nodes_pos x
        have HTC := Lib.hid (tc_v hvx)
        replace q0 : wi.cell? ⟨w.heap.size, 0, none⟩ = some (.int .i64 3) := q0
        replace q3 : wi.cell? ⟨w.heap.size, 3, none⟩ = some (.slice (some ⟨g, o, none⟩) 2 c') := q3
        have hnew : Below wi.heap.size wi (wi.alloc (Obj.cells #[.int .i64 x.op, .int .i64 x.n, .string x.name, .slice xb x.args.length xc] 24)) := (Below.refl _ _).alloc (Nat.le_refl _) _
        have HNEW := Lib.hid (heap_alloc_new wi (Obj.cells #[.int .i64 x.op, .int .i64 x.n, .string x.name, .slice xb x.args.length xc] 24))
        have HBN := Lib.hid hnew
        obtain ⟨ds, hown, hall⟩ := HS.out.own.next hnew
        have hdl := hall.1
        have HDL := Lib.hid hdl
        have HOWN := Lib.hid hown
        have HALL := Lib.hid hall
        have HSZ : Hid (w.heap.size + 2 ≤ (wi.alloc (Obj.cells #[.int .i64 x.op, .int .i64 x.n, .string x.name, .slice xb x.args.length xc] 24)).heap.size) := Lib.hid (by have := lt_of_block HS.out.res; have := hnew.size; omega)
        have hlen : acc.length + 1 ≤ 1000 := by omega
        clear hvf hvx hrf hrx hbel f0 f1 f2 f3 hsl q1 q2 hnew hdl hown hall
        go_wp2_with (at_builtin; go_loud (refine wpList_append_lies _ rfl (.tmp 10) (.tmp 15) 22 rfl (w.heap.size + 2) 24 i0 _ 4 56 Try.underlying22 HI0.out HZ0.out HZ1.out HZ2.out rfl (by omega) _ ds.length (TC.all ds) rfl HOWN.out ⟨wi.heap.size, 0, none⟩ 1 1 (TC.enc ⟨x.op, x.n, x.name, xb, x.args.length, xc⟩) rfl rfl (World.news_of_block HNEW.out) (TC.enc_one _) (by omega) (by unfold maxLen; have := HDL.out; omega) (by have := HDL.out; omega) HSZ.out _ rfl ?_; intro g1 cap1 w5 hown5 hgr5 _ _; have HSN := Lib.hid (OwnC.snoc HALL.out HTC.out hown5); have HB5 := Lib.hid ((HS.out.below.trans (HBN.out.mono HS.out.below.size)).grown hgr5 (HS.out.below.trans (HBN.out.mono HS.out.below.size)).size (fun j hj => by have := (ownBlock_lt HOWN.out hj).1; omega)); have HQ5 := Lib.hid (b4_far (HS.out.box.next HBN.out) hgr5 (fun j hj => (ownBlock_lt HOWN.out hj).1) (by omega : w.heap.size < w.heap.size + 2)); have HR5 := Lib.hid (b4_far (HS.out.res.next HBN.out) hgr5 (fun j hj => (ownBlock_lt HOWN.out hj).1) (by omega : w.heap.size + 1 < w.heap.size + 2)); clear hown5 hgr5 x0 x1 x2 x3 q0 q3; obtain ⟨z0, z1, z2, z3⟩ := HQ5.out.cells; have k0 := HQ5.out.frozen 0; have k1 := HQ5.out.frozen 1; have k2 := HQ5.out.frozen 2; have k3 := HQ5.out.frozen 3; have y0 := keeps HB5.out _ _ F0.out; have y1 := keeps HB5.out _ _ F1.out; have y2 := keeps HB5.out _ _ F2.out; have y3 := keeps HB5.out _ _ F3.out; replace z3 : w5.cell? ⟨w.heap.size, 3, none⟩ = some (.slice (some ⟨g, o, none⟩) 2 c') := z3; have HNS : Hid (RpS w t f fb fc (.slice (some ⟨g1, 0, none⟩) (ds.length + 1) cap1) (acc ++ [x]) (put4 w5 w.heap.size (.int .i64 f.op) (.int .i64 f.n) (.string f.name) (.slice fb f.args.length fc))) := Lib.hid ⟨below_put4 HB5.out (Nat.le_refl _) _ _ _ _, put4_cells HQ5.out _ _ _ _, (put4_other (by omega) _ _ _ _).trans HR5.out, HVF.out, hgf, by simp; omega, HSN.out.put (by omega) _ _ _ _, fun h l hr => by have h9 := HS.out.rest h (x :: l) (.app f x h l hr); rwa [show acc ++ x :: l = acc ++ [x] ++ l from by simp] at h9⟩))
        go_roundw
        case rel => exact ⟨f, fb, fc, acc ++ [x], by assumption⟩
        case measure => simp [lenOf]; have := HDL.out; omega
    · have q3' : (t'.op == 3) = false := by simpa using h3
      have hres := HS.out.rest t' [] (.done t' h3)
      rw [List.append_nil] at hres
      have HRES := Lib.hid hres
      have hfew := HS.out.few
      have hla : acc.length ≤ 600 := by omega
      obtain ⟨bb', cc', hov', hsl⟩ := OwnK.slo (ok := (· < w.heap.size)) (ok' := (fun g => g ≠ w.heap.size + 1)) HS.out.own HS.out.below (by unfold maxLen; omega) (fun g hg => by have : g < w.heap.size := hg; show g ≠ w.heap.size + 1; omega) (fun g hg => by show g ≠ w.heap.size + 1; omega)
      injection hov' with e1 _ e2
      subst e1
      have HSL := Lib.hid hsl
      obtain ⟨n, hn⟩ : ∃ n, n = acc.length := ⟨_, rfl⟩
      rw [← hn] at hla ⊢
      have HN := Lib.hid hn
      clear hres h3 HST hsl hn
      go_wp2_with fail
      go_loopw [5, 6] (fun ov i wr => ∃ (j : Nat) (acc2 : List Ty), j ≤ n ∧ i = .int .i64 ((j : Int) - 1) ∧ Hid (acc2 = (acc.drop j).reverse) ∧ Hid (OwnK (fun g => g ≠ w.heap.size + 1) wi wi.heap.size ov acc2 wr) ∧ Hid (Below wi.heap.size wi wr)) (fun _ i _ => (intOf i + 1).toNat)
      case atStart => exact ⟨n, [], Nat.le_refl _, rfl, Lib.hid (by rw [HN.out, List.drop_length]; rfl), Lib.hid (OwnK.nil _ _ _ _), Lib.hid (Below.refl _ _)⟩
      case round =>
        obtain ⟨j, acc2, hj, rfl, HAC, HO, HBL⟩ := hrel
        have hlen2 : acc2.length = n - j := by rw [HAC.out, List.length_reverse, List.length_drop, ← HN.out]
        obtain ⟨bb2, cc2, hov2⟩ := HO.out.len
        subst hov2
        by_cases hlt : 0 < j
        · obtain ⟨k, rfl⟩ : ∃ k, j = k + 1 := ⟨j - 1, by omega⟩
          have ek : ((k + 1 : Nat) : Int) - 1 = (k : Int) := by omega
          rw [ek]
          have hk : k < n := by omega
          have h1 : k < acc.length := by rw [← HN.out]; exact hk
          rcases HSL.out.2 with h0 | ⟨g, o, rfl, _, hrow⟩
          · exact absurd h0 (List.ne_nil_of_length_pos (by omega))
          obtain ⟨xb, xc, d0, d1, d2, d3, hvx⟩ := atO_v (rowO_at h1 hrow)
          obtain ⟨x, hx⟩ : ∃ x, x = acc[k]'h1 := ⟨_, rfl⟩
          rw [← hx] at d0 d1 d2 d3 hvx
          have c0 := keeps HBL.out _ _ d0
          have c1 := keeps HBL.out _ _ d1
          have c2 := keeps HBL.out _ _ d2
          have c3 := keeps HBL.out _ _ d3
          have HAC2 : Hid (acc2 ++ [x] = (acc.drop k).reverse) := Lib.hid (by rw [HAC.out, hx, List.drop_eq_getElem_cons h1, List.reverse_cons])
          have HTC := Lib.hid (tc_vo hvx)
          have hnew : Below wr.heap.size wr (wr.alloc (Obj.cells #[.int .i64 x.op, .int .i64 x.n, .string x.name, .slice xb x.args.length xc] 24)) := (Below.refl _ _).alloc (Nat.le_refl _) _
          have HNEW := Lib.hid (heap_alloc_new wr (Obj.cells #[.int .i64 x.op, .int .i64 x.n, .string x.name, .slice xb x.args.length xc] 24))
          have HBN := Lib.hid hnew
          obtain ⟨ds, hown, hall⟩ := HO.out.next hnew
          have hdl := hall.1
          have HDL := Lib.hid hdl
          have HOWN := Lib.hid hown
          have HALL := Lib.hid hall
          have HSZ : Hid (wi.heap.size ≤ (wr.alloc (Obj.cells #[.int .i64 x.op, .int .i64 x.n, .string x.name, .slice xb x.args.length xc] 24)).heap.size) := Lib.hid (Nat.le_trans HBL.out.size hnew.size)
          have hlen3 : acc2.length + 1 ≤ 1000 := by omega
          clear hvx hrow d0 d1 d2 d3 hnew hdl hown hall hx ek
          go_wp2_with (at_builtin; go_loud (refine wpList_append_lies _ rfl (.tmp 28) (.tmp 33) 22 rfl wi.heap.size 24 i0 _ 4 56 Try.underlying22 HI0.out HZ0.out HZ1.out HZ2.out rfl (by omega) _ ds.length (TC.all ds) rfl HOWN.out ⟨wr.heap.size, 0, none⟩ 1 1 (TC.enc ⟨x.op, x.n, x.name, xb, x.args.length, xc⟩) rfl rfl (World.news_of_block HNEW.out) (TC.enc_one _) (by omega) (by unfold maxLen; have := HDL.out; omega) (by have := HDL.out; omega) HSZ.out _ rfl ?_; intro g1 cap1 w5 hown5 hgr5 _ _; have HSN := Lib.hid (OwnK.snoc HALL.out HTC.out hown5); have HB5 := Lib.hid ((HBL.out.trans (HBN.out.mono HBL.out.size)).grown hgr5 (HBL.out.trans (HBN.out.mono HBL.out.size)).size (fun j hj => (ownBlock_lt HOWN.out hj).1)); clear hown5 hgr5 c0 c1 c2 c3))
          go_roundw
          case rel => exact ⟨k, acc2 ++ [x], by omega, by go_num, HAC2, HSN, HB5⟩
          case measure => simp [intOf]
        · obtain rfl : j = 0 := by omega
          have HQr := Lib.hid (HS.out.box.next HBL.out)
          have HRr := Lib.hid (HS.out.res.next HBL.out)
          have HCr := Lib.hid (HS.out.below.trans (HBL.out.mono HS.out.below.size))
          have HE : Hid (acc2 = acc.reverse) := Lib.hid (by rw [HAC.out, List.drop_zero])
          have HLI : Hid (w.heap.size + 1 < wi.heap.size) := Lib.hid (lt_of_block HS.out.res)
          clear q0 q1 q2 q3
          obtain ⟨q0, q1, q2, q3⟩ := HQr.out.cells
          obtain ⟨z0, z1, z2, z3⟩ := HRr.out.cells
          have k0 := HRr.out.frozen 0
          have k1 := HRr.out.frozen 1
          have k2 := HRr.out.frozen 2
          have k3 := HRr.out.frozen 3
          go_wp2_with fail
          obtain ⟨bb', cap', he, hslo⟩ := HO.out.slo (ok' := (fun g => g ≠ w.heap.size + 1)) HBL.out (by unfold maxLen; omega) (fun _ h => h) (fun g hg => by have := HLI.out; show g ≠ w.heap.size + 1; omega)
          injection he with e1 _ e2
          subst e1
          rw [hlen2, Nat.sub_zero, HN.out]
          rw [HE.out] at hslo
          refine bodyPost_ret (results_two (a := 2) (b := 3) (by kernel_rfl) (B := w.heap.size + 1) (by rfl) (by rfl) (put4_cells HRr.out _ _ _ _).cells.1 (put4_cells HRr.out _ _ _ _).cells.2.1 (put4_cells HRr.out _ _ _ _).cells.2.2.1 (put4_cells HRr.out _ _ _ _).cells.2.2.2) rfl ?_
          exact ⟨t', acc, _, bb2, cc2, HRES.out, rfl, HS.out.v, SlO.weak (hslo.keep (fun _ h => h) (fun p v hp hc => put4_keep _ _ _ _ p v hc hp)), below_put4 HCr.out (by omega) _ _ _ _⟩

end Ty
end Go.Proofs.Ytkedhnahgpmkaaa
