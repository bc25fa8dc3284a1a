/- What awake returns: true. Conditions: what vec returns. -/
import Derived.Test.YtfjgebdpbmnicaaJ50
import Derived.Test.YtfjgebdpbmnicaaJ05
import Derived.Deep.RegionHeld3
import Derived.Deep.DeepCutAuto
namespace Go.Proofs.Ytfjgebdpbmnicaa
open Go.RowKit

namespace Ty
def VecP (w : World) (e : Ending) (w' : World) : Prop := ∃ b0 c0 b1 c1, e = .returned (.agg #[.slice b0 2 c0, .slice b1 2 c1, .slice none 0 0, .slice none 0 0, .slice none 0 0, .slice none 0 0]) ∧ EnvS w' b0 b1 none none vecE ∧ Below w.heap.size w w'
theorem env_al {W : World} {o : Obj} {b0 b1 b2 b3 : Option Addr} {env : PEnv} (h : EnvS W b0 b1 b2 b3 env) : EnvS (W.alloc o) b0 b1 b2 b3 env := h.next ((Below.refl _ _).alloc (Nat.le_refl _) _)
theorem env_nx {W W' : World} {b0 b1 b2 b3 : Option Addr} {env : PEnv} (hb : Below W.heap.size W W') (h : EnvS W b0 b1 b2 b3 env) : EnvS W' b0 b1 b2 b3 env := h.next hb
theorem v_al {W : World} {o : Obj} {t : Ty} {v : Value} (h : V W t v) : V (W.alloc o) t v := h.next ((Below.refl _ _).alloc (Nat.le_refl _) _)
theorem small_vec : SmallE vecE := fun c hc => by
  simp only [vecE, List.mem_cons, List.not_mem_nil, or_false] at hc
  rcases hc with rfl | rfl <;> exact Nat.zero_le _
theorem vec_kind {w : World} {b0 b1 : Option Addr} {c0 c1 : Nat} (hE : EnvS w b0 b1 none none vecE) {t : Ty} {tb : Option Addr} {tc : Nat} (ht : V w t (.agg #[.int .i64 t.op, .int .i64 t.n, .string t.name, .slice tb t.args.length tc])) :
    Calls Try.prog 6 #[.agg #[.slice b0 2 c0, .slice b1 2 c1, .slice none 0 0, .slice none 0 0, .slice none 0 0, .slice none 0 0], .slice none 0 0, .slice none 0 0, .slice none 0 0, (.agg #[.int .i64 t.op, .int .i64 t.n, .string t.name, .slice tb t.args.length tc])] w (TopO (kindTopT vecE [] [] [] t) w) :=
  kind_call (env := vecE) none none c0 c1 0 0 0 0 0 0 [] [] [] t none none none tb 0 0 0 tc w hE small_vec (sl_nil w none) (Nat.le_refl _) ⟨Nat.zero_le _, .inl rfl⟩ ⟨Nat.zero_le _, .inl rfl⟩ ht
theorem vo_con {ok : Nat → Prop} (w : World) (s : List UInt8) (hs : s.length ≤ maxLen) : VO ok w (conT s) (.agg #[.int .i64 2, .int .i64 0, .string ⟨s.toArray⟩, .slice none 0 0]) := ⟨none, 0, rfl, hs, Nat.zero_le _, .inl rfl⟩
theorem two_call (w : World) (s s' : List UInt8) (hs : s.length ≤ maxLen) (hs' : s'.length ≤ maxLen) : Calls Try.prog 10 #[.agg #[.int .i64 2, .int .i64 0, .string ⟨s.toArray⟩, .slice none 0 0], .agg #[.int .i64 2, .int .i64 0, .string ⟨s'.toArray⟩, .slice none 0 0]] w fun e w' => ∃ t bz cz, t = .mk 3 0 [] [conT s, conT s'] ∧ e = .returned (.agg #[.int .i64 (t : Ty).op, .int .i64 (t : Ty).n, .string (t : Ty).name, .slice bz (t : Ty).args.length cz]) ∧ V w' t (.agg #[.int .i64 (t : Ty).op, .int .i64 (t : Ty).n, .string (t : Ty).name, .slice bz (t : Ty).args.length cz]) ∧ Below w.heap.size w w' := by
  refine (rapp_o (ok := fun _ => True) (conT s) (conT s') _ _ w (fun _ _ => trivial) (vo_con w s hs) (vo_con w s' hs')).mono ?_
  rintro e w' ⟨v, rfl, hvo, hb⟩
  have hv := hvo.weak
  obtain ⟨bz, cz, rfl, _, _⟩ := hvo
  exact ⟨_, bz, cz, rfl, rfl, hv, hb⟩
theorem ap_call {W : World} {B : Nat} {t : Ty} {bz : Option Addr} {cz : Nat} (h : W.heap[B]? = some (Obj.cells #[.int .i64 2, .int .i64 0, .string ⟨#[73, 110, 116]⟩, .slice none 0 0, .int .i64 t.op, .int .i64 t.n, .string t.name, .slice bz t.args.length cz] 36)) (hv : V W t (.agg #[.int .i64 t.op, .int .i64 t.n, .string t.name, .slice bz t.args.length cz])) :
    Calls Try.prog 13 #[.agg #[.int .i64 2, .int .i64 0, .string ⟨#[86, 101, 99]⟩, .slice none 0 0], .slice (some ⟨B, 0, none⟩) 2 2] W fun e w' => ∃ u bz cz, u = applyT (conT bVec) [conT bInt, t] ∧ e = .returned (.agg #[.int .i64 (u : Ty).op, .int .i64 (u : Ty).n, .string (u : Ty).name, .slice bz (u : Ty).args.length cz]) ∧ V w' u (.agg #[.int .i64 (u : Ty).op, .int .i64 (u : Ty).n, .string (u : Ty).name, .slice bz (u : Ty).args.length cz]) ∧ Below W.heap.size W w' := by
  have c := fun i => cell_of_row _ B i _ 36 (0, 0) h
  obtain ⟨b, k, e, hs, hl⟩ := hv
  have hb : bz = b := by
    injection e with e
    simp only [Array.mk.injEq, List.cons.injEq, Value.slice.injEq] at e
    exact e.2.2.2.1.1
  subst hb
  have hsl : Sl W (some ⟨B, 0, none⟩) [conT bInt, t] := ⟨by show 2 ≤ maxLen; unfold maxLen; omega, .inr ⟨B, 0, rfl, at_iff.mpr ⟨c 0, c 1, c 2, by decide, none, 0, c 3, sl_nil _ _⟩, at_iff.mpr ⟨c 4, c 5, c 6, hs, bz, cz, c 7, hl⟩, trivial⟩⟩
  refine (apply_o (ok := fun _ => True) (conT bVec) [conT bInt, t] _ _ _ W (fun _ _ => trivial) (vo_con W bVec (by decide)) ((sl_lt hsl).keep (fun _ _ => trivial) (fun _ _ _ h => h))).mono ?_
  rintro e w' ⟨v, rfl, hvo, hb⟩
  have hv := hvo.weak
  obtain ⟨bz, cz, rfl, _, _⟩ := hvo
  exact ⟨_, bz, cz, rfl, rfl, hv, hb⟩
theorem suff {P Q : Prop} (h : Q) (k : Hid Q → P) : P := k (Lib.hid h)
theorem v_flat {w w' : World} {k : Ty} {v : Value} (h : V w k v) (hs : same k tType = true) : V w' k v := by
  obtain ⟨b, c, e, h1, _⟩ := h
  have ha : k.args = [] := by
    rw [same_eq] at hs
    simp only [Bool.and_eq_true] at hs
    have h2 := hs.2.2.2
    cases hk : k.args with
    | nil => rfl
    | cons x l =>
      rw [hk, show tType.args = [] from rfl, sames_len (by simp)] at h2
      cases h2
  exact ⟨b, c, e, h1, by rw [ha]; exact Nat.zero_le _, .inl ha⟩
set_option maxRecDepth 100000 in
set_option maxHeartbeats 16000000 in
theorem awake_from (hvec : ∀ w, Calls Try.prog 12 #[] w (VecP w)) (w : World) : Calls Try.prog 5 #[] w fun e w' => e = .returned (.bool true) ∧ Below w.heap.size w w' := by
  have HVEC := Lib.hid hvec
  clear hvec
  go_enter Try.func5, Try.ntmps5
  go_wp2_with fail
  refine (rcon _ _).mono ?_
  rintro e w1 ⟨rfl, hb1⟩
  go_wp2_with fail
  refine (rcon _ _).mono ?_
  rintro e w2 ⟨rfl, hb2⟩
  have HB2 := Lib.hid (hb1.trans (hb2.mono hb1.size))
  clear hb1 hb2
  go_wp2_with fail
  refine (two_call _ [39, 83] [39, 90] (by decide) (by decide)).mono ?_
  rintro e w3 ⟨t, bz, cz, ht, rfl, hv3, hb3⟩
  have HB3 := Lib.hid (HB2.out.trans (hb3.mono HB2.out.size))
  have HV3 := Lib.hid hv3
  have HT := Lib.hid ht
  clear hb3 HB2 hv3 ht
  go_upto_region 2 with fail
  obtain ⟨W, hW⟩ : ∃ W, W = w3.alloc (Obj.cells #[.int .i64 t.op, .int .i64 t.n, .string t.name, .slice bz t.args.length cz] 36) := ⟨_, rfl⟩
  obtain ⟨T, hTT⟩ : ∃ T, T = w3.heap.size := ⟨_, rfl⟩
  have hal : Below w3.heap.size w3 W := by rw [hW]; exact (Below.refl _ _).alloc (Nat.le_refl _) _
  have HX : Hid (B4 W T (.int .i64 t.op) (.int .i64 t.n) (.string t.name) (.slice bz t.args.length cz)) := Lib.hid (by rw [hW, hTT]; exact heap_alloc_new _ _)
  have HB := Lib.hid (HB3.out.trans (hal.mono HB3.out.size))
  have HVT := Lib.hid ((HV3.out.next hal).next (drew_below W))
  rw [← hW, ← hTT]
  clear hal hW hTT HV3 HB3
  have HXD := Lib.hid (HX.out.next (drew_below W))
  have hlt2 : T < W.drew.heap.size := lt_of_block HXD.out
  obtain ⟨q0, q1, q2, q3⟩ := HXD.out.cells
  have hsi : S5 W.drew ⟨T, 0, none⟩ (.int .i64 t.op) T (.int .i64 t.op) (.int .i64 t.n) (.string t.name) (.slice bz t.args.length cz) W.drew := ⟨Lib.hid (Below.refl _ _), q0, q0, q1, q2, q3⟩
  clear q0 q1 q2 q3 w3
  have hdz : W.drew.heap.size = W.heap.size := rfl
  have hlt1 : (⟨T, 0, none⟩ : Addr).block < W.drew.heap.size := hlt2
  go_cut [2, 3] from 9 to 18 (fun s2 s3 wx => ∃ (B : Nat) (k : Ty) (bk : Option Addr) (ck : Nat), s2 = .pointer (some ⟨B, 0, none⟩) ∧ s3 = .int .i64 0 ∧ Hid (B4 wx B (.int .i64 k.op) (.int .i64 k.n) (.string k.name) (.slice bk k.args.length ck)) ∧ Hid (V wx k (.agg #[.int .i64 k.op, .int .i64 k.n, .string k.name, .slice bk k.args.length ck])) ∧ Hid (same k tType = true) ∧ Hid (Below W.drew.heap.size W.drew wx))
  case first =>
    go_region_held3 (S5 W.drew ⟨T, 0, none⟩ (.int .i64 t.op) T (.int .i64 t.op) (.int .i64 t.n) (.string t.name) (.slice bz t.args.length cz))
      (first | (with_reducible exact hsi) | ((with_reducible refine s5_put _ _ _ _ ?_ (by first | exact Nat.le_refl _ | omega) hlt1 hlt2); with_reducible assumption) | ((with_reducible refine s5_next ?_ hb); with_reducible assumption) | ((with_reducible refine s5_swap (o := Obj.cells #[.int .i64 0, .int .i64 0, .string ⟨#[]⟩, .slice none 0 0] 36) ?_ (by first | exact Nat.le_refl _ | omega) hlt1 hlt2); with_reducible assumption) | (with_reducible exact s5_next hsi (below_da W _)) | ((with_reducible refine s5_next ?_ ((Below.refl _ _).alloc (Nat.le_refl _) _)); with_reducible assumption))
      (first
      | (go_at_call 12; refine (HVEC.out _).mono ?_; rintro e w12 ⟨b0, c0, b1, c1, rfl, henv, hb⟩; have HE := Lib.hid henv; have HB12 := Lib.hid hb; have hs12 : W.heap.size ≤ w12.heap.size := (by have h1 := hb.size; first | omega | (simp at h1; omega)); clear henv)
      | (go_at_call 11; have hh := HBV; clear hh; refine (rcon _ _).mono ?_; rintro e wi ⟨rfl, hb⟩; have HBI := Lib.hid hb; have hsi2 : W.heap.size ≤ wi.heap.size := (by have h1 := hb.size; first | omega | (simp at h1; omega)))
      | (go_at_call 11; refine (rcon _ _).mono ?_; rintro e wv ⟨rfl, hb⟩; have HBV := Lib.hid hb; have hsv : W.heap.size ≤ wv.heap.size := (by have h1 := hb.size; first | omega | (simp at h1; omega)))
      | (go_at_call 13; refine (ap_call (t := t) (bz := bz) (cz := cz) (by (repeat (first | (with_reducible refine blk_new ?_; (simp; done)) | (with_reducible refine blk_old ?_) | (with_reducible refine blk_drew ?_)))) (HVT.out.next (Hid.out (And.left (by assumption))))).mono ?_; rintro e w13 ⟨u, bu, cu, hu, rfl, hvu, hb⟩; have HB13 := Lib.hid hb; have HVU := Lib.hid hvu; have HU := Lib.hid hu; have hs13 : W.heap.size ≤ w13.heap.size := (by have h1 := hb.size; first | omega | (simp at h1; omega)); clear hvu hu)
      | (go_at_call 6; refine (vec_kind (t := u) (by (repeat (first | (with_reducible exact HE.out) | (with_reducible refine env_al ?_) | (with_reducible refine env_nx HB13.out ?_) | (with_reducible refine env_nx HBI.out ?_) | (with_reducible refine env_nx HBV.out ?_)))) (by first | exact HVU.out | exact v_al HVU.out)).mono ?_; rintro e w6 ⟨k, n, v, hr, rfl, hv, hb⟩; rw [HU.out, HT.out] at hr; obtain ⟨rfl, hsame⟩ := okType_is ex1_ok hr; have HSAME := Lib.hid hsame; have HVK := Lib.hid hv; obtain ⟨bk, ck, rfl, _, _⟩ := hv; have HBK := Lib.hid hb; have hs6 : W.heap.size ≤ w6.heap.size := (by have h1 := hb.size; first | omega | (simp at h1; omega)); clear hr hsame; (try (refine suff (Q := B4 w6 (W.heap.size) (.int .i64 0) (.int .i64 0) (.string ⟨#[]⟩) (.slice none 0 0)) ?_ ?_; (focus (unfold B4; ((repeat (first | (with_reducible refine blk_new ?_; (simp; done)) | (with_reducible refine blk_old ?_) | (with_reducible refine blk_drew ?_) | (with_reducible refine blk_next HBK.out ?_) | (with_reducible refine blk_next HB13.out ?_) | (with_reducible refine blk_next HBI.out ?_) | (with_reducible refine blk_next HBV.out ?_) | (with_reducible refine blk_next HB12.out ?_))) <;> fail))); intro HZ)); (try (refine suff (Q := B4 w6 (w12.heap.size) (.int .i64 0) (.int .i64 0) (.string ⟨#[]⟩) (.slice none 0 0)) ?_ ?_; (focus (unfold B4; ((repeat (first | (with_reducible refine blk_new ?_; (simp; done)) | (with_reducible refine blk_old ?_) | (with_reducible refine blk_drew ?_) | (with_reducible refine blk_next HBK.out ?_) | (with_reducible refine blk_next HB13.out ?_) | (with_reducible refine blk_next HBI.out ?_) | (with_reducible refine blk_next HBV.out ?_) | (with_reducible refine blk_next HB12.out ?_))) <;> fail))); intro HZ)); (try (refine suff (Q := B4 w6 (wv.heap.size) (.int .i64 0) (.int .i64 0) (.string ⟨#[]⟩) (.slice none 0 0)) ?_ ?_; (focus (unfold B4; ((repeat (first | (with_reducible refine blk_new ?_; (simp; done)) | (with_reducible refine blk_old ?_) | (with_reducible refine blk_drew ?_) | (with_reducible refine blk_next HBK.out ?_) | (with_reducible refine blk_next HB13.out ?_) | (with_reducible refine blk_next HBI.out ?_) | (with_reducible refine blk_next HBV.out ?_) | (with_reducible refine blk_next HB12.out ?_))) <;> fail))); intro HZ)); (try (refine suff (Q := B4 w6 (wi.heap.size) (.int .i64 0) (.int .i64 0) (.string ⟨#[]⟩) (.slice none 0 0)) ?_ ?_; (focus (unfold B4; ((repeat (first | (with_reducible refine blk_new ?_; (simp; done)) | (with_reducible refine blk_old ?_) | (with_reducible refine blk_drew ?_) | (with_reducible refine blk_next HBK.out ?_) | (with_reducible refine blk_next HB13.out ?_) | (with_reducible refine blk_next HBI.out ?_) | (with_reducible refine blk_next HBV.out ?_) | (with_reducible refine blk_next HB12.out ?_))) <;> fail))); intro HZ)); (try (refine suff (Q := B4 w6 (wi.heap.size + 1) (.int .i64 0) (.int .i64 0) (.string ⟨#[]⟩) (.slice none 0 0)) ?_ ?_; (focus (unfold B4; ((repeat (first | (with_reducible refine blk_new ?_; (simp; done)) | (with_reducible refine blk_old ?_) | (with_reducible refine blk_drew ?_) | (with_reducible refine blk_next HBK.out ?_) | (with_reducible refine blk_next HB13.out ?_) | (with_reducible refine blk_next HBI.out ?_) | (with_reducible refine blk_next HBV.out ?_) | (with_reducible refine blk_next HB12.out ?_))) <;> fail))); intro HZ)); (try (refine suff (Q := B4 w6 (w13.heap.size) (.int .i64 0) (.int .i64 0) (.string ⟨#[]⟩) (.slice none 0 0)) ?_ ?_; (focus (unfold B4; ((repeat (first | (with_reducible refine blk_new ?_; (simp; done)) | (with_reducible refine blk_old ?_) | (with_reducible refine blk_drew ?_) | (with_reducible refine blk_next HBK.out ?_) | (with_reducible refine blk_next HB13.out ?_) | (with_reducible refine blk_next HBI.out ?_) | (with_reducible refine blk_next HBV.out ?_) | (with_reducible refine blk_next HB12.out ?_))) <;> fail))); intro HZ)); (try obtain ⟨e0, e1, e2, e3⟩ := HZ.out.cells); (try have f0 := HZ.out.frozen 0); (try have f1 := HZ.out.frozen 1); (try have f2 := HZ.out.frozen 2); (try have f3 := HZ.out.frozen 3)))
    all_goals
      rename_i hHeld
      have HH := Lib.hid hHeld.1.out
      clear hHeld
      go_wp2_with fail
      go_meet
      first
      | (have hz := HZ.out; exact ⟨_, k, bk, ck, rfl, rfl, Lib.hid (put4_cells hz _ _ _ _), Lib.hid (v_flat HVK.out HSAME.out), HSAME, HH⟩)
      | exact ⟨w6.heap.size, k, bk, ck, rfl, rfl, Lib.hid (heap_alloc_new _ _), Lib.hid (v_flat HVK.out HSAME.out), HSAME, HH⟩
  case rest =>
    obtain ⟨B, k, bk, ck, rfl, rfl, HBX, HVK, HSAME, HBL⟩ := hcut
    have HB4 := Lib.hid (HB.out.trans ((drew_below W).mono HB.out.size))
    have HB5 := Lib.hid (HB4.out.trans (HBL.out.mono HB4.out.size))
    clear HB4 HBL HB HX HXD hsi
    go_wp2_with fail
    refine (HVEC.out _).mono ?_
    rintro e u1 ⟨b0, c0, b1, c1, rfl, henv, hb1⟩
    have HE := Lib.hid henv
    have HU1 := Lib.hid hb1
    clear henv hb1
    go_wp2_with fail
    refine (rcon _ _).mono ?_
    rintro e u2 ⟨rfl, hb2⟩
    have HE2 := Lib.hid (HE.out.next hb2)
    have HU2 := Lib.hid (HU1.out.trans (hb2.mono HU1.out.size))
    clear hb2 HE HU1
    go_wp2_with fail
    refine (rcon _ _).mono ?_
    rintro e u3 ⟨rfl, hb3⟩
    have HE3 := Lib.hid (HE2.out.next hb3)
    have HU3 := Lib.hid (HU2.out.trans (hb3.mono HU2.out.size))
    clear hb3 HE2 HU2
    go_wp2_with fail
    refine (two_call _ [86, 101, 99] [39, 90] (by decide) (by decide)).mono ?_
    rintro e u4 ⟨t2, b2, c2, ht2, rfl, hv4, hb4⟩
    have HE4 := Lib.hid (HE3.out.next hb4)
    have HU4 := Lib.hid (HU3.out.trans (hb4.mono HU3.out.size))
    have HV4 := Lib.hid hv4
    have HT2 := Lib.hid (show t2 = ex2T from ht2)
    clear hb4 HE3 HU3 hv4 ht2
    go_wp2_with fail
    refine (vec_kind (t := t2) HE4.out HV4.out).mono ?_
    rintro e u5 ⟨k2, n2, v2, hr2, rfl, hv2, hb5⟩
    rw [HT2.out] at hr2
    obtain rfl := bad23_is ex2_bad hr2
    obtain ⟨b5, c5, rfl, _, _⟩ := hv2
    have HU5 := Lib.hid (HU4.out.trans (hb5.mono HU4.out.size))
    clear hb5 HE4 HU4 HV4 hr2
    go_upto_region 4 with fail
    obtain ⟨W4, hW4⟩ : ∃ W4, W4 = u5.alloc (Obj.cells #[.int .i64 k2.op, .int .i64 k2.n, .string k2.name, .slice b5 k2.args.length c5] 36) := ⟨_, rfl⟩
    have hal4 : Below u5.heap.size u5 W4 := by rw [hW4]; exact (Below.refl _ _).alloc (Nat.le_refl _) _
    have HU6 := Lib.hid (HU5.out.trans (hal4.mono HU5.out.size))
    have HW4 := Lib.hid (HB5.out.trans (HU6.out.mono HB5.out.size))
    have HX4 := Lib.hid ((HBX.out.next HU6.out).next (drew_below W4))
    have HWD := Lib.hid (HW4.out.trans ((drew_below W4).mono HW4.out.size))
    rw [← hW4]
    clear hal4 hW4 HU5 HU6 HW4 HB5 HBX
    obtain ⟨q0, q1, q2, q3⟩ := HX4.out.cells
    have hsi : S5 W4.drew ⟨B, 0, none⟩ (.int .i64 k.op) B (.int .i64 k.op) (.int .i64 k.n) (.string k.name) (.slice bk k.args.length ck) W4.drew := ⟨Lib.hid (Below.refl _ _), q0, q0, q1, q2, q3⟩
    clear q0 q1 q2 q3
    go_region_held3 (S5 W4.drew ⟨B, 0, none⟩ (.int .i64 k.op) B (.int .i64 k.op) (.int .i64 k.n) (.string k.name) (.slice bk k.args.length ck))
      (first | (with_reducible exact hsi) | ((with_reducible refine s5_next ?_ hb); with_reducible assumption))
      (first
      | (go_at_call 11; refine (rcon _ _).mono ?_; rintro e wa ⟨rfl, hb⟩)
      | (go_at_call 7; refine (rsame_any k tType _ _ _ (v_flat HVK.out HSAME.out) (vo_con (ok := fun _ => True) _ bType (by decide)).weak).mono ?_; rintro e wb ⟨he, hb⟩; rw [HSAME.out] at he; subst he))
    all_goals
      rename_i hHeld
      have HH := Lib.hid hHeld.1.out
      clear hHeld
      go_wp2_with fail
      go_ret
      exact ⟨rfl, HWD.out.trans (HH.out.mono HWD.out.size)⟩
end Ty
end Go.Proofs.Ytfjgebdpbmnicaa
