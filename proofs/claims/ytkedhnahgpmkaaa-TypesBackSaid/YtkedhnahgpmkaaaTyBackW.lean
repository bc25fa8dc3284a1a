/- The law TypesBack: its walk. Conditions: as named in the theorems. -/
import Derived.Test.YtkedhnahgpmkaaaTyBackP
import Derived.Test.YtkedhnahgpmkaaaTyDist
import Derived.Test.YtkedhnahgpmkaaaTyAwake
import Derived.Deep.DeepCutAuto
import Derived.Deep.CutBlock
import Derived.Deep.AppendLies
namespace Go.Proofs.Ytkedhnahgpmkaaa
open Go.RowKit

namespace Ty
theorem d_small (d : Int) : ∃ D : Nat, D ≤ 39 ∧ wrap64 ((IntKind.u64.wrap d).tmod 40) = D := by
  have h0 : 0 ≤ IntKind.u64.wrap d ∧ IntKind.u64.wrap d = d % 18446744073709551616 := by
    have e : IntKind.u64.wrap d = d % 18446744073709551616 := rfl
    exact ⟨by rw [e]; omega, e⟩
  have h1 : (IntKind.u64.wrap d).tmod 40 = IntKind.u64.wrap d % 40 := Int.tmod_eq_emod_of_nonneg h0.1
  rw [h1]
  have h2 : wrap64 (IntKind.u64.wrap d % 40) = IntKind.u64.wrap d % 40 := by unfold wrap64; omega
  rw [h2]
  exact ⟨(IntKind.u64.wrap d % 40).toNat, by omega, by omega⟩
theorem own_sl {base : Nat} {ov : Value} {ts : List Ty} {W : World} (h : OwnL base ov ts W) (hn : ts.length ≤ maxLen) : ∃ bb cap, ov = .slice bb ts.length cap ∧ Sl W bb ts := by
  obtain ⟨bb, cap, e⟩ := h.len
  refine ⟨bb, cap, e, hn, ?_⟩
  obtain ⟨ds, h1, h2⟩ := h
  by_cases hne : ds = []
  · left
    have := h2.1
    rw [hne] at this
    exact List.length_eq_zero_iff.mp this.symm
  · obtain ⟨g, cap', e', _, hk⟩ := cells_own h1 hne
    rw [e] at e'
    injection e' with e1 _ _
    exact .inr ⟨g, 0, e1, (row_held hk h2).weak⟩
theorem leaf_of {ok : Nat → Prop} (W : World) (op n : Int) (s : List UInt8) (hs : s.length ≤ maxLen) : TC.Of ok W ⟨op, n, ⟨s.toArray⟩, none, 0, 0⟩ (.mk op n s []) := ⟨rfl, rfl, rfl, rfl, hs, Nat.zero_le _, .inl rfl⟩

set_option maxRecDepth 100000 in
set_option maxHeartbeats 8000000 in
theorem back_no (t : Ty) (d : Int) (la : Nat) (base : Option Addr) (cap : Nat) (v : Value) (w : World) (hv : V w t v) (hp : isProper t = false) :
    Calls Try.prog 10 #[v, .int .i64 d, .slice base la cap] w fun e w' => e = .returned (.bool true) ∧ Below w.heap.size w w' := by
  have hpr := fun W (hb : Below w.heap.size w W) => proper_any t v W (hv.next hb)
  rw [hp] at hpr
  have HPR := Lib.hid hpr
  clear hpr
  obtain ⟨b, c, ev, hsv, hlv⟩ := hv
  subst ev
  have HB := Lib.hid (show Below w.heap.size w (w.alloc (Obj.cells #[.int .i64 t.op, .int .i64 t.n, .string t.name, .slice b t.args.length c] 24)) from (Below.refl _ _).alloc (Nat.le_refl _) _)
  go_enter Try.func10, Try.ntmps10
  go_wp2_with fail
  refine (HPR.out _ HB.out).mono ?_
  rintro e w2 ⟨rfl, hb⟩
  have HB2 := Lib.hid (HB.out.trans (hb.mono HB.out.size))
  clear hb
  go_wp2_with fail
  refine (awake_any _).mono ?_
  rintro e w3 ⟨rfl, hb⟩
  have HB3 := Lib.hid (HB2.out.trans (hb.mono HB2.out.size))
  clear hb
  go_wp2_with fail
  go_ret
  exact ⟨rfl, HB3.out⟩

/-- what a call gives that leads back to the type -/
def BkP (t : Ty) (w : World) (e : Ending) (w' : World) : Prop := ∃ v2, e = .returned (.tuple #[v2, .int .i64 0]) ∧ VO (w.heap.size ≤ ·) w' t v2 ∧ Below w.heap.size w w'
/-- what a call gives: a type and a number -/
def TnP (r : Ty) (n : Int) (w : World) (e : Ending) (w' : World) : Prop := ∃ v2, e = .returned (.tuple #[v2, .int .i64 n]) ∧ VO (w.heap.size ≤ ·) w' r v2 ∧ Below w.heap.size w w'
set_option maxRecDepth 100000 in
set_option maxHeartbeats 8000000 in
theorem back_walk (t r : Ty) (N d : Int) (D la0 : Nat) (l : List Int) (base : Option Addr) (cap : Nat) (v : Value) (w : World) (hv : V w t v) (hp : isProper t = true) (hl : ISl w base l)
    (hn : l.length ≤ 20) (hmin : min (la0 : Int) 20 = (l.length : Int)) (hcap : la0 ≤ cap) (hla0 : la0 ≤ 9223372036854775807) (hD : D ≤ 39) (ed : wrap64 ((IntKind.u64.wrap d).tmod 40) = D)
    (hsh : ∀ W, Below w.heap.size w W → Calls Try.prog 24 #[v, .int .i64 D, .int .i64 0] W (TnP r N W))
    (hN : (N = 0 ∧ (∀ W v', V W r v' → Calls Try.prog 24 #[v', .int .i64 (-D), .int .i64 0] W (BkP t W)) ∧ ∀ W v' bb cap', V W r v' → Sl W bb (List.replicate D intT) → Calls Try.prog 29 #[v', .slice bb D cap'] W (BkP t W)) ∨ (N == 0) = false)
    (hbd : distB l = true → ∀ op : Int, (op = 6 ∨ op = 7) → ∃ (r2 : Ty) (n2 : Int), (∀ W, Below w.heap.size w W → Calls Try.prog 49 #[v, .int .i64 op, .slice base l.length cap] W (TnP r2 n2 W)) ∧ ((n2 = 0 ∧ ∀ W v' bb cap', V W r2 v' → Sl W bb (ownT op l) → Calls Try.prog 29 #[v', .slice bb l.length cap'] W (BkP t W)) ∨ n2 = 5)) :
    Calls Try.prog 10 #[v, .int .i64 d, .slice base la0 cap] w fun e w' => e = .returned (.bool true) ∧ Below w.heap.size w w' := by
  have hpr := fun W (hb : Below w.heap.size w W) => proper_any t v W (hv.next hb)
  rw [hp] at hpr
  have HPR := Lib.hid hpr
  have hpl := fun W (hb : Below w.heap.size w W) => distinct_any l base cap W (hl.next hb) (by omega)
  have HPL := Lib.hid hpl
  have hsm : ∀ W v2, Below w.heap.size w W → V W t v2 → Calls Try.prog 38 #[v2, v] W fun e w' => e = .returned (.bool true) ∧ Below W.heap.size W w' := fun W v2 hb h2 => by
    have := rsame_any t t v2 v W h2 (hv.next hb)
    rwa [same_reflk] at this
  have HSM := Lib.hid hsm
  have HSH := Lib.hid hsh
  have HNN := Lib.hid hN
  have HBD := Lib.hid hbd
  have HLL := Lib.hid hl
  obtain ⟨i0, hi0, hz0, hz1, hz2⟩ := info_parts info24
  have HI0 := Lib.hid hi0
  have HZ0 := Lib.hid hz0
  have HZ1 := Lib.hid hz1
  have HZ2 := Lib.hid hz2
  clear hpr hpl hsm hsh hN hbd hl hi0 hz0 hz1 hz2 hp
  obtain ⟨b, c, ev, hsv, hlv⟩ := hv
  subst ev
  have HB := Lib.hid (show Below w.heap.size w (w.alloc (Obj.cells #[.int .i64 t.op, .int .i64 t.n, .string t.name, .slice b t.args.length c] 24)) from (Below.refl _ _).alloc (Nat.le_refl _) _)
  have HT := Lib.hid (show B4 (w.alloc (Obj.cells #[.int .i64 t.op, .int .i64 t.n, .string t.name, .slice b t.args.length c] 24)) w.heap.size (.int .i64 t.op) (.int .i64 t.n) (.string t.name) (.slice b t.args.length c) from heap_alloc_new _ _)
  clear hsv hlv
  obtain ⟨la, hla⟩ : ∃ la, la = l.length := ⟨_, rfl⟩
  rw [← hla] at hn hmin HPL HBD
  have HLA := Lib.hid hla
  clear hla
  go_enter Try.func10, Try.ntmps10
  go_upto_region 2 with fail
  rw [ed]
  go_wp2_with fail
  refine (HPR.out _ HB.out).mono ?_
  rintro e w2 ⟨rfl, hb⟩
  have HB2 := Lib.hid (HB.out.trans (hb.mono HB.out.size))
  have HT2 := Lib.hid (HT.out.next hb)
  clear hb HB HT HPR
  obtain ⟨c0, c1, c2, c3⟩ := HT2.out.cells
  go_wp2_with fail
  refine (HSH.out w2 HB2.out).mono ?_
  rintro e w3 ⟨v3, rfl, ⟨b9, c9, rfl, hs9, hl9⟩, hb⟩
  have HV3 : Hid (VO (w2.heap.size ≤ ·) w3 r _) := Lib.hid ⟨b9, c9, rfl, hs9, hl9⟩
  have HB3 := Lib.hid (HB2.out.trans (hb.mono HB2.out.size))
  have HT3 := Lib.hid (HT2.out.next hb)
  clear hs9 hl9 hb HSH HB2 HT2 c0 c1 c2 c3
  go_upto_if 38 with fail
  obtain ⟨W4, hW4⟩ : ∃ W4, W4 = w3.alloc (Obj.cells #[.int .i64 r.op, .int .i64 r.n, .string r.name, .slice b9 r.args.length c9] 24) := ⟨_, rfl⟩
  have hb4 : Below w3.heap.size w3 W4 := by rw [hW4]; exact (Below.refl _ _).alloc (Nat.le_refl _) _
  have HU4 : Hid (B4 W4 w3.heap.size (.int .i64 r.op) (.int .i64 r.n) (.string r.name) (.slice b9 r.args.length c9)) := by rw [hW4]; exact Lib.hid (heap_alloc_new _ _)
  rw [← hW4]
  clear hW4
  have HV4 := Lib.hid (HV3.out.weak.next hb4)
  have HB4 := Lib.hid (HB3.out.trans (hb4.mono HB3.out.size))
  have HT4 := Lib.hid (HT3.out.next hb4)
  clear HV3 HB3 HT3 hb4
  go_cut [10] (fun _ wx => Hid (Below W4.heap.size W4 wx))
  case first =>
    rcases HNN.out with ⟨hN0, hsb, hpu⟩ | hN0
    · subst hN0
      have HSB := Lib.hid hsb
      have HPU := Lib.hid hpu
      clear hsb hpu HNN HBD HPL HLL hmin hcap hla0
      obtain ⟨u0, u1, u2, u3⟩ := HU4.out.cells
      go_wp2_with fail
      refine (HSB.out W4 _ HV4.out).mono ?_
      rintro e w5 ⟨v5, rfl, ⟨b5, c5, rfl, hs5, hl5⟩, hb⟩
      have HV5 : Hid (VO (W4.heap.size ≤ ·) w5 t _) := Lib.hid ⟨b5, c5, rfl, hs5, hl5⟩
      have HB5 := Lib.hid hb
      clear hs5 hl5 hb HSB u0 u1 u2 u3
      go_upto_region 8 with fail
      obtain ⟨B9, hB9⟩ : ∃ B9, B9 = w5.heap.size := ⟨_, rfl⟩
      obtain ⟨W6, hW6⟩ : ∃ W6, W6 = w5.alloc (Obj.cells #[.int .i64 t.op, .int .i64 t.n, .string t.name, .slice b5 t.args.length c5] 24) := ⟨_, rfl⟩
      have hb6 : Below w5.heap.size w5 W6 := by rw [hW6]; exact (Below.refl _ _).alloc (Nat.le_refl _) _
      have HX6 : Hid (B4 W6 B9 (.int .i64 t.op) (.int .i64 t.n) (.string t.name) (.slice b5 t.args.length c5)) := by rw [hW6, hB9]; exact Lib.hid (heap_alloc_new _ _)
      rw [← hW6, ← hB9]
      clear hW6 hB9
      have HV6 := Lib.hid (HV5.out.weak.next hb6)
      have HB6 := Lib.hid (HB5.out.trans (hb6.mono HB5.out.size))
      have HT6 := Lib.hid (HT4.out.next HB6.out)
      have HU6 := Lib.hid (HU4.out.next HB6.out)
      have HR6 := Lib.hid (HV4.out.next HB6.out)
      clear hb6 HV5 HB5 HT4 HU4 HV4
      go_wp2_with fail
      go_loopw [11, 47] (fun ov i wr => ∃ (j : Nat) (acc : List Ty), j ≤ D ∧ i = .int .i64 j ∧ Hid (acc = List.replicate j intT) ∧ Hid (OwnL W6.heap.size ov acc wr) ∧ Hid (Below W6.heap.size W6 wr)) (fun _ i _ => D - (intOf i).toNat)
      case atStart => exact ⟨0, [], Nat.zero_le _, rfl, Lib.hid rfl, Lib.hid (OwnL.nil _ _), Lib.hid (Below.refl _ _)⟩
      case round =>
        obtain ⟨j, acc, hj, rfl, HAC, HO, HBL⟩ := hrel
        have hlen : acc.length = j := by rw [HAC.out, List.length_replicate]
        obtain ⟨bb, cc, hov⟩ := HO.out.len
        rw [hlen] at hov
        subst hov
        by_cases hlt : j < D
        · go_wp2_with fail
          refine (rcon _ _).mono ?_
          rintro e w7 ⟨rfl, hb⟩
          have hnew : Below w7.heap.size w7 (w7.alloc (Obj.cells #[.int .i64 2, .int .i64 0, .string ⟨#[73, 110, 116]⟩, .slice none 0 0] 24)) := (Below.refl _ _).alloc (Nat.le_refl _) _
          have HTC := Lib.hid (leaf_of (ok := fun g => W6.heap.size ≤ g ∧ some g ≠ (Value.slice bb j cc).ownBlock) (w7.alloc (Obj.cells #[.int .i64 2, .int .i64 0, .string ⟨#[73, 110, 116]⟩, .slice none 0 0] 24)) 2 0 [73, 110, 116] (by decide))
          have HNEW := Lib.hid (heap_alloc_new w7 (Obj.cells #[.int .i64 2, .int .i64 0, .string ⟨#[73, 110, 116]⟩, .slice none 0 0] 24))
          have HBN := Lib.hid (hb.trans (hnew.mono hb.size))
          obtain ⟨ds, hdl, hown, hall⟩ := own_nodes (HO.out.next HBN.out)
          have HDL := Lib.hid hdl
          have HOWN := Lib.hid hown
          have HALL := Lib.hid hall
          have HSZ : Hid (W6.heap.size ≤ (w7.alloc (Obj.cells #[.int .i64 2, .int .i64 0, .string ⟨#[73, 110, 116]⟩, .slice none 0 0] 24)).heap.size) := Lib.hid (Nat.le_trans HBL.out.size HBN.out.size)
          clear hb hnew hdl hown hall
          go_wp2_with (at_builtin; go_loud (refine wpList_append_lies _ rfl (.tmp 49) (.tmp 51) 22 rfl W6.heap.size 24 i0 _ 4 56 Try.underlying22 HI0.out HZ0.out HZ1.out HZ2.out rfl (by omega) _ ds.length (TC.all ds) rfl HOWN.out ⟨w7.heap.size, 0, none⟩ 1 1 (TC.enc ⟨2, 0, ⟨#[73, 110, 116]⟩, none, 0, 0⟩) rfl rfl (World.news_of_block HNEW.out) (TC.enc_one _) (by omega) (by unfold maxLen; have := HDL.out; omega) (by have := HDL.out; omega) HSZ.out _ rfl ?_; intro g1 cap1 w8 hown8 hgr8 hlie8 _; have HSN := Lib.hid (OwnL.snoc HALL.out HTC.out hown8 hgr8 hlie8); have HB8 := Lib.hid ((HBL.out.trans (HBN.out.mono HBL.out.size)).grown hgr8 (HBL.out.trans (HBN.out.mono HBL.out.size)).size (fun j hj => (ownBlock_lt HOWN.out hj).1)); clear hown8 hgr8 hlie8))
          go_roundw
          case rel => exact ⟨j + 1, acc ++ [intT], by omega, by go_num, Lib.hid (by rw [HAC.out]; exact List.replicate_succ'.symm), HSN, HB8⟩
          case measure => simp [intOf]; omega
        · obtain rfl : j = D := by omega
          obtain ⟨bb', cc', hov', hsl⟩ := own_sl HO.out (by rw [hlen]; unfold maxLen; omega)
          rw [hlen] at hov'
          injection hov' with e1 _ e2
          subst e1
          rw [HAC.out] at hsl
          have HSL := Lib.hid hsl
          have HTr := Lib.hid (HT6.out.next HBL.out)
          have HXr := Lib.hid (HX6.out.next HBL.out)
          have HUr := Lib.hid (HU6.out.next HBL.out)
          have HRr := Lib.hid (HR6.out.next HBL.out)
          have HVr := Lib.hid (HV6.out.next HBL.out)
          clear hsl HO HAC hlen HT6 HX6 HU6 HR6 HV6 hj hlt
          obtain ⟨u0, u1, u2, u3⟩ := HUr.out.cells
          go_wp2_with fail
          refine (HPU.out wr _ _ _ HRr.out HSL.out).mono ?_
          rintro e w9 ⟨v9, rfl, ⟨b10, c10, rfl, hs10, hl10⟩, hb⟩
          have HV9 : Hid (VO (wr.heap.size ≤ ·) w9 t _) := Lib.hid ⟨b10, c10, rfl, hs10, hl10⟩
          have HB9 := Lib.hid hb
          clear hs10 hl10 hb HPU u0 u1 u2 u3
          go_upto_region 13 with fail
          obtain ⟨B12, hB12⟩ : ∃ B12, B12 = w9.heap.size := ⟨_, rfl⟩
          obtain ⟨W10, hW10⟩ : ∃ W10, W10 = w9.alloc (Obj.cells #[.int .i64 t.op, .int .i64 t.n, .string t.name, .slice b10 t.args.length c10] 24) := ⟨_, rfl⟩
          have hb10 : Below w9.heap.size w9 W10 := by rw [hW10]; exact (Below.refl _ _).alloc (Nat.le_refl _) _
          have HY10 : Hid (B4 W10 B12 (.int .i64 t.op) (.int .i64 t.n) (.string t.name) (.slice b10 t.args.length c10)) := by rw [hW10, hB12]; exact Lib.hid (heap_alloc_new _ _)
          rw [← hW10, ← hB12]
          clear hW10 hB12
          have HP10 := Lib.hid (HV9.out.weak.next hb10)
          have HB10 := Lib.hid (HB9.out.trans (hb10.mono HB9.out.size))
          have HX10 := Lib.hid (HXr.out.next HB10.out)
          have HT10 := Lib.hid (HTr.out.next HB10.out)
          have HQ10 := Lib.hid (HVr.out.next HB10.out)
          have HC10 := Lib.hid (HBL.out.trans (HB10.out.mono HBL.out.size))
          have HD10 := Lib.hid (HB6.out.trans (HC10.out.mono HB6.out.size))
          have HE10 := Lib.hid (HB4.out.trans (HD10.out.mono HB4.out.size))
          clear hb10 HV9 HB9 HXr HTr HUr HRr HVr
          obtain ⟨x0, x1, x2, x3⟩ := HX10.out.cells
          obtain ⟨t0, t1, t2, t3⟩ := HT10.out.cells
          go_wp2_with fail
          refine (HSM.out W10 _ HE10.out HQ10.out).mono ?_
          rintro e w11 ⟨rfl, hb⟩
          have HP11 := Lib.hid (HP10.out.next hb)
          have HE11 := Lib.hid (HE10.out.trans (hb.mono HE10.out.size))
          have HD11 := Lib.hid (HD10.out.trans (hb.mono HD10.out.size))
          have HT11 := Lib.hid (HT10.out.next hb)
          have HY11 := Lib.hid (HY10.out.next hb)
          clear hb x0 x1 x2 x3 t0 t1 t2 t3
          obtain ⟨y0, y1, y2, y3⟩ := HY11.out.cells
          obtain ⟨t0, t1, t2, t3⟩ := HT11.out.cells
          go_wp2_with fail
          refine (HSM.out w11 _ HE11.out HP11.out).mono ?_
          rintro e w12 ⟨rfl, hb⟩
          have HD12 := Lib.hid (HD11.out.trans (hb.mono HD11.out.size))
          clear hb
          go_wp2_with fail
          go_meet
          exact HD12
    · clear HNN
      go_wp2_with fail
      go_meet
      exact Lib.hid (Below.refl _ _)
  case rest =>
    clear HNN HU4 HV4
    have HB5 := Lib.hid (HB4.out.trans (hcut.out.mono HB4.out.size))
    have HT5 := Lib.hid (HT4.out.next hcut.out)
    clear hcut HB4 HT4
    go_wp2_with fail
    refine (HPL.out wc HB5.out).mono ?_
    rintro e w6 ⟨rfl, hb⟩
    have HB6 := Lib.hid (HB5.out.trans (hb.mono HB5.out.size))
    have HT6 := Lib.hid (HT5.out.next hb)
    clear hb HB5 HT5
    cases hd : distB l with
    | false =>
      clear HBD
      go_wp2_with fail
      refine (awake_any _).mono ?_
      rintro e w7 ⟨rfl, hb⟩
      have HB7 := Lib.hid (HB6.out.trans (hb.mono HB6.out.size))
      clear hb
      go_wp2_with fail
      go_ret
      exact ⟨rfl, HB7.out⟩
    | true =>
      have HBO := Lib.hid (HBD.out hd)
      clear HBD hd
      go_upto_region 18 with fail
      go_wp2_with fail
      obtain ⟨W7, hW7⟩ : ∃ W7, W7 = w6.alloc (Obj.cells #[.int .i64 6, .int .i64 7] 3) := ⟨_, rfl⟩
      obtain ⟨R7, hR7⟩ : ∃ R7, R7 = w6.heap.size := ⟨_, rfl⟩
      have hb7 : Below w6.heap.size w6 W7 := by rw [hW7]; exact (Below.refl _ _).alloc (Nat.le_refl _) _
      have HR7 : Hid (W7.heap[R7]? = some (Obj.cells #[.int .i64 6, .int .i64 7] 3 (0, 0))) := by rw [hW7, hR7]; exact Lib.hid (heap_alloc_new _ _)
      rw [← hW7, ← hR7]
      clear hW7 hR7
      have HB7 := Lib.hid (HB6.out.trans (hb7.mono HB6.out.size))
      have HT7 := Lib.hid (HT6.out.next hb7)
      clear hb7 HB6 HT6
      go_loopw [89] (fun i wr => ∃ j : Nat, j ≤ 2 ∧ i = .int .i64 j ∧ Hid (Below W7.heap.size W7 wr)) (fun i _ => 2 - (intOf i).toNat)
      case atStart => exact ⟨0, Nat.zero_le _, rfl, Lib.hid (Below.refl _ _)⟩
      case round =>
        obtain ⟨j, hj, rfl, HBL⟩ := hrel
        obtain ⟨wo, rfl⟩ : ∃ wo : World, wo = wr := ⟨_, rfl⟩
        have HBW := Lib.hid (HB7.out.trans (HBL.out.mono HB7.out.size))
        have HTW := Lib.hid (HT7.out.next HBL.out)
        by_cases hlt : j < 2
        · have hopx : ∃ op : Int, (op = 6 ∨ op = 7) ∧ wo.cell? ⟨R7, j, none⟩ = some (.int .i64 op) := by
            rcases (by omega : j = 0 ∨ j = 1) with e | e
            · subst e
              exact ⟨6, .inl rfl, keeps HBL.out _ _ (cell_of_row _ _ 0 _ 3 (0, 0) HR7.out)⟩
            · subst e
              exact ⟨7, .inr rfl, keeps HBL.out _ _ (cell_of_row _ _ 1 _ 3 (0, 0) HR7.out)⟩
          obtain ⟨op, hop, hcell⟩ := hopx
          obtain ⟨r2, n2, hb49, hcase⟩ := HBO.out op hop
          have HB49 := Lib.hid hb49
          have HLT := Lib.hid hlt
          have HCASE := Lib.hid hcase
          clear hb49 hcase
          go_wp2_with fail
          go_loopw [16, 95] (fun ov i wr2 => ∃ (k : Nat) (acc : List Ty), k ≤ la ∧ i = .int .i64 k ∧ Hid (acc = ownT op (l.take k)) ∧ Hid (OwnL wo.heap.size ov acc wr2) ∧ Hid (Below wo.heap.size wo wr2)) (fun _ i _ => la - (intOf i).toNat)
          case atStart => exact ⟨0, [], Nat.zero_le _, rfl, Lib.hid (by simp [ownT]), Lib.hid (OwnL.nil _ _), Lib.hid (Below.refl _ _)⟩
          case round =>
            obtain ⟨k, acc, hk, rfl, HAC, HO, HBK⟩ := hrel
            clear hlt
            rename (j : Int) < 2 => hjj
            clear hjj
            obtain ⟨wi, rfl⟩ : ∃ wi : World, wi = wr := ⟨_, rfl⟩
            have hlen : acc.length = k := by rw [HAC.out, ownT_len, List.length_take]; have := HLA.out; omega
            obtain ⟨bb, cc, hov⟩ := HO.out.len
            rw [hlen] at hov
            subst hov
            have HBI := Lib.hid (HBW.out.trans (HBK.out.mono HBW.out.size))
            by_cases hkl : k < la
            · have h1 : k < l.length := by rw [← HLA.out]; exact hkl
              rcases HLL.out.2 with h0 | ⟨g, o, rfl, hrow⟩
              · exact absurd h0 (List.ne_nil_of_length_pos (by omega))
              have x0 := keeps HBI.out _ _ (hrow k h1)
              obtain ⟨x, hx⟩ : ∃ x, x = l[k]'h1 := ⟨_, rfl⟩
              rw [← hx] at x0
              have HX : Hid (acc ++ [.mk op x [] []] = ownT op (l.take (k + 1))) := Lib.hid (by rw [HAC.out, hx, ← List.take_append_getElem h1]; unfold ownT; rw [List.map_append]; rfl)
              clear hx hrow
              have hnew : Below wi.heap.size wi (wi.alloc (Obj.cells #[.int .i64 op, .int .i64 x, .string ⟨#[]⟩, .slice none 0 0] 24)) := (Below.refl _ _).alloc (Nat.le_refl _) _
              have HTC := Lib.hid (leaf_of (ok := fun g => wo.heap.size ≤ g ∧ some g ≠ (Value.slice bb k cc).ownBlock) (wi.alloc (Obj.cells #[.int .i64 op, .int .i64 x, .string ⟨#[]⟩, .slice none 0 0] 24)) op x [] (by decide))
              have HNEW := Lib.hid (heap_alloc_new wi (Obj.cells #[.int .i64 op, .int .i64 x, .string ⟨#[]⟩, .slice none 0 0] 24))
              obtain ⟨ds, hdl, hown, hall⟩ := own_nodes (HO.out.next hnew)
              have HBN := Lib.hid hnew
              have HDL := Lib.hid hdl
              have HOWN := Lib.hid hown
              have HALL := Lib.hid hall
              have HSZ : Hid (wo.heap.size ≤ (wi.alloc (Obj.cells #[.int .i64 op, .int .i64 x, .string ⟨#[]⟩, .slice none 0 0] 24)).heap.size) := Lib.hid (Nat.le_trans HBK.out.size hnew.size)
              clear hnew hdl hown hall
              go_wp2_with (at_builtin; go_loud (refine wpList_append_lies _ rfl (.tmp 99) (.tmp 103) 22 rfl wo.heap.size 24 i0 _ 4 56 Try.underlying22 HI0.out HZ0.out HZ1.out HZ2.out rfl (by omega) _ ds.length (TC.all ds) rfl HOWN.out ⟨wi.heap.size, 0, none⟩ 1 1 (TC.enc ⟨op, x, ⟨#[]⟩, none, 0, 0⟩) rfl rfl (World.news_of_block HNEW.out) (TC.enc_one _) (by omega) (by unfold maxLen; have := HDL.out; omega) (by have := HDL.out; omega) HSZ.out _ rfl ?_; intro g1 cap1 w8 hown8 hgr8 hlie8 _; have HSN := Lib.hid (OwnL.snoc HALL.out HTC.out hown8 hgr8 hlie8); have HB8 := Lib.hid ((HBK.out.trans (HBN.out.mono HBK.out.size)).grown hgr8 (HBK.out.trans (HBN.out.mono HBK.out.size)).size (fun j hj => (ownBlock_lt HOWN.out hj).1)); clear hown8 hgr8 hlie8))
              go_roundw
              case rel => exact ⟨k + 1, acc ++ [.mk op x [] []], by omega, by go_num, HX, HSN, HB8⟩
              case measure => simp [intOf]; omega
            · obtain rfl : k = la := by omega
              obtain ⟨bb', cc', hov', hsl⟩ := own_sl HO.out (by rw [hlen]; unfold maxLen; omega)
              rw [hlen] at hov'
              injection hov' with e1 _ e2
              subst e1
              rw [HAC.out, HLA.out, List.take_length] at hsl
              have HSL := Lib.hid hsl
              have HTI := Lib.hid (HTW.out.next HBK.out)
              clear hsl HO HAC hlen hk hkl
              obtain ⟨t0, t1, t2, t3⟩ := HTI.out.cells
              go_wp2_with fail
              refine (HB49.out wi HBI.out).mono ?_
              rintro e w9 ⟨v9, rfl, ⟨b9, c9, rfl, hs9, hl9⟩, hb⟩
              have HV9 : Hid (VO (wi.heap.size ≤ ·) w9 r2 _) := Lib.hid ⟨b9, c9, rfl, hs9, hl9⟩
              have HB9 := Lib.hid hb
              clear hs9 hl9 hb t0 t1 t2 t3
              go_upto_region 28 with fail
              obtain ⟨B10, hB10⟩ : ∃ B10, B10 = w9.heap.size := ⟨_, rfl⟩
              obtain ⟨W10, hW10⟩ : ∃ W10, W10 = w9.alloc (Obj.cells #[.int .i64 r2.op, .int .i64 r2.n, .string r2.name, .slice b9 r2.args.length c9] 24) := ⟨_, rfl⟩
              have hb10 : Below w9.heap.size w9 W10 := by rw [hW10]; exact (Below.refl _ _).alloc (Nat.le_refl _) _
              have HU10 : Hid (B4 W10 B10 (.int .i64 r2.op) (.int .i64 r2.n) (.string r2.name) (.slice b9 r2.args.length c9)) := by rw [hW10, hB10]; exact Lib.hid (heap_alloc_new _ _)
              rw [← hW10, ← hB10]
              clear hW10 hB10
              have HV10 := Lib.hid (HV9.out.weak.next hb10)
              have HB10 := Lib.hid (HB9.out.trans (hb10.mono HB9.out.size))
              have HT10 := Lib.hid (HTI.out.next HB10.out)
              have HSL10 := Lib.hid (Sl.next HB10.out HSL.out)
              have HC10 := Lib.hid (HBK.out.trans (HB10.out.mono HBK.out.size))
              have HD10 := Lib.hid (HBL.out.trans (HC10.out.mono HBL.out.size))
              have HE10 := Lib.hid (HBW.out.trans (HC10.out.mono HBW.out.size))
              clear hb10 HV9 HB9 HTI
              rcases HCASE.out with ⟨hn2, hput⟩ | hn2
              · subst hn2
                have HPUT := Lib.hid hput
                clear hput HCASE
                obtain ⟨u0, u1, u2, u3⟩ := HU10.out.cells
                go_wp2_with fail
                refine (HPUT.out W10 _ _ _ HV10.out HSL10.out).mono ?_
                rintro e w11 ⟨v11, rfl, ⟨b11, c11, rfl, hs11, hl11⟩, hb⟩
                have HV11 : Hid (VO (W10.heap.size ≤ ·) w11 t _) := Lib.hid ⟨b11, c11, rfl, hs11, hl11⟩
                have HB11 := Lib.hid hb
                clear hs11 hl11 hb u0 u1 u2 u3
                go_upto_region 32 with fail
                obtain ⟨B12, hB12⟩ : ∃ B12, B12 = w11.heap.size := ⟨_, rfl⟩
                obtain ⟨W12, hW12⟩ : ∃ W12, W12 = w11.alloc (Obj.cells #[.int .i64 t.op, .int .i64 t.n, .string t.name, .slice b11 t.args.length c11] 24) := ⟨_, rfl⟩
                have hb12 : Below w11.heap.size w11 W12 := by rw [hW12]; exact (Below.refl _ _).alloc (Nat.le_refl _) _
                have HY12 : Hid (B4 W12 B12 (.int .i64 t.op) (.int .i64 t.n) (.string t.name) (.slice b11 t.args.length c11)) := by rw [hW12, hB12]; exact Lib.hid (heap_alloc_new _ _)
                rw [← hW12, ← hB12]
                clear hW12 hB12
                have HV12 := Lib.hid (HV11.out.weak.next hb12)
                have HB12 := Lib.hid (HB11.out.trans (hb12.mono HB11.out.size))
                have HT12 := Lib.hid (HT10.out.next HB12.out)
                have HD12 := Lib.hid (HD10.out.trans (HB12.out.mono HD10.out.size))
                have HE12 := Lib.hid (HE10.out.trans (HB12.out.mono HE10.out.size))
                clear hb12 HV11 HB11
                obtain ⟨y0, y1, y2, y3⟩ := HY12.out.cells
                obtain ⟨t0, t1, t2, t3⟩ := HT12.out.cells
                go_wp2_with fail
                refine (HSM.out W12 _ HE12.out HV12.out).mono ?_
                rintro e w13 ⟨rfl, hb⟩
                have HD13 := Lib.hid (HD12.out.trans (hb.mono HD12.out.size))
                clear hb
                go_wp2_with fail
                go_roundw
                case rel => exact ⟨j + 1, by have := HLT.out; omega, by go_num, HD13⟩
                case measure => have := HLT.out; simp [intOf]; omega
              · subst hn2
                clear HCASE
                go_wp2_with fail
                go_roundw
                case rel => exact ⟨j + 1, by have := HLT.out; omega, by go_num, HD10⟩
                case measure => have := HLT.out; simp [intOf]; omega
        · clear hj
          go_wp2_with fail
          refine (awake_any _).mono ?_
          rintro e w9 ⟨rfl, hb⟩
          have HB9 := Lib.hid (HBW.out.trans (hb.mono HBW.out.size))
          clear hb
          go_wp2_with fail
          go_ret
          exact ⟨rfl, HB9.out⟩

end Ty
end Go.Proofs.Ytkedhnahgpmkaaa
