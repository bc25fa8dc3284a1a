/- The law TypesSpines: its walk. Conditions: zs named in the theorem. -/
import Derived.Test.YtkedhnahgpmkaaaTyPutsW
import Derived.Test.YtkedhnahgpmkaaaTyPFun
import Derived.Test.YtkedhnahgpmkaaaTyRSpine
import Derived.Deep.DeepCutAuto
namespace Go.Proofs.Ytkedhnahgpmkaaa
open Go.RowKit

namespace Ty
theorem rs_next13 {V0 W W' : World} {p0 p1 p2 p3 p4 p5 p6 p7 p8 p9 p10 p11 : Addr} {c0 c1 c2 c3 c4 c5 c6 c7 c8 c9 c10 c11 : Value} (h : Hid (Below V0.heap.size V0 W) ∧ W.cell? p0 = some c0 ∧ W.cell? p1 = some c1 ∧ W.cell? p2 = some c2 ∧ W.cell? p3 = some c3 ∧ W.cell? p4 = some c4 ∧ W.cell? p5 = some c5 ∧ W.cell? p6 = some c6 ∧ W.cell? p7 = some c7 ∧ W.cell? p8 = some c8 ∧ W.cell? p9 = some c9 ∧ W.cell? p10 = some c10 ∧ W.cell? p11 = some c11) (hb : Below W.heap.size W W') : Hid (Below V0.heap.size V0 W') ∧ W'.cell? p0 = some c0 ∧ W'.cell? p1 = some c1 ∧ W'.cell? p2 = some c2 ∧ W'.cell? p3 = some c3 ∧ W'.cell? p4 = some c4 ∧ W'.cell? p5 = some c5 ∧ W'.cell? p6 = some c6 ∧ W'.cell? p7 = some c7 ∧ W'.cell? p8 = some c8 ∧ W'.cell? p9 = some c9 ∧ W'.cell? p10 = some c10 ∧ W'.cell? p11 = some c11 := by
  obtain ⟨b, k0, k1, k2, k3, k4, k5, k6, k7, k8, k9, k10, k11⟩ := h
  exact ⟨Lib.hid (b.out.trans (hb.mono b.out.size)), keeps hb _ _ k0, keeps hb _ _ k1, keeps hb _ _ k2, keeps hb _ _ k3, keeps hb _ _ k4, keeps hb _ _ k5, keeps hb _ _ k6, keeps hb _ _ k7, keeps hb _ _ k8, keeps hb _ _ k9, keeps hb _ _ k10, keeps hb _ _ k11⟩
mutual
theorem same_refl6 : ∀ t : Ty, same t t = true
  | .mk o n s a => by
    rw [same]
    simp [sames_refl6 a]
theorem sames_refl6 : ∀ l : List Ty, sames l l = true
  | [] => by rw [sames]
  | x :: l => by
    rw [sames, same_refl6 x, sames_refl6 l]
    rfl
end
/-- what a call gives: a type and a number -/
def TnR (r : Ty) (n : Int) (w : World) (e : Ending) (w' : World) : Prop := ∃ v2, e = .returned (.tuple #[v2, .int .i64 n]) ∧ VO (w.heap.size ≤ ·) w' r v2 ∧ Below w.heap.size w w'
/-- a type, a list and a number -/
def TlR (h : Ty) (zs : List Ty) (n : Int) (w : World) (e : Ending) (w' : World) : Prop := ∃ v2 bb cp, e = .returned (.tuple #[v2, .slice bb zs.length cp, .int .i64 n]) ∧ V w' h v2 ∧ Sl w' bb zs ∧ Below w.heap.size w w'
def LtR (h : Ty) (zs : List Ty) (n : Int) (w : World) (e : Ending) (w' : World) : Prop := ∃ v2 bb cp, e = .returned (.tuple #[.slice bb zs.length cp, v2, .int .i64 n]) ∧ V w' h v2 ∧ Sl w' bb zs ∧ Below w.heap.size w w'
def TlQ (h : Ty) (zs : List Ty) (w : World) (e : Ending) (w' : World) : Prop := ∃ v2 bb cp, e = .returned (.tuple #[v2, .slice bb zs.length cp]) ∧ V w' h v2 ∧ Sl w' bb zs ∧ Below w.heap.size w w'
def LtQ (h : Ty) (zs : List Ty) (w : World) (e : Ending) (w' : World) : Prop := ∃ v2 bb cp, e = .returned (.tuple #[.slice bb zs.length cp, v2]) ∧ V w' h v2 ∧ Sl w' bb zs ∧ Below w.heap.size w w'
set_option maxRecDepth 100000 in
set_option maxHeartbeats 16000000 in
theorem spines_walk (t h r uA uF : Ty) (E gA gF : Int) (zs ys l : List Ty) (base : Option Addr) (cap : Nat) (v : Value) (w : World) (hv : V w t v) (hl : Sl w base l) (hn : l.length ≤ 2513169434843)
    (hsp : ∀ W, Below w.heap.size w W → Calls Try.prog 32 #[v] W (TlR h zs E W))
    (har : ∀ W, Below w.heap.size w W → Calls Try.prog 33 #[v] W (LtR r ys E W))
    (hap : ∀ W bb cap', Below w.heap.size w W → Sl W bb l → Calls Try.prog 34 #[v, .slice bb l.length cap'] W (TnR uA gA W))
    (hfu : ∀ W bb cap', Below w.heap.size w W → Sl W bb l → Calls Try.prog 35 #[.slice bb l.length cap', v] W (TnR uF gF W))
    (hq : (isProper t = false ∧ h = zeroT ∧ r = zeroT ∧ uA = zeroT ∧ uF = zeroT ∧ zs = [] ∧ ys = [] ∧ E = 2 ∧ gA = 2 ∧ gF = 2) ∨
      (isProper t = true ∧ E = 0 ∧ zs.length ≤ 600 ∧ ys.length ≤ 600 ∧ (∀ W, Below w.heap.size w W → Calls Try.prog 36 #[v] W (TlQ h zs W)) ∧ (∀ W, Below w.heap.size w W → Calls Try.prog 37 #[v] W (LtQ r ys W)) ∧
        ((propersT l = false ∧ uA = zeroT ∧ uF = zeroT ∧ gA = 2 ∧ gF = 2) ∨
         (propersT l = true ∧ ∃ rA rF, wholeT uA gA rA = true ∧ wholeT uF gF rF = true ∧ (∀ W, Below w.heap.size w W → Calls Try.prog 40 #[v, .slice base l.length cap] W (RetO (fun _ => True) rA W)) ∧ ∀ W, Below w.heap.size w W → Calls Try.prog 41 #[.slice base l.length cap, v] W (RetO (fun _ => True) rF W))))) :
    Calls Try.prog 6 #[v, .slice base l.length cap] w fun e w' => e = .returned (.bool true) ∧ Below w.heap.size w w' := by
  have hpr := fun W (hb : Below w.heap.size w W) => proper_any t v W (hv.next hb)
  have hpl := fun W (hb : Below w.heap.size w W) => propers_any l base cap W (hl.next hb)
  have HPR := Lib.hid hpr
  have HPL := Lib.hid hpl
  have HSP := Lib.hid hsp
  have HAR := Lib.hid har
  have HAP := Lib.hid hap
  have HFU := Lib.hid hfu
  have HQ := Lib.hid hq
  have HLL := Lib.hid hl
  clear hpr hpl hsp har hap hfu hq hl
  generalize hp : isProper t = p at *
  generalize hp2 : propersT l = p2 at *
  clear hp hp2
  obtain ⟨b, c, ev, _, _⟩ := hv
  subst ev
  have HB1 := Lib.hid (show Below w.heap.size w (w.alloc (Obj.cells #[.int .i64 t.op, .int .i64 t.n, .string t.name, .slice b t.args.length c] 24)) from (Below.refl _ _).alloc (Nat.le_refl _) _)
  have HT1 := Lib.hid (show B4 (w.alloc (Obj.cells #[.int .i64 t.op, .int .i64 t.n, .string t.name, .slice b t.args.length c] 24)) w.heap.size (.int .i64 t.op) (.int .i64 t.n) (.string t.name) (.slice b t.args.length c) from heap_alloc_new _ _)
  generalize hln : l.length = la at *
  have HLN := Lib.hid hln
  have HN : Hid (la ≤ 2513169434843) := Lib.hid hn
  clear hln hn
  go_enter Try.func6, Try.ntmps6
  go_upto_region 1 with fail
  obtain ⟨W1, hW1⟩ : ∃ W1, W1 = w.alloc (Obj.cells #[.int .i64 t.op, .int .i64 t.n, .string t.name, .slice b t.args.length c] 24) := ⟨_, rfl⟩
  rw [← hW1] at HB1 HT1 ⊢
  clear hW1
  obtain ⟨t0, t1, t2, t3⟩ := HT1.out.cells
  go_wp2_with fail
  refine (HSP.out W1 HB1.out).mono ?_
  rintro e w2 ⟨v2, sb, sc, rfl, hvh, hsa, hb⟩
  have HVH := Lib.hid hvh
  have HSA := Lib.hid hsa
  obtain ⟨hb2, hc2, rfl, _, _⟩ := hvh
  have HB2 := Lib.hid (HB1.out.trans (hb.mono HB1.out.size))
  have HT2 := Lib.hid (HT1.out.next hb)
  clear hb hsa HB1 HT1 t0 t1 t2 t3 HSP
  go_upto_region 2 with fail
  obtain ⟨Bh, hBh⟩ : ∃ Bh, Bh = w2.heap.size := ⟨_, rfl⟩
  obtain ⟨W3, hW3⟩ : ∃ W3, W3 = w2.alloc (Obj.cells #[.int .i64 h.op, .int .i64 h.n, .string h.name, .slice hb2 h.args.length hc2] 24) := ⟨_, rfl⟩
  have hb3 : Below w2.heap.size w2 W3 := by rw [hW3]; exact (Below.refl _ _).alloc (Nat.le_refl _) _
  have HH3 : Hid (B4 W3 Bh (.int .i64 h.op) (.int .i64 h.n) (.string h.name) (.slice hb2 h.args.length hc2)) := by rw [hW3, hBh]; exact Lib.hid (heap_alloc_new _ _)
  rw [← hW3, ← hBh]
  clear hW3 hBh
  have HVH3 := Lib.hid (HVH.out.next hb3)
  have HSA3 := Lib.hid (HSA.out.next hb3)
  have HB3 := Lib.hid (HB2.out.trans (hb3.mono HB2.out.size))
  have HT3 := Lib.hid (HT2.out.next hb3)
  clear hb3 HVH HSA HB2 HT2
  obtain ⟨t0, t1, t2, t3⟩ := HT3.out.cells
  go_wp2_with fail
  refine (HAR.out W3 HB3.out).mono ?_
  rintro e w4 ⟨v4, ab, ac, rfl, hvr, hsb, hb⟩
  have HVR := Lib.hid hvr
  have HSB := Lib.hid hsb
  obtain ⟨rb, rc, rfl, _, _⟩ := hvr
  have HB4 := Lib.hid (HB3.out.trans (hb.mono HB3.out.size))
  have HT4 := Lib.hid (HT3.out.next hb)
  have HH4 := Lib.hid (HH3.out.next hb)
  have HVH4 := Lib.hid (HVH3.out.next hb)
  have HSA4 := Lib.hid (HSA3.out.next hb)
  clear hb hsb HB3 HT3 HH3 HVH3 HSA3 t0 t1 t2 t3 HAR
  go_upto_region 3 with fail
  obtain ⟨Br, hBr⟩ : ∃ Br, Br = w4.heap.size := ⟨_, rfl⟩
  clear W1
  obtain ⟨W1, hW1⟩ : ∃ W1, W1 = w4.alloc (Obj.cells #[.int .i64 r.op, .int .i64 r.n, .string r.name, .slice rb r.args.length rc] 24) := ⟨_, rfl⟩
  have hb5 : Below w4.heap.size w4 W1 := by rw [hW1]; exact (Below.refl _ _).alloc (Nat.le_refl _) _
  have HR5 : Hid (B4 W1 Br (.int .i64 r.op) (.int .i64 r.n) (.string r.name) (.slice rb r.args.length rc)) := by rw [hW1, hBr]; exact Lib.hid (heap_alloc_new _ _)
  rw [← hW1, ← hBr]
  clear hW1 hBr
  have HVR5 := Lib.hid (HVR.out.next hb5)
  have HSB5 := Lib.hid (HSB.out.next hb5)
  have HVH5 := Lib.hid (HVH4.out.next hb5)
  have HSA5 := Lib.hid (HSA4.out.next hb5)
  have HH5 := Lib.hid (HH4.out.next hb5)
  have HT3 := Lib.hid (HT4.out.next hb5)
  have HBw := Lib.hid (HB4.out.trans (hb5.mono HB4.out.size))
  have HSLw := Lib.hid (HLL.out.next HBw.out)
  clear hb5 HVR HSB HVH4 HSA4 HH4 HT4 HB4
  go_cut [11, 12] (fun s11 s12 wx => ∃ (B : Nat) (b9 : Option Addr) (c9 : Nat), s11 = .pointer (some ⟨B, 0, none⟩) ∧ s12 = .int .i64 gA ∧ Hid (B4 wx B (.int .i64 uA.op) (.int .i64 uA.n) (.string uA.name) (.slice b9 uA.args.length c9)) ∧ Hid (V wx uA (.agg #[.int .i64 uA.op, .int .i64 uA.n, .string uA.name, .slice b9 uA.args.length c9])) ∧ Hid (Below W1.drew.heap.size W1.drew wx))
  case first =>
    have HT0 : Hid (B4 W1.drew w.heap.size (.int .i64 t.op) (.int .i64 t.n) (.string t.name) (.slice b t.args.length c)) := Lib.hid (HT3.out.next (Below.refl _ _).drew)
    have HB1 := Lib.hid HBw.out.drew
    have HSL := Lib.hid (HSLw.out.next (Below.refl _ _).drew)
    obtain ⟨q0, q1, q2, q3⟩ := HT0.out.cells
    have HKB : Hid (Below W1.drew.heap.size W1.drew W1.drew) := Lib.hid (Below.refl _ _)
    have hlt1 : w.heap.size < W1.drew.heap.size := lt_of_block HT0.out
    have hle0 : W1.drew.heap.size ≤ W1.heap.size := Nat.le_refl _
    have hle1 : W1.drew.heap.size ≤ W1.heap.size + 1 := Nat.le_succ _
    have hne1 : w.heap.size ≠ W1.heap.size := by have := lt_of_block HT3.out; omega
    have hne2 : w.heap.size ≠ W1.heap.size + 1 := by have := lt_of_block HT3.out; omega
    go_region_held3 (fun W => Hid (Below W1.drew.heap.size W1.drew W) ∧ W.cell? ⟨w.heap.size, 0, none⟩ = some (.int .i64 t.op) ∧ W.cell? ⟨w.heap.size, 1, none⟩ = some (.int .i64 t.n) ∧ W.cell? ⟨w.heap.size, 2, none⟩ = some (.string t.name) ∧ W.cell? ⟨w.heap.size, 3, none⟩ = some (.slice b t.args.length c))
      (first | (with_reducible exact ⟨HKB, q0, q1, q2, q3⟩) | (with_reducible assumption) | ((with_reducible refine ls_next5 ?_ hb); assumption) | ((with_reducible refine ls_next5 ?_ (below_da _ _)); assumption) | (with_reducible exact ls_next5 (W := W1.drew) ⟨HKB, q0, q1, q2, q3⟩ hbc) | ((with_reducible refine ls_next5 ?_ ((Below.refl _ _).alloc (Nat.le_refl _) _)); assumption) | ((with_reducible refine ls_put5 (B := W1.heap.size) _ _ _ _ ?_ hle0 hne1); assumption) | ((with_reducible refine ls_put5 (B := W1.heap.size + 1) _ _ _ _ ?_ hle1 hne2); assumption) | ((with_reducible refine ls_put5 (B := w7.heap.size) _ _ _ _ ?_ hsz7 hne7); assumption) | ((with_reducible refine ls_swap5 (o := Obj.cells #[.int .i64 0, .int .i64 0, .string ⟨#[]⟩, .slice none 0 0] 24) ?_ hszw hlt1); assumption))
      (first
      | (go_at_call 34; refine (HAP.out _ _ _ (HB1.out.trans (Below.mono (Hid.out (And.left (by assumption))) HB1.out.size)) (by first | exact hs7 | exact hs7.next ((Below.refl _ _).alloc (Nat.le_refl _) _))).mono ?_; rintro e w6 ⟨v6, rfl, hvo, hb⟩; have hvo2 := Lib.hid hvo; obtain ⟨b9, c9, rfl, _, _⟩ := hvo; (have hszw : W1.drew.heap.size ≤ w6.heap.size := Nat.le_trans (Below.size (Hid.out (And.left (by assumption)))) hb.size); (try have HZC := Lib.hid (HZB.out.next hb)); (try have HZC := Lib.hid (box_next hb)); (try obtain ⟨e0, e1, e2, e3⟩ := HZC.out.cells); (try have f0 := HZC.out.frozen 0); (try have f1 := HZC.out.frozen 1); (try have f2 := HZC.out.frozen 2); (try have f3 := HZC.out.frozen 3))
      | (refine step_copy (w0 := W1.drew) (by rfl) _ _ (by rfl) (by rfl) (by first | exact own_d1 (by first | rfl | simp) (by first | exact Nat.le_refl _ | simp) | exact own_d2 (by first | rfl | simp) (by first | exact Nat.le_refl _ | simp)) (Hid.out (And.left (by assumption))) (by rfl) HLN.out HSL.out HN.out ?_; intro bb cap1 w7 hs7 hgr7 hbc; (have hsz7 : W1.drew.heap.size ≤ w7.heap.size := hbc.size); (have hne7 : w.heap.size ≠ w7.heap.size := (by omega)); (try have HZB := Lib.hid (box_a (W := W1) hgr7 (by first | omega | simp))); (try have HZB := Lib.hid (box_b (W := W1) hgr7 (by first | omega | simp)))))
    all_goals
      rename_i hHeld
      have HH := Lib.hid hHeld.1.out
      clear hHeld
      go_wp2_with fail
      go_meet
      first
      | (have hzb := HZB.out; exact ⟨_, b9, c9, rfl, rfl, Lib.hid (put4_cells HZC.out _ _ _ _), Lib.hid (fin_p hsz7 (lt_of_block hzb) hvo2.out _ _ _ _).weak, HH⟩)
      | (have hzc := HZC.out; exact ⟨w7.heap.size, b9, c9, rfl, rfl, Lib.hid (put4_cells hzc _ _ _ _), Lib.hid (fin_p (V0 := W1.drew) (W5 := w7.alloc (Obj.cells #[.int .i64 0, .int .i64 0, .string ⟨#[]⟩, .slice none 0 0] 24)) (Nat.le_trans hsz7 (by simp)) (by simp) hvo2.out _ _ _ _).weak, HH⟩)
      | exact ⟨w6.heap.size, b9, c9, rfl, rfl, Lib.hid (heap_alloc_new _ _), Lib.hid (fin_c hsz7 hvo2.out _).weak, HH⟩
  case rest =>
    obtain ⟨Ba, ba, ca, rfl, rfl, HA6, HVA6, HBL⟩ := hcut
    have hbl := (Below.refl W1.heap.size W1).drew.trans HBL.out
    obtain ⟨V1, hV1⟩ : ∃ V1, V1 = wc := ⟨_, rfl⟩
    rw [← hV1] at HA6 HVA6 hbl ⊢
    have HVR6 := Lib.hid (HVR5.out.next hbl)
    have HSB6 := Lib.hid (HSB5.out.next hbl)
    have HVH6 := Lib.hid (HVH5.out.next hbl)
    have HSA6 := Lib.hid (HSA5.out.next hbl)
    have HH6 := Lib.hid (HH5.out.next hbl)
    have HR6 := Lib.hid (HR5.out.next hbl)
    have HT6 := Lib.hid (HT3.out.next hbl)
    have HBw6 := Lib.hid (HBw.out.trans (hbl.mono HBw.out.size))
    clear hbl HBL hV1 HVR5 HSB5 HVH5 HSA5 HH5 HR5 HT3 HBw HSLw HAP
    clear W1
    obtain ⟨W1, hW1⟩ : ∃ W1, W1 = V1 := ⟨_, rfl⟩
    rw [← hW1] at HA6 HVA6 HVR6 HSB6 HVH6 HSA6 HH6 HR6 HT6 HBw6 ⊢
    clear hW1
    have HT3 := HT6
    have HBw := HBw6
    have HSLw := Lib.hid (HLL.out.next HBw.out)
    go_upto_region 4 with fail
    go_cut [13, 14] (fun s13 s14 wx => ∃ (B : Nat) (b9 : Option Addr) (c9 : Nat), s13 = .pointer (some ⟨B, 0, none⟩) ∧ s14 = .int .i64 gF ∧ Hid (B4 wx B (.int .i64 uF.op) (.int .i64 uF.n) (.string uF.name) (.slice b9 uF.args.length c9)) ∧ Hid (V wx uF (.agg #[.int .i64 uF.op, .int .i64 uF.n, .string uF.name, .slice b9 uF.args.length c9])) ∧ Hid (Below W1.drew.heap.size W1.drew wx))
    case first =>
      have HT0 : Hid (B4 W1.drew w.heap.size (.int .i64 t.op) (.int .i64 t.n) (.string t.name) (.slice b t.args.length c)) := Lib.hid (HT3.out.next (Below.refl _ _).drew)
      have HB1 := Lib.hid HBw.out.drew
      have HSL := Lib.hid (HSLw.out.next (Below.refl _ _).drew)
      obtain ⟨q0, q1, q2, q3⟩ := HT0.out.cells
      have HKB : Hid (Below W1.drew.heap.size W1.drew W1.drew) := Lib.hid (Below.refl _ _)
      have hlt1 : w.heap.size < W1.drew.heap.size := lt_of_block HT0.out
      have hle0 : W1.drew.heap.size ≤ W1.heap.size := Nat.le_refl _
      have hle1 : W1.drew.heap.size ≤ W1.heap.size + 1 := Nat.le_succ _
      have hne1 : w.heap.size ≠ W1.heap.size := by have := lt_of_block HT3.out; omega
      have hne2 : w.heap.size ≠ W1.heap.size + 1 := by have := lt_of_block HT3.out; omega
      go_region_held3 (fun W => Hid (Below W1.drew.heap.size W1.drew W) ∧ W.cell? ⟨w.heap.size, 0, none⟩ = some (.int .i64 t.op) ∧ W.cell? ⟨w.heap.size, 1, none⟩ = some (.int .i64 t.n) ∧ W.cell? ⟨w.heap.size, 2, none⟩ = some (.string t.name) ∧ W.cell? ⟨w.heap.size, 3, none⟩ = some (.slice b t.args.length c))
        (first | (with_reducible exact ⟨HKB, q0, q1, q2, q3⟩) | (with_reducible assumption) | ((with_reducible refine ls_next5 ?_ hb); assumption) | ((with_reducible refine ls_next5 ?_ (below_da _ _)); assumption) | (with_reducible exact ls_next5 (W := W1.drew) ⟨HKB, q0, q1, q2, q3⟩ hbc) | ((with_reducible refine ls_next5 ?_ ((Below.refl _ _).alloc (Nat.le_refl _) _)); assumption) | ((with_reducible refine ls_put5 (B := W1.heap.size) _ _ _ _ ?_ hle0 hne1); assumption) | ((with_reducible refine ls_put5 (B := W1.heap.size + 1) _ _ _ _ ?_ hle1 hne2); assumption) | ((with_reducible refine ls_put5 (B := w7.heap.size) _ _ _ _ ?_ hsz7 hne7); assumption) | ((with_reducible refine ls_swap5 (o := Obj.cells #[.int .i64 0, .int .i64 0, .string ⟨#[]⟩, .slice none 0 0] 24) ?_ hszw hlt1); assumption))
        (first
        | (go_at_call 35; refine (HFU.out _ _ _ (HB1.out.trans (Below.mono (Hid.out (And.left (by assumption))) HB1.out.size)) (by first | exact hs7 | exact hs7.next ((Below.refl _ _).alloc (Nat.le_refl _) _))).mono ?_; rintro e w6 ⟨v6, rfl, hvo, hb⟩; have hvo2 := Lib.hid hvo; obtain ⟨b9, c9, rfl, _, _⟩ := hvo; (have hszw : W1.drew.heap.size ≤ w6.heap.size := Nat.le_trans (Below.size (Hid.out (And.left (by assumption)))) hb.size); (try have HZC := Lib.hid (HZB.out.next hb)); (try have HZC := Lib.hid (box_next hb)); (try obtain ⟨e0, e1, e2, e3⟩ := HZC.out.cells); (try have f0 := HZC.out.frozen 0); (try have f1 := HZC.out.frozen 1); (try have f2 := HZC.out.frozen 2); (try have f3 := HZC.out.frozen 3))
        | (refine step_copy (w0 := W1.drew) (by rfl) _ _ (by rfl) (by rfl) (by first | exact own_d1 (by first | rfl | simp) (by first | exact Nat.le_refl _ | simp) | exact own_d2 (by first | rfl | simp) (by first | exact Nat.le_refl _ | simp)) (Hid.out (And.left (by assumption))) (by rfl) HLN.out HSL.out HN.out ?_; intro bb cap1 w7 hs7 hgr7 hbc; (have hsz7 : W1.drew.heap.size ≤ w7.heap.size := hbc.size); (have hne7 : w.heap.size ≠ w7.heap.size := (by omega)); (try have HZB := Lib.hid (box_a (W := W1) hgr7 (by first | omega | simp))); (try have HZB := Lib.hid (box_b (W := W1) hgr7 (by first | omega | simp)))))
      all_goals
        rename_i hHeld
        have HH := Lib.hid hHeld.1.out
        clear hHeld
        go_wp2_with fail
        go_meet
        first
        | (have hzb := HZB.out; exact ⟨_, b9, c9, rfl, rfl, Lib.hid (put4_cells HZC.out _ _ _ _), Lib.hid (fin_p hsz7 (lt_of_block hzb) hvo2.out _ _ _ _).weak, HH⟩)
        | (have hzc := HZC.out; exact ⟨w7.heap.size, b9, c9, rfl, rfl, Lib.hid (put4_cells hzc _ _ _ _), Lib.hid (fin_p (V0 := W1.drew) (W5 := w7.alloc (Obj.cells #[.int .i64 0, .int .i64 0, .string ⟨#[]⟩, .slice none 0 0] 24)) (Nat.le_trans hsz7 (by simp)) (by simp) hvo2.out _ _ _ _).weak, HH⟩)
        | exact ⟨w6.heap.size, b9, c9, rfl, rfl, Lib.hid (heap_alloc_new _ _), Lib.hid (fin_c hsz7 hvo2.out _).weak, HH⟩
    case rest =>
      obtain ⟨Bf, bf, cf, rfl, rfl, HF7, HVF7, HBL⟩ := hcut
      have hbl := (Below.refl W1.heap.size W1).drew.trans HBL.out
      obtain ⟨V7, hV7⟩ : ∃ V7, V7 = wc := ⟨_, rfl⟩
      rw [← hV7] at HF7 HVF7 hbl ⊢
      have HA7 := Lib.hid (HA6.out.next hbl)
      have HVA7 := Lib.hid (HVA6.out.next hbl)
      have HVR7 := Lib.hid (HVR6.out.next hbl)
      have HSB7 := Lib.hid (HSB6.out.next hbl)
      have HVH7 := Lib.hid (HVH6.out.next hbl)
      have HSA7 := Lib.hid (HSA6.out.next hbl)
      have HH7 := Lib.hid (HH6.out.next hbl)
      have HR7 := Lib.hid (HR6.out.next hbl)
      have HT7 := Lib.hid (HT6.out.next hbl)
      have HB7 := Lib.hid (HBw6.out.trans (hbl.mono HBw6.out.size))
      clear hbl HBL hV7 HA6 HVA6 HVR6 HSB6 HVH6 HSA6 HH6 HR6 HT6 HBw6 HT3 HBw HSLw HFU
      obtain ⟨t0, t1, t2, t3⟩ := HT7.out.cells
      go_wp2_with fail
      refine (HPR.out V7 HB7.out).mono ?_
      rintro e w8 ⟨rfl, hb⟩
      clear t0 t1 t2 t3
      have HA8 := Lib.hid (HA7.out.next hb)
      have HVA8 := Lib.hid (HVA7.out.next hb)
      have HVR8 := Lib.hid (HVR7.out.next hb)
      have HSB8 := Lib.hid (HSB7.out.next hb)
      have HVH8 := Lib.hid (HVH7.out.next hb)
      have HSA8 := Lib.hid (HSA7.out.next hb)
      have HH8 := Lib.hid (HH7.out.next hb)
      have HR8 := Lib.hid (HR7.out.next hb)
      have HT8 := Lib.hid (HT7.out.next hb)
      have HF8 := Lib.hid (HF7.out.next hb)
      have HVF8 := Lib.hid (HVF7.out.next hb)
      have HB8 := Lib.hid (HB7.out.trans (hb.mono HB7.out.size))
      clear hb HA7 HVA7 HVR7 HSB7 HVH7 HSA7 HH7 HR7 HT7 HF7 HVF7 HB7
      have HZ : same zeroT zeroT = true := same_refl6 _
      rcases HQ.out with ⟨hp, h1, h2, h3, h4, h5, h6, h7, h8, h9⟩ | ⟨hp, h7, hlz, hly, hrs, hra, hlast⟩
      · subst hp h1 h2 h3 h4 h5 h6 h7 h8 h9
        clear HQ
        obtain ⟨t0, t1, t2, t3⟩ := HH8.out.cells
        go_wp2_with fail
        refine (zero_any zeroT _ _ HVH8.out).mono ?_
        rintro e wa ⟨rfl, hb⟩
        rw [show same zeroT zeroT = true from HZ]
        clear t0 t1 t2 t3
        have HAa := Lib.hid (HA8.out.next hb)
        have HVAa := Lib.hid (HVA8.out.next hb)
        have HVRa := Lib.hid (HVR8.out.next hb)
        have HSBa := Lib.hid (HSB8.out.next hb)
        have HVHa := Lib.hid (HVH8.out.next hb)
        have HSAa := Lib.hid (HSA8.out.next hb)
        have HHa := Lib.hid (HH8.out.next hb)
        have HRa := Lib.hid (HR8.out.next hb)
        have HTa := Lib.hid (HT8.out.next hb)
        have HFa := Lib.hid (HF8.out.next hb)
        have HVFa := Lib.hid (HVF8.out.next hb)
        have HBa := Lib.hid (HB8.out.trans (hb.mono HB8.out.size))
        clear hb HA8 HVA8 HVR8 HSB8 HVH8 HSA8 HH8 HR8 HT8 HF8 HVF8 HB8
        obtain ⟨t0, t1, t2, t3⟩ := HRa.out.cells
        go_wp2_with fail
        refine (zero_any zeroT _ _ HVRa.out).mono ?_
        rintro e wb ⟨rfl, hb⟩
        rw [show same zeroT zeroT = true from HZ]
        clear t0 t1 t2 t3
        have HAb := Lib.hid (HAa.out.next hb)
        have HVAb := Lib.hid (HVAa.out.next hb)
        have HVRb := Lib.hid (HVRa.out.next hb)
        have HSBb := Lib.hid (HSBa.out.next hb)
        have HVHb := Lib.hid (HVHa.out.next hb)
        have HSAb := Lib.hid (HSAa.out.next hb)
        have HHb := Lib.hid (HHa.out.next hb)
        have HRb := Lib.hid (HRa.out.next hb)
        have HTb := Lib.hid (HTa.out.next hb)
        have HFb := Lib.hid (HFa.out.next hb)
        have HVFb := Lib.hid (HVFa.out.next hb)
        have HBb := Lib.hid (HBa.out.trans (hb.mono HBa.out.size))
        clear hb HAa HVAa HVRa HSBa HVHa HSAa HHa HRa HTa HFa HVFa HBa
        obtain ⟨t0, t1, t2, t3⟩ := HAb.out.cells
        go_wp2_with fail
        refine (zero_any zeroT _ _ HVAb.out).mono ?_
        rintro e wc ⟨rfl, hb⟩
        rw [show same zeroT zeroT = true from HZ]
        clear t0 t1 t2 t3
        have HAc := Lib.hid (HAb.out.next hb)
        have HVAc := Lib.hid (HVAb.out.next hb)
        have HVRc := Lib.hid (HVRb.out.next hb)
        have HSBc := Lib.hid (HSBb.out.next hb)
        have HVHc := Lib.hid (HVHb.out.next hb)
        have HSAc := Lib.hid (HSAb.out.next hb)
        have HHc := Lib.hid (HHb.out.next hb)
        have HRc := Lib.hid (HRb.out.next hb)
        have HTc := Lib.hid (HTb.out.next hb)
        have HFc := Lib.hid (HFb.out.next hb)
        have HVFc := Lib.hid (HVFb.out.next hb)
        have HBc := Lib.hid (HBb.out.trans (hb.mono HBb.out.size))
        clear hb HAb HVAb HVRb HSBb HVHb HSAb HHb HRb HTb HFb HVFb HBb
        obtain ⟨t0, t1, t2, t3⟩ := HFc.out.cells
        go_wp2_with fail
        refine (zero_any zeroT _ _ HVFc.out).mono ?_
        rintro e wd ⟨rfl, hb⟩
        rw [show same zeroT zeroT = true from HZ]
        clear t0 t1 t2 t3
        have HAd := Lib.hid (HAc.out.next hb)
        have HVAd := Lib.hid (HVAc.out.next hb)
        have HVRd := Lib.hid (HVRc.out.next hb)
        have HSBd := Lib.hid (HSBc.out.next hb)
        have HVHd := Lib.hid (HVHc.out.next hb)
        have HSAd := Lib.hid (HSAc.out.next hb)
        have HHd := Lib.hid (HHc.out.next hb)
        have HRd := Lib.hid (HRc.out.next hb)
        have HTd := Lib.hid (HTc.out.next hb)
        have HFd := Lib.hid (HFc.out.next hb)
        have HVFd := Lib.hid (HVFc.out.next hb)
        have HBd := Lib.hid (HBc.out.trans (hb.mono HBc.out.size))
        clear hb HAc HVAc HVRc HSBc HVHc HSAc HHc HRc HTc HFc HVFc HBc
        go_wp2_with fail
        refine (awake_any _).mono ?_
        rintro e w9 ⟨rfl, hb⟩
        have HB9 := Lib.hid (HBd.out.trans (hb.mono HBd.out.size))
        clear hb
        go_wp2_with fail
        go_ret
        exact ⟨rfl, HB9.out⟩
      · subst hp h7
        have HRS := Lib.hid hrs
        have HRA := Lib.hid hra
        have HLAST := Lib.hid hlast
        clear HQ hrs hra hlast
        obtain ⟨t0, t1, t2, t3⟩ := HT8.out.cells
        go_wp2_with fail
        refine (HRS.out _ HB8.out).mono ?_
        rintro e wa ⟨k2, kb, kc, rfl, hvk, hsk, hb⟩
        have HVKa := Lib.hid hvk
        have HSKa := Lib.hid hsk
        obtain ⟨kb2, kc2, rfl, _, _⟩ := hvk
        clear t0 t1 t2 t3
        clear hsk
        have HAa := Lib.hid (HA8.out.next hb)
        have HVAa := Lib.hid (HVA8.out.next hb)
        have HVRa := Lib.hid (HVR8.out.next hb)
        have HSBa := Lib.hid (HSB8.out.next hb)
        have HVHa := Lib.hid (HVH8.out.next hb)
        have HSAa := Lib.hid (HSA8.out.next hb)
        have HHa := Lib.hid (HH8.out.next hb)
        have HRa := Lib.hid (HR8.out.next hb)
        have HTa := Lib.hid (HT8.out.next hb)
        have HFa := Lib.hid (HF8.out.next hb)
        have HVFa := Lib.hid (HVF8.out.next hb)
        have HBa := Lib.hid (HB8.out.trans (hb.mono HB8.out.size))
        clear hb HA8 HVA8 HVR8 HSB8 HVH8 HSA8 HH8 HR8 HT8 HF8 HVF8 HB8
        go_upto_region 8 with fail
        obtain ⟨Bk, hBk⟩ : ∃ Bk, Bk = wa.heap.size := ⟨_, rfl⟩
        obtain ⟨Wb, hWb⟩ : ∃ Wb, Wb = wa.alloc (Obj.cells #[.int .i64 h.op, .int .i64 h.n, .string h.name, .slice kb2 h.args.length kc2] 24) := ⟨_, rfl⟩
        have hb : Below wa.heap.size wa Wb := by rw [hWb]; exact (Below.refl _ _).alloc (Nat.le_refl _) _
        have HKb : Hid (B4 Wb Bk (.int .i64 h.op) (.int .i64 h.n) (.string h.name) (.slice kb2 h.args.length kc2)) := by rw [hWb, hBk]; exact Lib.hid (heap_alloc_new _ _)
        rw [← hWb, ← hBk]
        clear hWb hBk
        have HAb := Lib.hid (HAa.out.next hb)
        have HVAb := Lib.hid (HVAa.out.next hb)
        have HVRb := Lib.hid (HVRa.out.next hb)
        have HSBb := Lib.hid (HSBa.out.next hb)
        have HVHb := Lib.hid (HVHa.out.next hb)
        have HSAb := Lib.hid (HSAa.out.next hb)
        have HHb := Lib.hid (HHa.out.next hb)
        have HRb := Lib.hid (HRa.out.next hb)
        have HTb := Lib.hid (HTa.out.next hb)
        have HFb := Lib.hid (HFa.out.next hb)
        have HVFb := Lib.hid (HVFa.out.next hb)
        have HVKb := Lib.hid (HVKa.out.next hb)
        have HSKb := Lib.hid (HSKa.out.next hb)
        have HBb := Lib.hid (HBa.out.trans (hb.mono HBa.out.size))
        clear hb HAa HVAa HVRa HSBa HVHa HSAa HHa HRa HTa HFa HVFa HVKa HSKa HBa
        obtain ⟨t0, t1, t2, t3⟩ := HTb.out.cells
        go_wp2_with fail
        refine (HRA.out _ HBb.out).mono ?_
        rintro e wc2 ⟨g2, gb, gc, rfl, hvg, hsg, hb⟩
        have HVGc := Lib.hid hvg
        have HSGc := Lib.hid hsg
        obtain ⟨gb2, gc2, rfl, _, _⟩ := hvg
        clear t0 t1 t2 t3
        clear hsg
        have HAc := Lib.hid (HAb.out.next hb)
        have HVAc := Lib.hid (HVAb.out.next hb)
        have HVRc := Lib.hid (HVRb.out.next hb)
        have HSBc := Lib.hid (HSBb.out.next hb)
        have HVHc := Lib.hid (HVHb.out.next hb)
        have HSAc := Lib.hid (HSAb.out.next hb)
        have HHc := Lib.hid (HHb.out.next hb)
        have HRc := Lib.hid (HRb.out.next hb)
        have HTc := Lib.hid (HTb.out.next hb)
        have HFc := Lib.hid (HFb.out.next hb)
        have HVFc := Lib.hid (HVFb.out.next hb)
        have HVKc := Lib.hid (HVKb.out.next hb)
        have HSKc := Lib.hid (HSKb.out.next hb)
        have HKc := Lib.hid (HKb.out.next hb)
        have HBc := Lib.hid (HBb.out.trans (hb.mono HBb.out.size))
        clear hb HAb HVAb HVRb HSBb HVHb HSAb HHb HRb HTb HFb HVFb HVKb HSKb HKb HBb
        go_upto_region 9 with fail
        obtain ⟨Bg, hBg⟩ : ∃ Bg, Bg = wc2.heap.size := ⟨_, rfl⟩
        obtain ⟨Wd, hWd⟩ : ∃ Wd, Wd = wc2.alloc (Obj.cells #[.int .i64 r.op, .int .i64 r.n, .string r.name, .slice gb2 r.args.length gc2] 24) := ⟨_, rfl⟩
        have hb : Below wc2.heap.size wc2 Wd := by rw [hWd]; exact (Below.refl _ _).alloc (Nat.le_refl _) _
        have HGd : Hid (B4 Wd Bg (.int .i64 r.op) (.int .i64 r.n) (.string r.name) (.slice gb2 r.args.length gc2)) := by rw [hWd, hBg]; exact Lib.hid (heap_alloc_new _ _)
        rw [← hWd, ← hBg]
        clear hWd hBg
        have HAd := Lib.hid (HAc.out.next hb)
        have HVAd := Lib.hid (HVAc.out.next hb)
        have HVRd := Lib.hid (HVRc.out.next hb)
        have HSBd := Lib.hid (HSBc.out.next hb)
        have HVHd := Lib.hid (HVHc.out.next hb)
        have HSAd := Lib.hid (HSAc.out.next hb)
        have HHd := Lib.hid (HHc.out.next hb)
        have HRd := Lib.hid (HRc.out.next hb)
        have HTd := Lib.hid (HTc.out.next hb)
        have HFd := Lib.hid (HFc.out.next hb)
        have HVFd := Lib.hid (HVFc.out.next hb)
        have HVKd := Lib.hid (HVKc.out.next hb)
        have HSKd := Lib.hid (HSKc.out.next hb)
        have HKd := Lib.hid (HKc.out.next hb)
        have HVGd := Lib.hid (HVGc.out.next hb)
        have HSGd := Lib.hid (HSGc.out.next hb)
        have HBd := Lib.hid (HBc.out.trans (hb.mono HBc.out.size))
        clear hb HAc HVAc HVRc HSBc HVHc HSAc HHc HRc HTc HFc HVFc HVKc HSKc HKc HVGc HSGc HBc
        obtain ⟨t0, t1, t2, t3⟩ := HHd.out.cells
        obtain ⟨q0, q1, q2, q3⟩ := HKd.out.cells
        go_wp2_with fail
        refine (rsame_any h h _ _ _ HVHd.out HVKd.out).mono ?_
        rintro e we ⟨rfl, hb⟩
        rw [same_refl6]
        clear t0 t1 t2 t3
        clear q0 q1 q2 q3
        have HAe := Lib.hid (HAd.out.next hb)
        have HVAe := Lib.hid (HVAd.out.next hb)
        have HVRe := Lib.hid (HVRd.out.next hb)
        have HSBe := Lib.hid (HSBd.out.next hb)
        have HVHe := Lib.hid (HVHd.out.next hb)
        have HSAe := Lib.hid (HSAd.out.next hb)
        have HHe := Lib.hid (HHd.out.next hb)
        have HRe := Lib.hid (HRd.out.next hb)
        have HTe := Lib.hid (HTd.out.next hb)
        have HFe := Lib.hid (HFd.out.next hb)
        have HVFe := Lib.hid (HVFd.out.next hb)
        have HVKe := Lib.hid (HVKd.out.next hb)
        have HSKe := Lib.hid (HSKd.out.next hb)
        have HKe := Lib.hid (HKd.out.next hb)
        have HVGe := Lib.hid (HVGd.out.next hb)
        have HSGe := Lib.hid (HSGd.out.next hb)
        have HGe := Lib.hid (HGd.out.next hb)
        have HBe := Lib.hid (HBd.out.trans (hb.mono HBd.out.size))
        clear hb HAd HVAd HVRd HSBd HVHd HSAd HHd HRd HTd HFd HVFd HVKd HSKd HKd HVGd HSGd HGd HBd
        go_wp2_with fail
        refine (rsameall zs zs _ _ _ _ _ HSAe.out HSKe.out).mono ?_
        rintro e wf ⟨rfl, hb⟩
        rw [sames_refl6]
        have HAf := Lib.hid (HAe.out.next hb)
        have HVAf := Lib.hid (HVAe.out.next hb)
        have HVRf := Lib.hid (HVRe.out.next hb)
        have HSBf := Lib.hid (HSBe.out.next hb)
        have HVHf := Lib.hid (HVHe.out.next hb)
        have HSAf := Lib.hid (HSAe.out.next hb)
        have HHf := Lib.hid (HHe.out.next hb)
        have HRf := Lib.hid (HRe.out.next hb)
        have HTf := Lib.hid (HTe.out.next hb)
        have HFf := Lib.hid (HFe.out.next hb)
        have HVFf := Lib.hid (HVFe.out.next hb)
        have HVKf := Lib.hid (HVKe.out.next hb)
        have HSKf := Lib.hid (HSKe.out.next hb)
        have HKf := Lib.hid (HKe.out.next hb)
        have HVGf := Lib.hid (HVGe.out.next hb)
        have HSGf := Lib.hid (HSGe.out.next hb)
        have HGf := Lib.hid (HGe.out.next hb)
        have HBf := Lib.hid (HBe.out.trans (hb.mono HBe.out.size))
        clear hb HAe HVAe HVRe HSBe HVHe HSAe HHe HRe HTe HFe HVFe HVKe HSKe HKe HVGe HSGe HGe HBe
        go_wp2_with fail
        refine (rsameall ys ys _ _ _ _ _ HSBf.out HSGf.out).mono ?_
        rintro e wg ⟨rfl, hb⟩
        rw [sames_refl6]
        have HAg := Lib.hid (HAf.out.next hb)
        have HVAg := Lib.hid (HVAf.out.next hb)
        have HVRg := Lib.hid (HVRf.out.next hb)
        have HSBg := Lib.hid (HSBf.out.next hb)
        have HVHg := Lib.hid (HVHf.out.next hb)
        have HSAg := Lib.hid (HSAf.out.next hb)
        have HHg := Lib.hid (HHf.out.next hb)
        have HRg := Lib.hid (HRf.out.next hb)
        have HTg := Lib.hid (HTf.out.next hb)
        have HFg := Lib.hid (HFf.out.next hb)
        have HVFg := Lib.hid (HVFf.out.next hb)
        have HVKg := Lib.hid (HVKf.out.next hb)
        have HSKg := Lib.hid (HSKf.out.next hb)
        have HKg := Lib.hid (HKf.out.next hb)
        have HVGg := Lib.hid (HVGf.out.next hb)
        have HSGg := Lib.hid (HSGf.out.next hb)
        have HGg := Lib.hid (HGf.out.next hb)
        have HBg := Lib.hid (HBf.out.trans (hb.mono HBf.out.size))
        clear hb HAf HVAf HVRf HSBf HVHf HSAf HHf HRf HTf HFf HVFf HVKf HSKf HKf HVGf HSGf HGf HBf
        obtain ⟨t0, t1, t2, t3⟩ := HRg.out.cells
        obtain ⟨q0, q1, q2, q3⟩ := HGg.out.cells
        go_wp2_with fail
        refine (rsame_any r r _ _ _ HVRg.out HVGg.out).mono ?_
        rintro e wh ⟨rfl, hb⟩
        rw [same_refl6]
        clear t0 t1 t2 t3
        clear q0 q1 q2 q3
        have HAh := Lib.hid (HAg.out.next hb)
        have HVAh := Lib.hid (HVAg.out.next hb)
        have HVRh := Lib.hid (HVRg.out.next hb)
        have HSBh := Lib.hid (HSBg.out.next hb)
        have HVHh := Lib.hid (HVHg.out.next hb)
        have HSAh := Lib.hid (HSAg.out.next hb)
        have HHh := Lib.hid (HHg.out.next hb)
        have HRh := Lib.hid (HRg.out.next hb)
        have HTh := Lib.hid (HTg.out.next hb)
        have HFh := Lib.hid (HFg.out.next hb)
        have HVFh := Lib.hid (HVFg.out.next hb)
        have HVKh := Lib.hid (HVKg.out.next hb)
        have HSKh := Lib.hid (HSKg.out.next hb)
        have HKh := Lib.hid (HKg.out.next hb)
        have HVGh := Lib.hid (HVGg.out.next hb)
        have HSGh := Lib.hid (HSGg.out.next hb)
        have HGh := Lib.hid (HGg.out.next hb)
        have HBh := Lib.hid (HBg.out.trans (hb.mono HBg.out.size))
        clear hb HAg HVAg HVRg HSBg HVHg HSAg HHg HRg HTg HFg HVFg HVKg HSKg HKg HVGg HSGg HGg HBg
        go_wp2_with fail
        refine (HPL.out _ HBh.out).mono ?_
        rintro e wi ⟨rfl, hb⟩
        have HAi := Lib.hid (HAh.out.next hb)
        have HVAi := Lib.hid (HVAh.out.next hb)
        have HVRi := Lib.hid (HVRh.out.next hb)
        have HSBi := Lib.hid (HSBh.out.next hb)
        have HVHi := Lib.hid (HVHh.out.next hb)
        have HSAi := Lib.hid (HSAh.out.next hb)
        have HHi := Lib.hid (HHh.out.next hb)
        have HRi := Lib.hid (HRh.out.next hb)
        have HTi := Lib.hid (HTh.out.next hb)
        have HFi := Lib.hid (HFh.out.next hb)
        have HVFi := Lib.hid (HVFh.out.next hb)
        have HBi := Lib.hid (HBh.out.trans (hb.mono HBh.out.size))
        clear hb HAh HVAh HVRh HSBh HVHh HSAh HHh HRh HTh HFh HVFh HBh
        rcases HLAST.out with ⟨hp2, h3, h4, h8, h9⟩ | ⟨hp2, ru, rf, hw1, hw2, hr1, hr2⟩
        · subst hp2 h3 h4 h8 h9
          obtain ⟨t0, t1, t2, t3⟩ := HAi.out.cells
          go_wp2_with fail
          refine (zero_any zeroT _ _ HVAi.out).mono ?_
          rintro e wj ⟨rfl, hb⟩
          rw [show same zeroT zeroT = true from HZ]
          clear t0 t1 t2 t3
          have HAj := Lib.hid (HAi.out.next hb)
          have HVAj := Lib.hid (HVAi.out.next hb)
          have HVRj := Lib.hid (HVRi.out.next hb)
          have HSBj := Lib.hid (HSBi.out.next hb)
          have HVHj := Lib.hid (HVHi.out.next hb)
          have HSAj := Lib.hid (HSAi.out.next hb)
          have HHj := Lib.hid (HHi.out.next hb)
          have HRj := Lib.hid (HRi.out.next hb)
          have HTj := Lib.hid (HTi.out.next hb)
          have HFj := Lib.hid (HFi.out.next hb)
          have HVFj := Lib.hid (HVFi.out.next hb)
          have HBj := Lib.hid (HBi.out.trans (hb.mono HBi.out.size))
          clear hb HAi HVAi HVRi HSBi HVHi HSAi HHi HRi HTi HFi HVFi HBi
          obtain ⟨t0, t1, t2, t3⟩ := HFj.out.cells
          go_wp2_with fail
          refine (zero_any zeroT _ _ HVFj.out).mono ?_
          rintro e wk ⟨rfl, hb⟩
          rw [show same zeroT zeroT = true from HZ]
          clear t0 t1 t2 t3
          have HAk := Lib.hid (HAj.out.next hb)
          have HVAk := Lib.hid (HVAj.out.next hb)
          have HVRk := Lib.hid (HVRj.out.next hb)
          have HSBk := Lib.hid (HSBj.out.next hb)
          have HVHk := Lib.hid (HVHj.out.next hb)
          have HSAk := Lib.hid (HSAj.out.next hb)
          have HHk := Lib.hid (HHj.out.next hb)
          have HRk := Lib.hid (HRj.out.next hb)
          have HTk := Lib.hid (HTj.out.next hb)
          have HFk := Lib.hid (HFj.out.next hb)
          have HVFk := Lib.hid (HVFj.out.next hb)
          have HBk := Lib.hid (HBj.out.trans (hb.mono HBj.out.size))
          clear hb HAj HVAj HVRj HSBj HVHj HSAj HHj HRj HTj HFj HVFj HBj
          go_wp2_with fail
          refine (awake_any _).mono ?_
          rintro e w9 ⟨rfl, hb⟩
          have HB9 := Lib.hid (HBk.out.trans (hb.mono HBk.out.size))
          clear hb
          go_wp2_with fail
          go_ret
          exact ⟨rfl, HB9.out⟩
        · subst hp2
          have HW1 := Lib.hid hw1
          have HW2 := Lib.hid hw2
          have HR1 := Lib.hid hr1
          have HR2 := Lib.hid hr2
          clear hw1 hw2 hr1 hr2 HLAST
          go_upto_region 13 with fail
          obtain ⟨W5, hW5⟩ : ∃ W5, W5 = wi.drew := ⟨_, rfl⟩
          have hbd : Below wi.heap.size wi wi.drew := (Below.refl _ _).drew
          have HVA5 : Hid (V W5 uA (.agg #[.int .i64 uA.op, .int .i64 uA.n, .string uA.name, .slice ba uA.args.length ca])) := by rw [hW5]; exact Lib.hid (HVAi.out.next hbd)
          have HVF5 : Hid (V W5 uF (.agg #[.int .i64 uF.op, .int .i64 uF.n, .string uF.name, .slice bf uF.args.length cf])) := by rw [hW5]; exact Lib.hid (HVFi.out.next hbd)
          have HB5 : Hid (Below w.heap.size w W5) := by rw [hW5]; exact Lib.hid HBi.out.drew
          have HK5 : Hid (Below W5.heap.size W5 wi.drew) := by rw [hW5]; exact Lib.hid (Below.refl _ _)
          obtain ⟨K0, K1, K2, K3⟩ := (HTi.out.next hbd).cells
          obtain ⟨L0, L1, L2, L3⟩ := (HAi.out.next hbd).cells
          obtain ⟨M0, M1, M2, M3⟩ := (HFi.out.next hbd).cells
          clear hW5 hbd HVAi HVFi HBi HTi HAi HFi HVRi HSBi HVHi HSAi HHi HRi
          go_region_held3 (fun W => Hid (Below W5.heap.size W5 W) ∧ W.cell? ⟨w.heap.size, 0, none⟩ = some (.int .i64 t.op) ∧ W.cell? ⟨w.heap.size, 1, none⟩ = some (.int .i64 t.n) ∧ W.cell? ⟨w.heap.size, 2, none⟩ = some (.string t.name) ∧ W.cell? ⟨w.heap.size, 3, none⟩ = some (.slice b t.args.length c) ∧ W.cell? ⟨Ba, 0, none⟩ = some (.int .i64 uA.op) ∧ W.cell? ⟨Ba, 1, none⟩ = some (.int .i64 uA.n) ∧ W.cell? ⟨Ba, 2, none⟩ = some (.string uA.name) ∧ W.cell? ⟨Ba, 3, none⟩ = some (.slice ba uA.args.length ca) ∧ W.cell? ⟨Bf, 0, none⟩ = some (.int .i64 uF.op) ∧ W.cell? ⟨Bf, 1, none⟩ = some (.int .i64 uF.n) ∧ W.cell? ⟨Bf, 2, none⟩ = some (.string uF.name) ∧ W.cell? ⟨Bf, 3, none⟩ = some (.slice bf uF.args.length cf))
            (first | (with_reducible exact ⟨HK5, K0, K1, K2, K3, L0, L1, L2, L3, M0, M1, M2, M3⟩) | assumption | ((with_reducible refine rs_next13 ?_ hb); assumption))
            (first
            | (go_at_call 40; refine (HR1.out _ (HB5.out.trans (Below.mono (Hid.out (And.left (by assumption))) HB5.out.size))).mono ?_; rintro e w6 ⟨v6, rfl, hv6, hb⟩; have HU6 := Lib.hid hv6.weak; have HVA7 := Lib.hid (HVA5.out.next (Below.trans (Hid.out (And.left (by assumption))) (hb.mono (Below.size (Hid.out (And.left (by assumption))))))))
            | (go_at_call 41; refine (HR2.out _ (HB5.out.trans (Below.mono (Hid.out (And.left (by assumption))) HB5.out.size))).mono ?_; rintro e w8 ⟨v8, rfl, hv8, hb⟩; have HU8 := Lib.hid hv8.weak; have HVF9 := Lib.hid (HVF5.out.next (Below.trans (Hid.out (And.left (by assumption))) (hb.mono (Below.size (Hid.out (And.left (by assumption))))))))
            | (go_at_call 28; refine (whole_any uF rf _ _ gF _ HVF9.out HU8.out).mono ?_; rintro e w9 ⟨rfl, hb⟩; rw [HW2.out])
            | (go_at_call 28; refine (whole_any uA ru _ _ gA _ HVA7.out HU6.out).mono ?_; rintro e w7 ⟨rfl, hb⟩; rw [HW1.out])
            | (go_at_call 18; refine (awake_any _).mono ?_; rintro e w9 ⟨rfl, hb⟩))
          all_goals
            rename_i hHeld
            have HH := Lib.hid hHeld.1.out
            clear hHeld
            go_wp2_with fail
            go_ret
            exact ⟨rfl, HB5.out.trans (HH.out.mono HB5.out.size)⟩

end Ty
end Go.Proofs.Ytkedhnahgpmkaaa
