/- The law TypesChecks: true. Conditions: the type lies in memory. -/
import Derived.Test.YtkedhnahgpmkaaaTyTops
import Derived.Test.YtkedhnahgpmkaaaTyInts
import Derived.Test.YtkedhnahgpmkaaaTyAwake
namespace Go.Proofs.Ytkedhnahgpmkaaa
open Go.RowKit

namespace Ty
theorem colT_len (op : Int) {t : Ty} (hg : Good t) (hn : nodes t ≤ 600) : (colT op t).length ≤ 100000 := by
  have := wlk_len (f := colF op) (colF_len op) hg 0 []
  unfold colT
  simp at this
  omega
theorem sameI_refl (l : List Int) : sameI l l = true := decide_eq_true rfl

set_option maxHeartbeats 16000000 in
theorem checks_bad (t : Ty) (hp : isProper t = false) (v : Value) (w : World) (hv : V w t v) : Calls Try.prog 3 #[v] w fun e w' => e = .returned (.bool true) ∧ Below w.heap.size w w' := by
  have hs := fun W (h : Below w.heap.size w W) => Size_any t v W (hv.next h)
  have hk := fun W (h : Below w.heap.size w W) => Check_any t v W (hv.next h)
  have hq := fun W (h : Below w.heap.size w W) => proper_any t v W (hv.next h)
  rw [sizeV_bad hp] at hs
  rw [hp] at hk hq
  simp only [Bool.false_eq_true, if_false] at hk
  have HF := Lib.hid (fun W (h : Below w.heap.size w W) => Free_bad t hp v W (hv.next h))
  have HM := Lib.hid (fun W (h : Below w.heap.size w W) => Metas_bad t hp v W (hv.next h))
  have HR := Lib.hid (fun W (h : Below w.heap.size w W) => Rigids_bad t hp v W (hv.next h))
  have HS := Lib.hid hs
  have HK := Lib.hid hk
  have HP := Lib.hid hq
  clear hs hk hq hp
  obtain ⟨b, c, ev, _, _⟩ := hv
  subst ev
  have hb1 : Below w.heap.size w (w.alloc (Obj.cells #[.int .i64 t.op, .int .i64 t.n, .string t.name, .slice b t.args.length c] 24)) := (Below.refl _ _).alloc (Nat.le_refl _) _
  have hbox := two_B4 (W := w) (v0 := .int .i64 t.op) (v1 := .int .i64 t.n) (v2 := .string t.name) (v3 := .slice b t.args.length c)
  have HB0 := Lib.hid hb1
  have X0 := Lib.hid hbox
  clear hb1 hbox
  generalize t.op = oa at *
  generalize t.n = na at *
  generalize t.name = sa at *
  generalize t.args.length = la at *
  go_enter Try.func3, Try.ntmps3
  go_upto_region 1 with fail
  obtain ⟨W0, hW⟩ : ∃ W0, W0 = w.alloc (Obj.cells #[.int .i64 oa, .int .i64 na, .string sa, .slice b la c] 24) := ⟨_, rfl⟩
  rw [← hW] at HB0 X0 ⊢
  clear hW
  obtain ⟨c0, c1, c2, c3⟩ := X0.out.cells
  go_wp2_with fail
  refine (HF.out _ HB0.out).mono ?_
  rintro e w1 ⟨rfl, hb⟩
  have HB1 := Lib.hid (HB0.out.trans (hb.mono HB0.out.size))
  have X1 := Lib.hid (X0.out.next hb)
  clear hb c0 c1 c2 c3 HB0 X0
  obtain ⟨c0, c1, c2, c3⟩ := X1.out.cells
  go_wp2_with fail
  refine (HM.out _ HB1.out).mono ?_
  rintro e w2 ⟨rfl, hb⟩
  have HB2 := Lib.hid (HB1.out.trans (hb.mono HB1.out.size))
  have X2 := Lib.hid (X1.out.next hb)
  clear hb c0 c1 c2 c3 HB1 X1
  obtain ⟨c0, c1, c2, c3⟩ := X2.out.cells
  go_wp2_with fail
  refine (HR.out _ HB2.out).mono ?_
  rintro e w3 ⟨rfl, hb⟩
  have HB3 := Lib.hid (HB2.out.trans (hb.mono HB2.out.size))
  have X3 := Lib.hid (X2.out.next hb)
  clear hb c0 c1 c2 c3 HB2 X2
  obtain ⟨c0, c1, c2, c3⟩ := X3.out.cells
  go_wp2_with fail
  refine (HS.out _ HB3.out).mono ?_
  rintro e w4 ⟨rfl, hb⟩
  have HB4 := Lib.hid (HB3.out.trans (hb.mono HB3.out.size))
  have X4 := Lib.hid (X3.out.next hb)
  clear hb c0 c1 c2 c3 HB3 X3
  obtain ⟨c0, c1, c2, c3⟩ := X4.out.cells
  go_wp2_with fail
  refine (HK.out _ HB4.out).mono ?_
  rintro e w5 ⟨rfl, hb⟩
  have HB5 := Lib.hid (HB4.out.trans (hb.mono HB4.out.size))
  have X5 := Lib.hid (X4.out.next hb)
  clear hb c0 c1 c2 c3 HB4 X4
  obtain ⟨c0, c1, c2, c3⟩ := X5.out.cells
  go_wp2_with fail
  refine (HP.out _ HB5.out).mono ?_
  rintro e w6 ⟨rfl, hb⟩
  have HB6 := Lib.hid (HB5.out.trans (hb.mono HB5.out.size))
  have X6 := Lib.hid (X5.out.next hb)
  clear hb c0 c1 c2 c3 HB5 X5
  obtain ⟨c0, c1, c2, c3⟩ := X6.out.cells
  go_wp2_with fail
  refine (awake_any _).mono ?_
  rintro e w7 ⟨rfl, hb⟩
  have HB7 := Lib.hid (HB6.out.trans (hb.mono HB6.out.size))
  have X7 := Lib.hid (X6.out.next hb)
  clear hb c0 c1 c2 c3 HB6 X6
  obtain ⟨c0, c1, c2, c3⟩ := X7.out.cells
  go_wp2_with fail
  go_ret
  exact ⟨rfl, HB7.out⟩

theorem rsame_eq (l : List Int) (b b' : Option Addr) (c c' : Nat) (w : World) (h : ISl w b l) (h' : ISl w b' l) : Calls Try.prog 19 #[.slice b l.length c, .slice b' l.length c'] w fun e w' => e = .returned (.bool true) ∧ Below w.heap.size w w' := by
  have := rsameInts_any l l b b' c c' w h h'
  rwa [sameI_refl] at this

set_option maxHeartbeats 16000000 in
theorem checks_ok (t : Ty) (hp : isProper t = true) (v : Value) (w : World) (hv : V w t v) : Calls Try.prog 3 #[v] w fun e w' => e = .returned (.bool true) ∧ Below w.heap.size w w' := by
  have hg := Good.of hp
  have hn := proper_nodes t hp
  have hs := fun W (h : Below w.heap.size w W) => Size_any t v W (hv.next h)
  have hk := fun W (h : Below w.heap.size w W) => Check_any t v W (hv.next h)
  have hq := fun W (h : Below w.heap.size w W) => proper_any t v W (hv.next h)
  have hz := fun W (h : Below w.heap.size w W) => size_any t v W (hv.next h) (by omega)
  rw [sizeV_ok hp] at hs
  rw [hp] at hk hq
  simp only [if_true] at hk
  have hf := fun W (h : Below w.heap.size w W) => Free_ok t hp v W (hv.next h)
  have hm := fun W (h : Below w.heap.size w W) => Metas_ok t hp v W (hv.next h)
  have hr := fun W (h : Below w.heap.size w W) => Rigids_ok t hp v W (hv.next h)
  have rf := fun W (h : Below w.heap.size w W) => RFree_any t hg hn v W (hv.next h)
  have rm := fun W (h : Below w.heap.size w W) => RMetas_any t hg hn v W (hv.next h)
  have rr := fun W (h : Below w.heap.size w W) => RRigids_any t hg hn v W (hv.next h)
  have hl1 := colT_len 1 hg hn
  have hl2 := colT_len 6 hg hn
  have hl3 := colT_len 7 hg hn
  generalize colT 1 t = L1 at *
  generalize colT 6 t = L2 at *
  generalize colT 7 t = L3 at *
  generalize nodes t = nn at *
  have HF := Lib.hid hf
  have HM := Lib.hid hm
  have HR := Lib.hid hr
  have RF := Lib.hid rf
  have RM := Lib.hid rm
  have RR := Lib.hid rr
  have HS := Lib.hid hs
  have HK := Lib.hid hk
  have HP := Lib.hid hq
  have HZ := Lib.hid hz
  have HL1 := Lib.hid hl1
  have HL2 := Lib.hid hl2
  have HL3 := Lib.hid hl3
  clear hs hk hq hp hg hn hz hf hm hr rf rm rr hl1 hl2 hl3
  obtain ⟨b, c, ev, _, _⟩ := hv
  subst ev
  have hb1 : Below w.heap.size w (w.alloc (Obj.cells #[.int .i64 t.op, .int .i64 t.n, .string t.name, .slice b t.args.length c] 24)) := (Below.refl _ _).alloc (Nat.le_refl _) _
  have hbox := two_B4 (W := w) (v0 := .int .i64 t.op) (v1 := .int .i64 t.n) (v2 := .string t.name) (v3 := .slice b t.args.length c)
  have HB0 := Lib.hid hb1
  have X0 := Lib.hid hbox
  clear hb1 hbox
  generalize t.op = oa at *
  generalize t.n = na at *
  generalize t.name = sa at *
  generalize t.args.length = la at *
  go_enter Try.func3, Try.ntmps3
  go_upto_region 1 with fail
  obtain ⟨W0, hW⟩ : ∃ W0, W0 = w.alloc (Obj.cells #[.int .i64 oa, .int .i64 na, .string sa, .slice b la c] 24) := ⟨_, rfl⟩
  rw [← hW] at HB0 X0 ⊢
  clear hW
  obtain ⟨c0, c1, c2, c3⟩ := X0.out.cells
  go_wp2_with fail
  refine (HF.out _ HB0.out).mono ?_
  rintro e w1 ⟨rv, rfl, ho, hb⟩
  obtain ⟨b1, k1, rfl, hs1⟩ := ho.isl HL1.out
  clear ho
  have S1 := Lib.hid hs1
  clear hs1
  have HB1 := Lib.hid (HB0.out.trans (hb.mono HB0.out.size))
  have X1 := Lib.hid (X0.out.next hb)
  clear hb c0 c1 c2 c3 HB0 X0
  obtain ⟨c0, c1, c2, c3⟩ := X1.out.cells
  go_wp2_with fail
  refine (HM.out _ HB1.out).mono ?_
  rintro e w2 ⟨rv, rfl, ho, hb⟩
  obtain ⟨b2, k2, rfl, hs2⟩ := ho.isl HL2.out
  clear ho
  have S2 := Lib.hid hs2
  clear hs2
  have HB2 := Lib.hid (HB1.out.trans (hb.mono HB1.out.size))
  have X2 := Lib.hid (X1.out.next hb)
  have S1N := Lib.hid (S1.out.next hb)
  clear S1
  have S1 := Lib.hid S1N.out
  clear S1N
  clear hb c0 c1 c2 c3 HB1 X1
  obtain ⟨c0, c1, c2, c3⟩ := X2.out.cells
  go_wp2_with fail
  refine (HR.out _ HB2.out).mono ?_
  rintro e w3 ⟨rv, rfl, ho, hb⟩
  obtain ⟨b3, k3, rfl, hs3⟩ := ho.isl HL3.out
  clear ho
  have S3 := Lib.hid hs3
  clear hs3
  have HB3 := Lib.hid (HB2.out.trans (hb.mono HB2.out.size))
  have X3 := Lib.hid (X2.out.next hb)
  have S1N := Lib.hid (S1.out.next hb)
  clear S1
  have S1 := Lib.hid S1N.out
  clear S1N
  have S2N := Lib.hid (S2.out.next hb)
  clear S2
  have S2 := Lib.hid S2N.out
  clear S2N
  clear hb c0 c1 c2 c3 HB2 X2
  obtain ⟨c0, c1, c2, c3⟩ := X3.out.cells
  go_wp2_with fail
  refine (HS.out _ HB3.out).mono ?_
  rintro e w4 ⟨rfl, hb⟩
  have HB4 := Lib.hid (HB3.out.trans (hb.mono HB3.out.size))
  have X4 := Lib.hid (X3.out.next hb)
  have S1N := Lib.hid (S1.out.next hb)
  clear S1
  have S1 := Lib.hid S1N.out
  clear S1N
  have S2N := Lib.hid (S2.out.next hb)
  clear S2
  have S2 := Lib.hid S2N.out
  clear S2N
  have S3N := Lib.hid (S3.out.next hb)
  clear S3
  have S3 := Lib.hid S3N.out
  clear S3N
  clear hb c0 c1 c2 c3 HB3 X3
  obtain ⟨c0, c1, c2, c3⟩ := X4.out.cells
  go_wp2_with fail
  refine (HK.out _ HB4.out).mono ?_
  rintro e w5 ⟨rfl, hb⟩
  have HB5 := Lib.hid (HB4.out.trans (hb.mono HB4.out.size))
  have X5 := Lib.hid (X4.out.next hb)
  have S1N := Lib.hid (S1.out.next hb)
  clear S1
  have S1 := Lib.hid S1N.out
  clear S1N
  have S2N := Lib.hid (S2.out.next hb)
  clear S2
  have S2 := Lib.hid S2N.out
  clear S2N
  have S3N := Lib.hid (S3.out.next hb)
  clear S3
  have S3 := Lib.hid S3N.out
  clear S3N
  clear hb c0 c1 c2 c3 HB4 X4
  obtain ⟨c0, c1, c2, c3⟩ := X5.out.cells
  go_wp2_with fail
  refine (HP.out _ HB5.out).mono ?_
  rintro e w6 ⟨rfl, hb⟩
  have HB6 := Lib.hid (HB5.out.trans (hb.mono HB5.out.size))
  have X6 := Lib.hid (X5.out.next hb)
  have S1N := Lib.hid (S1.out.next hb)
  clear S1
  have S1 := Lib.hid S1N.out
  clear S1N
  have S2N := Lib.hid (S2.out.next hb)
  clear S2
  have S2 := Lib.hid S2N.out
  clear S2N
  have S3N := Lib.hid (S3.out.next hb)
  clear S3
  have S3 := Lib.hid S3N.out
  clear S3N
  clear hb c0 c1 c2 c3 HB5 X5
  obtain ⟨c0, c1, c2, c3⟩ := X6.out.cells
  go_wp2_with fail
  refine (RF.out _ HB6.out).mono ?_
  rintro e w7 ⟨rv, rfl, ho, hb⟩
  obtain ⟨rb1, rk1, rfl, hs1⟩ := ho.isl HL1.out
  clear ho
  have T1 := Lib.hid hs1
  clear hs1
  have HB7 := Lib.hid (HB6.out.trans (hb.mono HB6.out.size))
  have X7 := Lib.hid (X6.out.next hb)
  have S1N := Lib.hid (S1.out.next hb)
  clear S1
  have S1 := Lib.hid S1N.out
  clear S1N
  have S2N := Lib.hid (S2.out.next hb)
  clear S2
  have S2 := Lib.hid S2N.out
  clear S2N
  have S3N := Lib.hid (S3.out.next hb)
  clear S3
  have S3 := Lib.hid S3N.out
  clear S3N
  clear hb c0 c1 c2 c3 HB6 X6
  obtain ⟨c0, c1, c2, c3⟩ := X7.out.cells
  go_wp2_with fail
  refine (rsame_eq L1 b1 rb1 k1 rk1 _ S1.out T1.out).mono ?_
  rintro e w8 ⟨rfl, hb⟩
  have HB8 := Lib.hid (HB7.out.trans (hb.mono HB7.out.size))
  have X8 := Lib.hid (X7.out.next hb)
  have S1N := Lib.hid (S1.out.next hb)
  clear S1
  have S1 := Lib.hid S1N.out
  clear S1N
  have S2N := Lib.hid (S2.out.next hb)
  clear S2
  have S2 := Lib.hid S2N.out
  clear S2N
  have S3N := Lib.hid (S3.out.next hb)
  clear S3
  have S3 := Lib.hid S3N.out
  clear S3N
  clear hb c0 c1 c2 c3 HB7 X7
  obtain ⟨c0, c1, c2, c3⟩ := X8.out.cells
  clear T1
  go_wp2_with fail
  refine (RM.out _ HB8.out).mono ?_
  rintro e w9 ⟨rv, rfl, ho, hb⟩
  obtain ⟨rb2, rk2, rfl, hs2⟩ := ho.isl HL2.out
  clear ho
  have T2 := Lib.hid hs2
  clear hs2
  have HB9 := Lib.hid (HB8.out.trans (hb.mono HB8.out.size))
  have X9 := Lib.hid (X8.out.next hb)
  have S1N := Lib.hid (S1.out.next hb)
  clear S1
  have S1 := Lib.hid S1N.out
  clear S1N
  have S2N := Lib.hid (S2.out.next hb)
  clear S2
  have S2 := Lib.hid S2N.out
  clear S2N
  have S3N := Lib.hid (S3.out.next hb)
  clear S3
  have S3 := Lib.hid S3N.out
  clear S3N
  clear hb c0 c1 c2 c3 HB8 X8
  obtain ⟨c0, c1, c2, c3⟩ := X9.out.cells
  go_wp2_with fail
  refine (rsame_eq L2 b2 rb2 k2 rk2 _ S2.out T2.out).mono ?_
  rintro e w10 ⟨rfl, hb⟩
  have HB10 := Lib.hid (HB9.out.trans (hb.mono HB9.out.size))
  have X10 := Lib.hid (X9.out.next hb)
  have S1N := Lib.hid (S1.out.next hb)
  clear S1
  have S1 := Lib.hid S1N.out
  clear S1N
  have S2N := Lib.hid (S2.out.next hb)
  clear S2
  have S2 := Lib.hid S2N.out
  clear S2N
  have S3N := Lib.hid (S3.out.next hb)
  clear S3
  have S3 := Lib.hid S3N.out
  clear S3N
  clear hb c0 c1 c2 c3 HB9 X9
  obtain ⟨c0, c1, c2, c3⟩ := X10.out.cells
  clear T2
  go_wp2_with fail
  refine (RR.out _ HB10.out).mono ?_
  rintro e w11 ⟨rv, rfl, ho, hb⟩
  obtain ⟨rb3, rk3, rfl, hs3⟩ := ho.isl HL3.out
  clear ho
  have T3 := Lib.hid hs3
  clear hs3
  have HB11 := Lib.hid (HB10.out.trans (hb.mono HB10.out.size))
  have X11 := Lib.hid (X10.out.next hb)
  have S1N := Lib.hid (S1.out.next hb)
  clear S1
  have S1 := Lib.hid S1N.out
  clear S1N
  have S2N := Lib.hid (S2.out.next hb)
  clear S2
  have S2 := Lib.hid S2N.out
  clear S2N
  have S3N := Lib.hid (S3.out.next hb)
  clear S3
  have S3 := Lib.hid S3N.out
  clear S3N
  clear hb c0 c1 c2 c3 HB10 X10
  obtain ⟨c0, c1, c2, c3⟩ := X11.out.cells
  go_wp2_with fail
  refine (rsame_eq L3 b3 rb3 k3 rk3 _ S3.out T3.out).mono ?_
  rintro e w12 ⟨rfl, hb⟩
  have HB12 := Lib.hid (HB11.out.trans (hb.mono HB11.out.size))
  have X12 := Lib.hid (X11.out.next hb)
  have S1N := Lib.hid (S1.out.next hb)
  clear S1
  have S1 := Lib.hid S1N.out
  clear S1N
  have S2N := Lib.hid (S2.out.next hb)
  clear S2
  have S2 := Lib.hid S2N.out
  clear S2N
  have S3N := Lib.hid (S3.out.next hb)
  clear S3
  have S3 := Lib.hid S3N.out
  clear S3N
  clear hb c0 c1 c2 c3 HB11 X11
  obtain ⟨c0, c1, c2, c3⟩ := X12.out.cells
  clear T3
  go_wp2_with fail
  refine (HZ.out _ HB12.out).mono ?_
  rintro e w13 ⟨rfl, hb⟩
  have HB13 := Lib.hid (HB12.out.trans (hb.mono HB12.out.size))
  have X13 := Lib.hid (X12.out.next hb)
  have S1N := Lib.hid (S1.out.next hb)
  clear S1
  have S1 := Lib.hid S1N.out
  clear S1N
  have S2N := Lib.hid (S2.out.next hb)
  clear S2
  have S2 := Lib.hid S2N.out
  clear S2N
  have S3N := Lib.hid (S3.out.next hb)
  clear S3
  have S3 := Lib.hid S3N.out
  clear S3N
  clear hb c0 c1 c2 c3 HB12 X12
  obtain ⟨c0, c1, c2, c3⟩ := X13.out.cells
  go_wp2_with fail
  refine (awake_any _).mono ?_
  rintro e w14 ⟨rfl, hb⟩
  have HB14 := Lib.hid (HB13.out.trans (hb.mono HB13.out.size))
  have X14 := Lib.hid (X13.out.next hb)
  have S1N := Lib.hid (S1.out.next hb)
  clear S1
  have S1 := Lib.hid S1N.out
  clear S1N
  have S2N := Lib.hid (S2.out.next hb)
  clear S2
  have S2 := Lib.hid S2N.out
  clear S2N
  have S3N := Lib.hid (S3.out.next hb)
  clear S3
  have S3 := Lib.hid S3N.out
  clear S3N
  clear hb c0 c1 c2 c3 HB13 X13
  obtain ⟨c0, c1, c2, c3⟩ := X14.out.cells
  go_wp2_with fail
  go_ret
  exact ⟨rfl, HB14.out⟩

theorem law_checks (t : Ty) (v : Value) (w : World) (hv : V w t v) : Calls Try.prog 3 #[v] w fun e w' => e = .returned (.bool true) ∧ Below w.heap.size w w' := by
  cases hp : isProper t with
  | false => exact checks_bad t hp v w hv
  | true => exact checks_ok t hp v w hv
end Ty
end Go.Proofs.Ytkedhnahgpmkaaa
