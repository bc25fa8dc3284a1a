/- The law TypesPuts: its walk. Conditions: as named in the theorem. -/
import Derived.Test.YtkedhnahgpmkaaaTyStep
import Derived.Test.YtkedhnahgpmkaaaTyPut
namespace Go.Proofs.Ytkedhnahgpmkaaa
open Go.RowKit

namespace Ty
theorem ls_next5 {V0 W W' : World} {T : Nat} {r0 r1 r2 r3 : Value}
    (h : Hid (Below V0.heap.size V0 W) ∧ W.cell? ⟨T, 0, none⟩ = some r0 ∧ W.cell? ⟨T, 1, none⟩ = some r1 ∧ W.cell? ⟨T, 2, none⟩ = some r2 ∧ W.cell? ⟨T, 3, none⟩ = some r3) (hb : Below W.heap.size W W') :
    Hid (Below V0.heap.size V0 W') ∧ W'.cell? ⟨T, 0, none⟩ = some r0 ∧ W'.cell? ⟨T, 1, none⟩ = some r1 ∧ W'.cell? ⟨T, 2, none⟩ = some r2 ∧ W'.cell? ⟨T, 3, none⟩ = some r3 := by
  obtain ⟨b, k0, k1, k2, k3⟩ := h
  exact ⟨Lib.hid (b.out.trans (hb.mono b.out.size)), keeps hb _ _ k0, keeps hb _ _ k1, keeps hb _ _ k2, keeps hb _ _ k3⟩

theorem below_da (W : World) (o : Obj) : Below W.drew.heap.size W.drew (W.alloc o).drew := (Below.refl _ W.drew).alloc (Nat.le_refl _) o
theorem own_d1 {W : World} {base g : Nat} (hg : W.heap.size = g) (hb : base ≤ g) : (W.alloc (.cells #[] 24)).drew.ownsRow base 24 4 (.slice (some ⟨g, 0, none⟩) 0 0) 0 [] := own_made hg hb
theorem own_d2 {W : World} {o : Obj} {base g : Nat} (hg : W.heap.size = g) (hb : base ≤ g) : ((W.alloc (.cells #[] 24)).alloc o).drew.ownsRow base 24 4 (.slice (some ⟨g, 0, none⟩) 0 0) 0 [] := (own_made hg hb).alloc o
theorem ls_put5 {V0 W : World} {T B : Nat} {r0 r1 r2 r3 : Value} (v0 v1 v2 v3 : Value)
    (h : Hid (Below V0.heap.size V0 W) ∧ W.cell? ⟨T, 0, none⟩ = some r0 ∧ W.cell? ⟨T, 1, none⟩ = some r1 ∧ W.cell? ⟨T, 2, none⟩ = some r2 ∧ W.cell? ⟨T, 3, none⟩ = some r3) (hB : V0.heap.size ≤ B) (hT : T ≠ B) :
    Hid (Below V0.heap.size V0 ((((W.setCell ⟨B, 0, none⟩ v0).setCell ⟨B, 1, none⟩ v1).setCell ⟨B, 2, none⟩ v2).setCell ⟨B, 3, none⟩ v3)) ∧ ((((W.setCell ⟨B, 0, none⟩ v0).setCell ⟨B, 1, none⟩ v1).setCell ⟨B, 2, none⟩ v2).setCell ⟨B, 3, none⟩ v3).cell? ⟨T, 0, none⟩ = some r0 ∧ ((((W.setCell ⟨B, 0, none⟩ v0).setCell ⟨B, 1, none⟩ v1).setCell ⟨B, 2, none⟩ v2).setCell ⟨B, 3, none⟩ v3).cell? ⟨T, 1, none⟩ = some r1 ∧ ((((W.setCell ⟨B, 0, none⟩ v0).setCell ⟨B, 1, none⟩ v1).setCell ⟨B, 2, none⟩ v2).setCell ⟨B, 3, none⟩ v3).cell? ⟨T, 2, none⟩ = some r2 ∧ ((((W.setCell ⟨B, 0, none⟩ v0).setCell ⟨B, 1, none⟩ v1).setCell ⟨B, 2, none⟩ v2).setCell ⟨B, 3, none⟩ v3).cell? ⟨T, 3, none⟩ = some r3 := by
  obtain ⟨b, k0, k1, k2, k3⟩ := h
  exact ⟨Lib.hid (below_put4 b.out hB _ _ _ _), put4_keep _ _ _ _ _ _ k0 hT, put4_keep _ _ _ _ _ _ k1 hT, put4_keep _ _ _ _ _ _ k2 hT, put4_keep _ _ _ _ _ _ k3 hT⟩
theorem ls_swap5 {V0 W : World} {o o' : Obj} {T : Nat} {r0 r1 r2 r3 : Value}
    (h : Hid (Below V0.heap.size V0 (W.alloc o)) ∧ (W.alloc o).cell? ⟨T, 0, none⟩ = some r0 ∧ (W.alloc o).cell? ⟨T, 1, none⟩ = some r1 ∧ (W.alloc o).cell? ⟨T, 2, none⟩ = some r2 ∧ (W.alloc o).cell? ⟨T, 3, none⟩ = some r3) (hs : V0.heap.size ≤ W.heap.size) (hT : T < V0.heap.size) :
    Hid (Below V0.heap.size V0 (W.alloc o')) ∧ (W.alloc o').cell? ⟨T, 0, none⟩ = some r0 ∧ (W.alloc o').cell? ⟨T, 1, none⟩ = some r1 ∧ (W.alloc o').cell? ⟨T, 2, none⟩ = some r2 ∧ (W.alloc o').cell? ⟨T, 3, none⟩ = some r3 := by
  obtain ⟨b, k0, k1, k2, k3⟩ := h
  have hT' : T < W.heap.size := by omega
  refine ⟨Lib.hid ⟨b.out.os, b.out.tape, b.out.output, by simp; omega, fun j hj => ?_⟩, swap_cell hT' k0, swap_cell hT' k1, swap_cell hT' k2, swap_cell hT' k3⟩
  have hj' : j < W.heap.size := by omega
  exact ((Below.heap_alloc W o' j hj').trans (Below.heap_alloc W o j hj').symm).trans (b.out.block j hj)
/-- the result's box, made ahead of the new slice or behind it, stands still while the slice grows -/
theorem box_a {W w7 : World} {g : Nat} (hg : ((W.alloc (Obj.cells #[.int .i64 0, .int .i64 0, .string ⟨#[]⟩, .slice none 0 0] 24)).alloc (Obj.cells #[] 24)).drew.grownBy w7 (some g)) (hne : W.heap.size ≠ g) : B4 w7 W.heap.size (.int .i64 0) (.int .i64 0) (.string ⟨#[]⟩) (.slice none 0 0) := by
  have h1 : ((W.alloc (Obj.cells #[.int .i64 0, .int .i64 0, .string ⟨#[]⟩, .slice none 0 0] 24)).alloc (Obj.cells #[] 24)).heap[W.heap.size]? = some (Obj.cells #[.int .i64 0, .int .i64 0, .string ⟨#[]⟩, .slice none 0 0] 24) := (heap_alloc_old _ _ (by simp)).trans (heap_alloc_new W (Obj.cells #[.int .i64 0, .int .i64 0, .string ⟨#[]⟩, .slice none 0 0] 24))
  exact (hg.block _ (lt_of_block h1) (fun e => hne (by injection e))).trans h1
theorem box_b {W w7 : World} {g : Nat} (hg : ((W.alloc (Obj.cells #[] 24)).alloc (Obj.cells #[.int .i64 0, .int .i64 0, .string ⟨#[]⟩, .slice none 0 0] 24)).drew.grownBy w7 (some g)) (hne : W.heap.size + 1 ≠ g) : B4 w7 (W.heap.size + 1) (.int .i64 0) (.int .i64 0) (.string ⟨#[]⟩) (.slice none 0 0) := by
  have h1 : ((W.alloc (Obj.cells #[] 24)).alloc (Obj.cells #[.int .i64 0, .int .i64 0, .string ⟨#[]⟩, .slice none 0 0] 24)).heap[W.heap.size + 1]? = some (Obj.cells #[.int .i64 0, .int .i64 0, .string ⟨#[]⟩, .slice none 0 0] 24) := by
    have h := heap_alloc_new (W.alloc (Obj.cells #[] 24)) (Obj.cells #[.int .i64 0, .int .i64 0, .string ⟨#[]⟩, .slice none 0 0] 24)
    rwa [show (W.alloc (Obj.cells #[] 24)).heap.size = W.heap.size + 1 from by simp] at h
  exact (hg.block _ (lt_of_block h1) (fun e => hne (by injection e))).trans h1

set_option maxRecDepth 100000 in
set_option maxHeartbeats 8000000 in
theorem puts_walk (t rr : Ty) (n2 : Int) (l : List Ty) (base : Option Addr) (cap : Nat) (v : Value) (w : World) (hv : V w t v) (hl : Sl w base l) (hn : l.length ≤ 2513169434843)
    (hput : ∀ (W : World) (bb : Option Addr) (cap' : Nat), Below w.heap.size w W → Sl W bb l → Calls Try.prog 29 #[v, .slice bb l.length cap'] W fun e w' => ∃ v', e = .returned (.tuple #[v', .int .i64 n2]) ∧ VO (W.heap.size ≤ ·) w' rr v' ∧ Below W.heap.size W w')
    (hq : (isProper t && propersT l) = false ∧ same rr zeroT = true ∧ n2 = 2 ∨ isProper t = true ∧ propersT l = true ∧ ∃ ru, wholeT rr n2 ru = true ∧ ∀ (W : World), Below w.heap.size w W → Calls Try.prog 31 #[v, .slice base l.length cap] W (RetF ru W)) :
    Calls Try.prog 5 #[v, .slice base l.length cap] w fun e w' => e = .returned (.bool true) ∧ Below w.heap.size w w' := by
  have hpr := fun W (hb : Below w.heap.size w W) => proper_any t v W (hv.next hb)
  have hpl := fun W (hb : Below w.heap.size w W) => propers_any l base cap W (hl.next hb)
  have HPR := Lib.hid hpr
  have HPL := Lib.hid hpl
  have HPUT := Lib.hid hput
  have HQ := Lib.hid hq
  clear hpr hpl hput hq
  generalize hp : isProper t = p at *
  generalize hp2 : propersT l = p2 at *
  clear hp hp2
  obtain ⟨b, c, ev, hsv, hlv⟩ := hv
  subst ev
  have hb1 : Below w.heap.size w (w.alloc (Obj.cells #[.int .i64 t.op, .int .i64 t.n, .string t.name, .slice b t.args.length c] 24)) := (Below.refl _ _).alloc (Nat.le_refl _) _
  have ht3 : B4 (w.alloc (Obj.cells #[.int .i64 t.op, .int .i64 t.n, .string t.name, .slice b t.args.length c] 24)) w.heap.size (.int .i64 t.op) (.int .i64 t.n) (.string t.name) (.slice b t.args.length c) := heap_alloc_new _ _
  have HB1 := Lib.hid hb1.drew
  have HT0 := Lib.hid (show B4 (w.alloc (Obj.cells #[.int .i64 t.op, .int .i64 t.n, .string t.name, .slice b t.args.length c] 24)).drew w.heap.size (.int .i64 t.op) (.int .i64 t.n) (.string t.name) (.slice b t.args.length c) from ht3)
  have HT3 := Lib.hid ht3
  have HSZ : Hid ((w.alloc (Obj.cells #[.int .i64 t.op, .int .i64 t.n, .string t.name, .slice b t.args.length c] 24)).drew.heap.size = w.heap.size + 1) := Lib.hid (by simp)
  clear hb1 ht3 hsv hlv
  generalize hln : l.length = la at *
  have HLN := Lib.hid hln
  have HN := Lib.hid hn
  have HSL := Lib.hid (hl.next HB1.out)
  clear hln hn hl
  go_enter Try.func5, Try.ntmps5
  go_upto_region 1 with fail
  obtain ⟨W1, hW1⟩ : ∃ W1, W1 = w.alloc (Obj.cells #[.int .i64 t.op, .int .i64 t.n, .string t.name, .slice b t.args.length c] 24) := ⟨_, rfl⟩
  rw [← hW1] at HB1 HT3 HT0 HSZ HSL ⊢
  obtain ⟨W0, hW0⟩ : ∃ W0, W0 = W1.drew := ⟨_, rfl⟩
  rw [← hW0] at HB1 HT0 HSZ HSL
  clear hW1
  go_cut [5, 6] (fun s5 s6 wx => ∃ (B : Nat) (b9 : Option Addr) (c9 : Nat), s5 = .pointer (some ⟨B, 0, none⟩) ∧ s6 = .int .i64 n2 ∧ Hid (B4 wx B (.int .i64 rr.op) (.int .i64 rr.n) (.string rr.name) (.slice b9 rr.args.length c9)) ∧ Hid (V wx rr (.agg #[.int .i64 rr.op, .int .i64 rr.n, .string rr.name, .slice b9 rr.args.length c9])) ∧ Hid (Below W0.heap.size W0 wx))
  case first =>
    obtain ⟨q0, q1, q2, q3⟩ := HT0.out.cells
    have HKB : Hid (Below W0.heap.size W0 W0) := Lib.hid (Below.refl _ _)
    have hsz0 := HSZ.out
    have hlt1 : w.heap.size < W0.heap.size := by omega
    have hle0 : W0.heap.size ≤ W0.heap.size := Nat.le_refl _
    have hle1 : W0.heap.size ≤ W0.heap.size + 1 := by omega
    have hne1 : w.heap.size ≠ W0.heap.size := by omega
    have hne2 : w.heap.size ≠ W0.heap.size + 1 := by omega
    rw [hW0] at HT0 HKB HSL HB1 q0 q1 q2 q3 hlt1 hle0 hle1 hne1 hne2
    clear hsz0 HSZ
    replace hle0 : W1.drew.heap.size ≤ W1.heap.size := Nat.le_refl _
    replace hle1 : W1.drew.heap.size ≤ W1.heap.size + 1 := Nat.le_succ _
    replace hne1 : w.heap.size ≠ W1.heap.size := hne1
    replace hne2 : w.heap.size ≠ W1.heap.size + 1 := hne2
    go_region_held3 (fun W => Hid (Below W1.drew.heap.size W1.drew W) ∧ W.cell? ⟨w.heap.size, 0, none⟩ = some (.int .i64 t.op) ∧ W.cell? ⟨w.heap.size, 1, none⟩ = some (.int .i64 t.n) ∧ W.cell? ⟨w.heap.size, 2, none⟩ = some (.string t.name) ∧ W.cell? ⟨w.heap.size, 3, none⟩ = some (.slice b t.args.length c))
      (first | (with_reducible exact ⟨HKB, q0, q1, q2, q3⟩) | (with_reducible assumption) | ((with_reducible refine ls_next5 ?_ hb); assumption) | ((with_reducible refine ls_next5 ?_ (below_da _ _)); assumption) | (with_reducible exact ls_next5 (W := W1.drew) ⟨HKB, q0, q1, q2, q3⟩ hbc) | ((with_reducible refine ls_next5 ?_ ((Below.refl _ _).alloc (Nat.le_refl _) _)); assumption) | ((with_reducible refine ls_put5 (B := W1.heap.size) _ _ _ _ ?_ hle0 hne1); assumption) | ((with_reducible refine ls_put5 (B := W1.heap.size + 1) _ _ _ _ ?_ hle1 hne2); assumption) | ((with_reducible refine ls_put5 (B := w7.heap.size) _ _ _ _ ?_ hsz7 hne7); assumption) | ((with_reducible refine ls_swap5 (o := Obj.cells #[.int .i64 0, .int .i64 0, .string ⟨#[]⟩, .slice none 0 0] 24) ?_ hszw hlt1); assumption))
      (first
      | (go_at_call 29; refine (HPUT.out _ _ _ (HB1.out.trans (Below.mono (Hid.out (And.left (by assumption))) HB1.out.size)) (by first | exact hs7 | exact hs7.next ((Below.refl _ _).alloc (Nat.le_refl _) _))).mono ?_; rintro e w6 ⟨v6, rfl, hvo, hb⟩; have hvo2 := Lib.hid hvo; obtain ⟨b9, c9, rfl, _, _⟩ := hvo; (have hszw : W1.drew.heap.size ≤ w6.heap.size := Nat.le_trans (Below.size (Hid.out (And.left (by assumption)))) hb.size); (try have HZC := Lib.hid (HZB.out.next hb)); (try have HZC := Lib.hid (box_next hb)); (try obtain ⟨e0, e1, e2, e3⟩ := HZC.out.cells); (try have f0 := HZC.out.frozen 0); (try have f1 := HZC.out.frozen 1); (try have f2 := HZC.out.frozen 2); (try have f3 := HZC.out.frozen 3))
      | (refine step_copy (w0 := W1.drew) (by rfl) _ _ (by rfl) (by rfl) (by first | exact own_d1 (by first | rfl | simp) (by first | exact Nat.le_refl _ | simp) | exact own_d2 (by first | rfl | simp) (by first | exact Nat.le_refl _ | simp)) (Hid.out (And.left (by assumption))) (by rfl) HLN.out HSL.out HN.out ?_; intro bb cap1 w7 hs7 hgr7 hbc; (have hsz7 : W1.drew.heap.size ≤ w7.heap.size := hbc.size); (have hne7 : w.heap.size ≠ w7.heap.size := (by omega)); (try have HZB := Lib.hid (box_a (W := W1) hgr7 (by first | omega | simp))); (try have HZB := Lib.hid (box_b (W := W1) hgr7 (by first | omega | simp)))))
    all_goals
      rename_i hHeld
      have HH := Lib.hid hHeld.1.out
      clear hHeld
      go_wp2_with fail
      go_meet
      subst hW0
      first
      | (have hzb := HZB.out; exact ⟨_, b9, c9, rfl, rfl, Lib.hid (put4_cells HZC.out _ _ _ _), Lib.hid (fin_p hsz7 (lt_of_block hzb) hvo2.out _ _ _ _).weak, HH⟩)
      | (have hzc := HZC.out; exact ⟨w7.heap.size, b9, c9, rfl, rfl, Lib.hid (put4_cells hzc _ _ _ _), Lib.hid (fin_p (V0 := W1.drew) (W5 := w7.alloc (Obj.cells #[.int .i64 0, .int .i64 0, .string ⟨#[]⟩, .slice none 0 0] 24)) (Nat.le_trans hsz7 (by simp)) (by simp) hvo2.out _ _ _ _).weak, HH⟩)
      | exact ⟨w6.heap.size, b9, c9, rfl, rfl, Lib.hid (heap_alloc_new _ _), Lib.hid (fin_c hsz7 hvo2.out _).weak, HH⟩
  case rest =>
  obtain ⟨B, b9, c9, rfl, rfl, HBX, HVX, HBL⟩ := hcut
  clear hW0 HT3
  have HBa := Lib.hid (HB1.out.trans (HBL.out.mono HB1.out.size))
  have HTa := Lib.hid (HT0.out.next HBL.out)
  clear HBL HT0 HB1
  obtain ⟨u, hu⟩ : ∃ u, u = wc := ⟨_, rfl⟩
  rw [← hu] at HBX HVX HBa HTa ⊢
  clear hu
  obtain ⟨t0, t1, t2, t3⟩ := HTa.out.cells
  go_wp2_with fail
  refine (HPR.out u HBa.out).mono ?_
  rintro e w4 ⟨rfl, hb⟩
  have HB4 := Lib.hid (HBa.out.trans (hb.mono HBa.out.size))
  have HBX4 := Lib.hid (HBX.out.next hb)
  have HVX4 := Lib.hid (HVX.out.next hb)
  have HT4 := Lib.hid (HTa.out.next hb)
  clear hb HBX HVX HBa HTa t0 t1 t2 t3
  rcases HQ.out with ⟨hpq, hz, hn2⟩ | ⟨hp, hp2, ru, hw, hru⟩
  · have HZ := Lib.hid hz
    subst hn2
    clear HQ hz
    obtain ⟨t0, t1, t2, t3⟩ := HBX4.out.cells
    cases p with
    | false =>
      clear hpq
      go_wp2_with fail
      refine (zero_any rr _ _ HVX4.out).mono ?_
      rintro e w6 ⟨rfl, hb⟩
      rw [HZ.out]
      have HB6 := Lib.hid (HB4.out.trans (hb.mono HB4.out.size))
      clear hb
      go_wp2_with fail
      refine (awake_any w6).mono ?_
      rintro e w7 ⟨rfl, hb⟩
      have HB7 := Lib.hid (HB6.out.trans (hb.mono HB6.out.size))
      clear hb HB6
      go_wp2_with fail
      go_ret
      exact ⟨rfl, HB7.out⟩
    | true =>
      obtain rfl : p2 = false := by simpa using hpq
      clear hpq
      go_wp2_with fail
      refine (HPL.out w4 HB4.out).mono ?_
      rintro e w5 ⟨rfl, hb⟩
      have HB5 := Lib.hid (HB4.out.trans (hb.mono HB4.out.size))
      have HVX5 := Lib.hid (HVX4.out.next hb)
      obtain ⟨s0, s1, s2, s3⟩ := (HBX4.out.next hb).cells
      clear hb t0 t1 t2 t3
      go_wp2_with fail
      refine (zero_any rr _ _ HVX5.out).mono ?_
      rintro e w6 ⟨rfl, hb⟩
      rw [HZ.out]
      have HB6 := Lib.hid (HB5.out.trans (hb.mono HB5.out.size))
      clear hb
      go_wp2_with fail
      refine (awake_any w6).mono ?_
      rintro e w7 ⟨rfl, hb⟩
      have HB7 := Lib.hid (HB6.out.trans (hb.mono HB6.out.size))
      clear hb HB6
      go_wp2_with fail
      go_ret
      exact ⟨rfl, HB7.out⟩
  · subst hp hp2
    have HW := Lib.hid hw
    have HRU := Lib.hid hru
    clear HQ hw hru
    go_wp2_with fail
    refine (HPL.out w4 HB4.out).mono ?_
    rintro e w5 ⟨rfl, hb⟩
    have HB5 := Lib.hid (HB4.out.trans (hb.mono HB4.out.size)).drew
    have HVX5 := Lib.hid (HVX4.out.next hb.drew)
    have HBX5 := Lib.hid (HBX4.out.next hb.drew)
    have HT5 := Lib.hid (HT4.out.next hb.drew)
    clear hb HB4 HVX4 HBX4 HT4
    go_upto_region 4 with fail
    obtain ⟨W5, hW5⟩ : ∃ W5, W5 = w5.drew := ⟨_, rfl⟩
    have HVX6 : Hid (V W5 rr (.agg #[.int .i64 rr.op, .int .i64 rr.n, .string rr.name, .slice b9 rr.args.length c9])) := by rw [hW5]; exact HVX5
    have HBX6 : Hid (B4 W5 B (.int .i64 rr.op) (.int .i64 rr.n) (.string rr.name) (.slice b9 rr.args.length c9)) := by rw [hW5]; exact HBX5
    have HT6 : Hid (B4 W5 w.heap.size (.int .i64 t.op) (.int .i64 t.n) (.string t.name) (.slice b t.args.length c)) := by rw [hW5]; exact HT5
    rw [← hW5] at HB5
    have HK5 : Hid (Below W5.heap.size W5 w5.drew) := by rw [hW5]; exact Lib.hid (Below.refl _ _)
    have K0 : w5.drew.cell? ⟨w.heap.size, 0, none⟩ = some (.int .i64 t.op) := by rw [← hW5]; exact HT6.out.cells.1
    have K1 : w5.drew.cell? ⟨w.heap.size, 1, none⟩ = some (.int .i64 t.n) := by rw [← hW5]; exact HT6.out.cells.2.1
    have K2 : w5.drew.cell? ⟨w.heap.size, 2, none⟩ = some (.string t.name) := by rw [← hW5]; exact HT6.out.cells.2.2.1
    have K3 : w5.drew.cell? ⟨w.heap.size, 3, none⟩ = some (.slice b t.args.length c) := by rw [← hW5]; exact HT6.out.cells.2.2.2
    have L0 : w5.drew.cell? ⟨B, 0, none⟩ = some (.int .i64 rr.op) := by rw [← hW5]; exact HBX6.out.cells.1
    have L1 : w5.drew.cell? ⟨B, 1, none⟩ = some (.int .i64 rr.n) := by rw [← hW5]; exact HBX6.out.cells.2.1
    have L2 : w5.drew.cell? ⟨B, 2, none⟩ = some (.string rr.name) := by rw [← hW5]; exact HBX6.out.cells.2.2.1
    have L3 : w5.drew.cell? ⟨B, 3, none⟩ = some (.slice b9 rr.args.length c9) := by rw [← hW5]; exact HBX6.out.cells.2.2.2
    clear hW5 HVX5 HBX5 HT5 HBX6 HT6
    go_region_held3 (fun W => Hid (Below W5.heap.size W5 W) ∧ W.cell? ⟨w.heap.size, 0, none⟩ = some (.int .i64 t.op) ∧ W.cell? ⟨w.heap.size, 1, none⟩ = some (.int .i64 t.n) ∧ W.cell? ⟨w.heap.size, 2, none⟩ = some (.string t.name) ∧ W.cell? ⟨w.heap.size, 3, none⟩ = some (.slice b t.args.length c) ∧ W.cell? ⟨B, 0, none⟩ = some (.int .i64 rr.op) ∧ W.cell? ⟨B, 1, none⟩ = some (.int .i64 rr.n) ∧ W.cell? ⟨B, 2, none⟩ = some (.string rr.name) ∧ W.cell? ⟨B, 3, none⟩ = some (.slice b9 rr.args.length c9))
      (first | (with_reducible exact ⟨HK5, K0, K1, K2, K3, L0, L1, L2, L3⟩) | assumption | ((with_reducible refine rs_next9 ?_ hb); assumption))
      (first
      | (go_at_call 31; refine (HRU.out _ (HB5.out.trans (Below.mono (Hid.out (And.left (by assumption))) HB5.out.size))).mono ?_; rintro e w6 ⟨v6, rfl, hv6, hb⟩; have HU6 := Lib.hid hv6.weak; have HB6 := Lib.hid (HB5.out.trans (Below.mono (Below.trans (Hid.out (And.left (by assumption))) (hb.mono (Below.size (Hid.out (And.left (by assumption)))))) HB5.out.size)); have HVX7 := Lib.hid (HVX6.out.next (Below.trans (Hid.out (And.left (by assumption))) (hb.mono (Below.size (Hid.out (And.left (by assumption))))))))
      | (go_at_call 28; refine (whole_any rr ru _ _ n2 _ HVX7.out HU6.out).mono ?_; rintro e w7 ⟨rfl, hb⟩; have HB7 := Lib.hid (HB6.out.trans (hb.mono HB6.out.size)); rw [HW.out])
      | (go_at_call 18; refine (awake_any _).mono ?_; rintro e w8 ⟨rfl, hb⟩; have HB8 := Lib.hid (HB7.out.trans (hb.mono HB7.out.size))))
    all_goals
      rename_i hHeld
      clear hHeld
      go_wp2_with fail
      go_ret
      exact ⟨rfl, HB8.out⟩

end Ty
end Go.Proofs.Ytkedhnahgpmkaaa
