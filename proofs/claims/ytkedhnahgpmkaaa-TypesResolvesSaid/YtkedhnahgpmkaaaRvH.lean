/- Texts of the law TypesResolves, joined. -/
import Derived.Test.YtkedhnahgpmkaaaTyRS
import Derived.Deep.RegionHeld3
import Derived.Deep.DeepCutAuto
import Derived.IntWalk
import Derived.Test.YtkedhnahgpmkaaaTyPut
import Derived.Test.YtkedhnahgpmkaaaTyAwake
import Derived.Test.YtkedhnahgpmkaaaTySpine
import Derived.Deep.AppendLies
import Derived.Test.YtkedhnahgpmkaaaRvE
import Derived.Test.YtkedhnahgpmkaaaRvG

/- Boxes beside a call; a type is the same as itself. -/
namespace Go.Proofs.Ytkedhnahgpmkaaa
open Go.RowKit

namespace Ty
mutual
theorem same_refl : ∀ t : Ty, same t t = true
  | .mk o n s a => by
    rw [same]
    simp [sames_refl a]
theorem sames_refl : ∀ l : List Ty, sames l l = true
  | [] => by rw [sames]
  | x :: l => by
    rw [sames, same_refl x, sames_refl l]
    rfl
end
theorem swap_cell {W : World} {o o' : Obj} {p : Addr} {v : Value} (hp : p.block < W.heap.size) (h : (W.alloc o).cell? p = some v) : (W.alloc o').cell? p = some v :=
  (World.cell?_of_block ((Below.heap_alloc W o' _ hp).trans (Below.heap_alloc W o _ hp).symm)).trans h

/-- a new box that stands still beside a call -/
theorem box_next {W w' : World} {v0 v1 v2 v3 : Value} (hb : Below (W.alloc (Obj.cells #[v0, v1, v2, v3] 24)).heap.size (W.alloc (Obj.cells #[v0, v1, v2, v3] 24)) w') : B4 w' W.heap.size v0 v1 v2 v3 := B4.next (heap_alloc_new _ _) hb
/-- the part that was made, in a box: the box made behind the call -/
theorem fin_c {V0 W5 w6 : World} {r : Ty} {b9 : Option Addr} {c9 : Nat} (hs : V0.heap.size ≤ W5.heap.size) (hv : VO (W5.heap.size ≤ ·) w6 r (.agg #[.int .i64 r.op, .int .i64 r.n, .string r.name, .slice b9 r.args.length c9])) (o : Obj) :
    VO (V0.heap.size ≤ ·) (w6.alloc o) r (.agg #[.int .i64 r.op, .int .i64 r.n, .string r.name, .slice b9 r.args.length c9]) :=
  hv.keep (fun g hg => by show V0.heap.size ≤ g; have : W5.heap.size ≤ g := hg; omega) (fun p v _ hc => keeps ((Below.refl _ _).alloc (Nat.le_refl _) _) _ _ hc)
/-- .. made ahead of it -/
theorem fin_p {V0 W5 w6 : World} {B : Nat} {r : Ty} {b9 : Option Addr} {c9 : Nat} (hs : V0.heap.size ≤ W5.heap.size) (hB : B < W5.heap.size) (hv : VO (W5.heap.size ≤ ·) w6 r (.agg #[.int .i64 r.op, .int .i64 r.n, .string r.name, .slice b9 r.args.length c9])) (v0 v1 v2 v3 : Value) :
    VO (V0.heap.size ≤ ·) (put4 w6 B v0 v1 v2 v3) r (.agg #[.int .i64 r.op, .int .i64 r.n, .string r.name, .slice b9 r.args.length c9]) :=
  hv.keep (fun g hg => by show V0.heap.size ≤ g; have : W5.heap.size ≤ g := hg; omega) (fun p v hp hc => put4_keep _ _ _ _ p v hc (by have : W5.heap.size ≤ p.block := hp; omega))

theorem ls_next5 {V0 W W' : World} {T : Nat} {r0 r1 r2 r3 : Value}
    (h : Hid (Below V0.heap.size V0 W) ∧ W.cell? ⟨T, 0, none⟩ = some r0 ∧ W.cell? ⟨T, 1, none⟩ = some r1 ∧ W.cell? ⟨T, 2, none⟩ = some r2 ∧ W.cell? ⟨T, 3, none⟩ = some r3) (hb : Below W.heap.size W W') :
    Hid (Below V0.heap.size V0 W') ∧ W'.cell? ⟨T, 0, none⟩ = some r0 ∧ W'.cell? ⟨T, 1, none⟩ = some r1 ∧ W'.cell? ⟨T, 2, none⟩ = some r2 ∧ W'.cell? ⟨T, 3, none⟩ = some r3 := by
  obtain ⟨b, k0, k1, k2, k3⟩ := h
  exact ⟨Lib.hid (b.out.trans (hb.mono b.out.size)), keeps hb _ _ k0, keeps hb _ _ k1, keeps hb _ _ k2, keeps hb _ _ k3⟩

theorem below_da (W : World) (o : Obj) : Below W.drew.heap.size W.drew (W.alloc o).drew := (Below.refl _ W.drew).alloc (Nat.le_refl _) o
theorem ls_put5 {V0 W : World} {T B : Nat} {r0 r1 r2 r3 : Value} (v0 v1 v2 v3 : Value)
    (h : Hid (Below V0.heap.size V0 W) ∧ W.cell? ⟨T, 0, none⟩ = some r0 ∧ W.cell? ⟨T, 1, none⟩ = some r1 ∧ W.cell? ⟨T, 2, none⟩ = some r2 ∧ W.cell? ⟨T, 3, none⟩ = some r3) (hB : V0.heap.size ≤ B) (hT : T ≠ B) :
    Hid (Below V0.heap.size V0 ((((W.setCell ⟨B, 0, none⟩ v0).setCell ⟨B, 1, none⟩ v1).setCell ⟨B, 2, none⟩ v2).setCell ⟨B, 3, none⟩ v3)) ∧ ((((W.setCell ⟨B, 0, none⟩ v0).setCell ⟨B, 1, none⟩ v1).setCell ⟨B, 2, none⟩ v2).setCell ⟨B, 3, none⟩ v3).cell? ⟨T, 0, none⟩ = some r0 ∧ ((((W.setCell ⟨B, 0, none⟩ v0).setCell ⟨B, 1, none⟩ v1).setCell ⟨B, 2, none⟩ v2).setCell ⟨B, 3, none⟩ v3).cell? ⟨T, 1, none⟩ = some r1 ∧ ((((W.setCell ⟨B, 0, none⟩ v0).setCell ⟨B, 1, none⟩ v1).setCell ⟨B, 2, none⟩ v2).setCell ⟨B, 3, none⟩ v3).cell? ⟨T, 2, none⟩ = some r2 ∧ ((((W.setCell ⟨B, 0, none⟩ v0).setCell ⟨B, 1, none⟩ v1).setCell ⟨B, 2, none⟩ v2).setCell ⟨B, 3, none⟩ v3).cell? ⟨T, 3, none⟩ = some r3 := by
  obtain ⟨b, k0, k1, k2, k3⟩ := h
  exact ⟨Lib.hid (below_put4 b.out hB _ _ _ _), put4_keep _ _ _ _ _ _ k0 hT, put4_keep _ _ _ _ _ _ k1 hT, put4_keep _ _ _ _ _ _ k2 hT, put4_keep _ _ _ _ _ _ k3 hT⟩
theorem ls_swap5 {V0 W : World} {o o' : Obj} {T : Nat} {r0 r1 r2 r3 : Value}
    (h : Hid (Below V0.heap.size V0 (W.alloc o)) ∧ (W.alloc o).cell? ⟨T, 0, none⟩ = some r0 ∧ (W.alloc o).cell? ⟨T, 1, none⟩ = some r1 ∧ (W.alloc o).cell? ⟨T, 2, none⟩ = some r2 ∧ (W.alloc o).cell? ⟨T, 3, none⟩ = some r3) (hs : V0.heap.size ≤ W.heap.size) (hT : T < V0.heap.size) :
    Hid (Below V0.heap.size V0 (W.alloc o')) ∧ (W.alloc o').cell? ⟨T, 0, none⟩ = some r0 ∧ (W.alloc o').cell? ⟨T, 1, none⟩ = some r1 ∧ (W.alloc o').cell? ⟨T, 2, none⟩ = some r2 ∧ (W.alloc o').cell? ⟨T, 3, none⟩ = some r3 := by
  obtain ⟨b, k0, k1, k2, k3⟩ := h
  have hT' : T < W.heap.size := by omega
  refine ⟨Lib.hid ⟨b.out.os, b.out.tape, b.out.output, by simp; omega, fun j hj => ?_⟩, swap_cell hT' k0, swap_cell hT' k1, swap_cell hT' k2, swap_cell hT' k3⟩
  have hj' : j < W.heap.size := by omega
  exact ((Below.heap_alloc W o' j hj').trans (Below.heap_alloc W o j hj').symm).trans (b.out.block j hj)

end Ty
end Go.Proofs.Ytkedhnahgpmkaaa

/- The law TypesResolves: its walk. Conditions: as named in the theorem. -/
namespace Go.Proofs.Ytkedhnahgpmkaaa
open Go.RowKit Go.Maps

namespace Ty
theorem own_m1 {W : World} {base g : Nat} (hg : W.heap.size = g) (hb : base ≤ g) : (W.alloc (.cells #[] 98)).drew.ownsRow base 98 10 (.slice (some ⟨g, 0, none⟩) 0 0) 0 [] := own_madeM hg hb
theorem own_m2 {W : World} {o : Obj} {base g : Nat} (hg : W.heap.size = g) (hb : base ≤ g) : ((W.alloc (.cells #[] 98)).alloc o).drew.ownsRow base 98 10 (.slice (some ⟨g, 0, none⟩) 0 0) 0 [] := (own_madeM hg hb).alloc o
theorem box_ma {W w7 : World} {g : Nat} (hg : ((W.alloc (Obj.cells #[.int .i64 0, .int .i64 0, .string ⟨#[]⟩, .slice none 0 0] 24)).alloc (Obj.cells #[] 98)).drew.grownBy w7 (some g)) (hne : W.heap.size ≠ g) : B4 w7 W.heap.size (.int .i64 0) (.int .i64 0) (.string ⟨#[]⟩) (.slice none 0 0) := by
  have h1 : ((W.alloc (Obj.cells #[.int .i64 0, .int .i64 0, .string ⟨#[]⟩, .slice none 0 0] 24)).alloc (Obj.cells #[] 98)).heap[W.heap.size]? = some (Obj.cells #[.int .i64 0, .int .i64 0, .string ⟨#[]⟩, .slice none 0 0] 24) := (heap_alloc_old _ _ (by simp)).trans (heap_alloc_new W (Obj.cells #[.int .i64 0, .int .i64 0, .string ⟨#[]⟩, .slice none 0 0] 24))
  exact (hg.block _ (lt_of_block h1) (fun e => hne (by injection e))).trans h1
theorem box_mb {W w7 : World} {g : Nat} (hg : ((W.alloc (Obj.cells #[] 98)).alloc (Obj.cells #[.int .i64 0, .int .i64 0, .string ⟨#[]⟩, .slice none 0 0] 24)).drew.grownBy w7 (some g)) (hne : W.heap.size + 1 ≠ g) : B4 w7 (W.heap.size + 1) (.int .i64 0) (.int .i64 0) (.string ⟨#[]⟩) (.slice none 0 0) := by
  have h1 : ((W.alloc (Obj.cells #[] 98)).alloc (Obj.cells #[.int .i64 0, .int .i64 0, .string ⟨#[]⟩, .slice none 0 0] 24)).heap[W.heap.size + 1]? = some (Obj.cells #[.int .i64 0, .int .i64 0, .string ⟨#[]⟩, .slice none 0 0] 24) := by
    have h := heap_alloc_new (W.alloc (Obj.cells #[] 98)) (Obj.cells #[.int .i64 0, .int .i64 0, .string ⟨#[]⟩, .slice none 0 0] 24)
    rwa [show (W.alloc (Obj.cells #[] 98)).heap.size = W.heap.size + 1 from by simp] at h
  exact (hg.block _ (lt_of_block h1) (fun e => hne (by injection e))).trans h1

set_option maxRecDepth 100000 in
set_option maxHeartbeats 8000000 in
theorem resolves_walk (M : List MC) (t rr : Ty) (n2 : Int) (base : Option Addr) (cap : Nat) (v : Value) (w : World) (hms : Ms w base M) (hv : V w t v) (hn : M.length ≤ 1099511627776)
    (hput : ∀ (W : World) (bb : Option Addr) (cap' : Nat), Below w.heap.size w W → Ms W bb M → Calls Try.prog 45 #[.slice bb M.length cap', v] W fun e w' => ∃ v', e = .returned (.tuple #[v', .int .i64 n2]) ∧ VO (W.heap.size ≤ ·) w' rr v' ∧ Below W.heap.size W w')
    (hq : ¬ PRes M t ∧ same rr zeroT = true ∧ n2 = 2 ∨ PRes M t ∧ same rr rr = true ∧ ∀ (W : World), Below w.heap.size w W → Calls Try.prog 48 #[.slice base M.length cap, v] W fun e w' => ∃ v', e = .returned (.tuple #[v', .int .i64 n2]) ∧ VO (W.heap.size ≤ ·) w' rr v' ∧ Below W.heap.size W w') :
    Calls Try.prog 8 #[.slice base M.length cap, v] w fun e w' => e = .returned (.bool true) ∧ Below w.heap.size w w' := by
  have HPR := Lib.hid (fun W (hb : Below w.heap.size w W) => proper_any t v W (hv.next hb))
  have HKN := Lib.hid (fun (hp : isProper t = true) W (hb : Below w.heap.size w W) => known_any M t hp base cap v W (hv.next hb))
  have HSO := Lib.hid (fun (h6 : M.length ≤ 600) W (hb : Below w.heap.size w W) => solvable_any M h6 base cap W (hms.next hb))
  have HPUT := Lib.hid hput
  have HQ := Lib.hid hq
  have HPQ := Lib.hid (show PRes M t ↔ isProper t = true ∧ M.length ≤ 600 ∧ OkF M ∧ inM M t = true ∧ NoRing M from Iff.rfl)
  clear hput hq
  generalize hp : isProper t = p at *
  generalize hkn : inM M t = kn at *
  clear hp hkn
  obtain ⟨b, c, ev, hsv, hlv⟩ := hv
  subst ev
  have hb1 : Below w.heap.size w (w.alloc (Obj.cells #[.int .i64 t.op, .int .i64 t.n, .string t.name, .slice b t.args.length c] 24)) := (Below.refl _ _).alloc (Nat.le_refl _) _
  have ht3 : B4 (w.alloc (Obj.cells #[.int .i64 t.op, .int .i64 t.n, .string t.name, .slice b t.args.length c] 24)) w.heap.size (.int .i64 t.op) (.int .i64 t.n) (.string t.name) (.slice b t.args.length c) := heap_alloc_new _ _
  have HB1 := Lib.hid hb1.drew
  have HT0 := Lib.hid (show B4 (w.alloc (Obj.cells #[.int .i64 t.op, .int .i64 t.n, .string t.name, .slice b t.args.length c] 24)).drew w.heap.size (.int .i64 t.op) (.int .i64 t.n) (.string t.name) (.slice b t.args.length c) from ht3)
  have HT3 := Lib.hid ht3
  have HSZ : Hid ((w.alloc (Obj.cells #[.int .i64 t.op, .int .i64 t.n, .string t.name, .slice b t.args.length c] 24)).drew.heap.size = w.heap.size + 1) := Lib.hid (by simp)
  clear hb1 ht3 hsv hlv
  generalize hln : M.length = la at *
  have HLN := Lib.hid hln
  have HN := Lib.hid hn
  have HSL := Lib.hid (hms.next HB1.out)
  clear hln hn hms
  go_enter Try.func8, Try.ntmps8
  go_upto_region 1 with fail
  obtain ⟨W1, hW1⟩ : ∃ W1, W1 = w.alloc (Obj.cells #[.int .i64 t.op, .int .i64 t.n, .string t.name, .slice b t.args.length c] 24) := ⟨_, rfl⟩
  rw [← hW1] at HB1 HT3 HT0 HSZ HSL ⊢
  obtain ⟨W0, hW0⟩ : ∃ W0, W0 = W1.drew := ⟨_, rfl⟩
  rw [← hW0] at HB1 HT0 HSZ HSL
  clear hW1
  go_cut [5, 6] (fun s5 s6 wx => ∃ (B : Nat) (b9 : Option Addr) (c9 : Nat), s5 = .pointer (some ⟨B, 0, none⟩) ∧ s6 = .int .i64 n2 ∧ Hid (B4 wx B (.int .i64 rr.op) (.int .i64 rr.n) (.string rr.name) (.slice b9 rr.args.length c9)) ∧ Hid (V wx rr (.agg #[.int .i64 rr.op, .int .i64 rr.n, .string rr.name, .slice b9 rr.args.length c9])) ∧ Hid (Below W0.heap.size W0 wx))
  case first =>
    obtain ⟨q0, q1, q2, q3⟩ := HT0.out.cells
    have HKB : Hid (Below W0.heap.size W0 W0) := Lib.hid (Below.refl _ _)
    have hsz0 := HSZ.out
    have hlt1 : w.heap.size < W0.heap.size := by omega
    have hle0 : W0.heap.size ≤ W0.heap.size := Nat.le_refl _
    have hle1 : W0.heap.size ≤ W0.heap.size + 1 := by omega
    have hne1 : w.heap.size ≠ W0.heap.size := by omega
    have hne2 : w.heap.size ≠ W0.heap.size + 1 := by omega
    rw [hW0] at HT0 HKB HSL HB1 q0 q1 q2 q3 hlt1 hle0 hle1 hne1 hne2
    clear hsz0 HSZ
    replace hle0 : W1.drew.heap.size ≤ W1.heap.size := Nat.le_refl _
    replace hle1 : W1.drew.heap.size ≤ W1.heap.size + 1 := Nat.le_succ _
    replace hne1 : w.heap.size ≠ W1.heap.size := hne1
    replace hne2 : w.heap.size ≠ W1.heap.size + 1 := hne2
    go_region_held3 (fun W => Hid (Below W1.drew.heap.size W1.drew W) ∧ W.cell? ⟨w.heap.size, 0, none⟩ = some (.int .i64 t.op) ∧ W.cell? ⟨w.heap.size, 1, none⟩ = some (.int .i64 t.n) ∧ W.cell? ⟨w.heap.size, 2, none⟩ = some (.string t.name) ∧ W.cell? ⟨w.heap.size, 3, none⟩ = some (.slice b t.args.length c))
      (first | (with_reducible exact ⟨HKB, q0, q1, q2, q3⟩) | (with_reducible assumption) | ((with_reducible refine ls_next5 ?_ hb); assumption) | ((with_reducible refine ls_next5 ?_ (below_da _ _)); assumption) | (with_reducible exact ls_next5 (W := W1.drew) ⟨HKB, q0, q1, q2, q3⟩ hbc) | ((with_reducible refine ls_next5 ?_ ((Below.refl _ _).alloc (Nat.le_refl _) _)); assumption) | ((with_reducible refine ls_put5 (B := W1.heap.size) _ _ _ _ ?_ hle0 hne1); assumption) | ((with_reducible refine ls_put5 (B := W1.heap.size + 1) _ _ _ _ ?_ hle1 hne2); assumption) | ((with_reducible refine ls_put5 (B := w7.heap.size) _ _ _ _ ?_ hsz7 hne7); assumption) | ((with_reducible refine ls_swap5 (o := Obj.cells #[.int .i64 0, .int .i64 0, .string ⟨#[]⟩, .slice none 0 0] 24) ?_ hszw hlt1); assumption))
      (first
      | (go_at_call 45; refine (HPUT.out _ _ _ (HB1.out.trans (Below.mono (Hid.out (And.left (by assumption))) HB1.out.size)) (by first | exact hs7 | exact hs7.next ((Below.refl _ _).alloc (Nat.le_refl _) _))).mono ?_; rintro e w6 ⟨v6, rfl, hvo, hb⟩; have hvo2 := Lib.hid hvo; obtain ⟨b9, c9, rfl, _, _⟩ := hvo; (have hszw : W1.drew.heap.size ≤ w6.heap.size := Nat.le_trans (Below.size (Hid.out (And.left (by assumption)))) hb.size); (try have HZC := Lib.hid (HZB.out.next hb)); (try have HZC := Lib.hid (box_next hb)); (try obtain ⟨e0, e1, e2, e3⟩ := HZC.out.cells); (try have f0 := HZC.out.frozen 0); (try have f1 := HZC.out.frozen 1); (try have f2 := HZC.out.frozen 2); (try have f3 := HZC.out.frozen 3))
      | (refine step_copyM (w0 := W1.drew) (by rfl) _ _ (by rfl) (by rfl) (by first | exact own_m1 (by first | rfl | simp) (by first | exact Nat.le_refl _ | simp) | exact own_m2 (by first | rfl | simp) (by first | exact Nat.le_refl _ | simp)) (Hid.out (And.left (by assumption))) (by rfl) HLN.out HSL.out HN.out ?_; intro bb cap1 w7 hs7 hgr7 hbc; (have hsz7 : W1.drew.heap.size ≤ w7.heap.size := hbc.size); (have hne7 : w.heap.size ≠ w7.heap.size := (by omega)); (try have HZB := Lib.hid (box_ma (W := W1) hgr7 (by first | omega | simp))); (try have HZB := Lib.hid (box_mb (W := W1) hgr7 (by first | omega | simp)))))
    all_goals
      rename_i hHeld
      have HH := Lib.hid hHeld.1.out
      clear hHeld
      go_wp2_with fail
      go_meet
      subst hW0
      first
      | (have hzb := HZB.out; exact ⟨_, b9, c9, rfl, rfl, Lib.hid (put4_cells HZC.out _ _ _ _), Lib.hid (fin_p hsz7 (lt_of_block hzb) hvo2.out _ _ _ _).weak, HH⟩)
      | (have hzc := HZC.out; exact ⟨w7.heap.size, b9, c9, rfl, rfl, Lib.hid (put4_cells hzc _ _ _ _), Lib.hid (fin_p (V0 := W1.drew) (W5 := w7.alloc (Obj.cells #[.int .i64 0, .int .i64 0, .string ⟨#[]⟩, .slice none 0 0] 24)) (Nat.le_trans hsz7 (by simp)) (by simp) hvo2.out _ _ _ _).weak, HH⟩)
      | exact ⟨w6.heap.size, b9, c9, rfl, rfl, Lib.hid (heap_alloc_new _ _), Lib.hid (fin_c hsz7 hvo2.out _).weak, HH⟩
  case rest =>
  obtain ⟨B, b9, c9, rfl, rfl, HBX, HVX, HBL⟩ := hcut
  clear hW0 HT3
  have HBa := Lib.hid (HB1.out.trans (HBL.out.mono HB1.out.size))
  have HTa := Lib.hid (HT0.out.next HBL.out)
  clear HBL HT0 HB1
  obtain ⟨u, hu⟩ : ∃ u, u = wc := ⟨_, rfl⟩
  rw [← hu] at HBX HVX HBa HTa ⊢
  clear hu
  obtain ⟨t0, t1, t2, t3⟩ := HTa.out.cells
  go_wp2_with fail
  refine (HPR.out u HBa.out).mono ?_
  rintro e w4 ⟨rfl, hb⟩
  have HB4 := Lib.hid (HBa.out.trans (hb.mono HBa.out.size))
  have HBX4 := Lib.hid (HBX.out.next hb)
  have HVX4 := Lib.hid (HVX.out.next hb)
  have HT4 := Lib.hid (HTa.out.next hb)
  clear hb HBX HVX HBa HTa t0 t1 t2 t3
  cases p with
  | false =>
    rcases HQ.out with ⟨hnp, hz, hn2⟩ | ⟨hpr, _, _⟩
    · have HZ := Lib.hid hz
      subst hn2
      clear HQ hz hnp
      obtain ⟨t0, t1, t2, t3⟩ := HBX4.out.cells
      go_wp2_with fail
      refine (zero_any rr _ _ HVX4.out).mono ?_
      rintro e w6 ⟨rfl, hb⟩
      rw [HZ.out]
      have HB6 := Lib.hid (HB4.out.trans (hb.mono HB4.out.size))
      clear hb
      go_wp2_with fail
      refine (awake_any w6).mono ?_
      rintro e w7 ⟨rfl, hb⟩
      have HB7 := Lib.hid (HB6.out.trans (hb.mono HB6.out.size))
      clear hb HB6
      go_wp2_with fail
      go_ret
      exact ⟨rfl, HB7.out⟩

    · exact absurd (HPQ.out.mp hpr).1 (by simp)
  | true =>
  by_cases h6 : la ≤ 600
  · have q1 : decide ((600 : Int) < (la : Int)) = false := decide_eq_false (by omega)
    have HN6 := Lib.hid h6
    clear h6
    obtain ⟨t0, t1, t2, t3⟩ := HT4.out.cells
    go_wp2_with fail
    refine (HKN.out (by first | rfl | trivial) w4 HB4.out).mono ?_
    rintro e w5 ⟨rfl, hb⟩
    have HB5 := Lib.hid (HB4.out.trans (hb.mono HB4.out.size))
    have HBX5 := Lib.hid (HBX4.out.next hb)
    have HVX5 := Lib.hid (HVX4.out.next hb)
    have HT5 := Lib.hid (HT4.out.next hb)
    clear hb HB4 HBX4 HVX4 HT4 t0 t1 t2 t3
    cases kn with
    | false =>
      rcases HQ.out with ⟨hnp, hz, hn2⟩ | ⟨hpr, _, _⟩
      · have HZ := Lib.hid hz
        subst hn2
        clear HQ hz hnp
        obtain ⟨t0, t1, t2, t3⟩ := HBX5.out.cells
        go_wp2_with fail
        refine (zero_any rr _ _ HVX5.out).mono ?_
        rintro e w6 ⟨rfl, hb⟩
        rw [HZ.out]
        have HB6 := Lib.hid (HB5.out.trans (hb.mono HB5.out.size))
        clear hb
        go_wp2_with fail
        refine (awake_any w6).mono ?_
        rintro e w7 ⟨rfl, hb⟩
        have HB7 := Lib.hid (HB6.out.trans (hb.mono HB6.out.size))
        clear hb HB6
        go_wp2_with fail
        go_ret
        exact ⟨rfl, HB7.out⟩

      · exact absurd (HPQ.out.mp hpr).2.2.2.1 (by simp)
    | true =>
    go_wp2_with fail
    refine (HSO.out HN6.out w5 HB5.out).mono ?_
    rintro e w8 ⟨r, rfl, hr, hb⟩
    have HSR := Lib.hid hr
    have HB8 := Lib.hid (HB5.out.trans (hb.mono HB5.out.size))
    have HBX8 := Lib.hid (HBX5.out.next hb)
    have HVX8 := Lib.hid (HVX5.out.next hb)
    have HT8 := Lib.hid (HT5.out.next hb)
    clear hb HB5 HBX5 HVX5 HT5 hr
    cases r with
    | false =>
      rcases HQ.out with ⟨hnp, hz, hn2⟩ | ⟨hpr, _, _⟩
      · have HZ := Lib.hid hz
        subst hn2
        clear HQ hz hnp
        obtain ⟨t0, t1, t2, t3⟩ := HBX8.out.cells
        go_wp2_with fail
        refine (zero_any rr _ _ HVX8.out).mono ?_
        rintro e w6 ⟨rfl, hb⟩
        rw [HZ.out]
        have HB6 := Lib.hid (HB8.out.trans (hb.mono HB8.out.size))
        clear hb
        go_wp2_with fail
        refine (awake_any w6).mono ?_
        rintro e w7 ⟨rfl, hb⟩
        have HB7 := Lib.hid (HB6.out.trans (hb.mono HB6.out.size))
        clear hb HB6
        go_wp2_with fail
        go_ret
        exact ⟨rfl, HB7.out⟩

      · exact absurd (HSR.out.mpr ⟨(HPQ.out.mp hpr).2.2.1, (HPQ.out.mp hpr).2.2.2.2⟩) (by simp)
    | true =>
      rcases HQ.out with ⟨hnp, _, _⟩ | ⟨_, hs, hcall⟩
      · exact absurd (HPQ.out.mpr ⟨by first | rfl | trivial, HN6.out, (HSR.out.mp rfl).1, by first | rfl | trivial, (HSR.out.mp rfl).2⟩) hnp
      · have HS := Lib.hid hs
        have HCALL := Lib.hid hcall
        clear HQ hs hcall HSR
        obtain ⟨t0, t1, t2, t3⟩ := HT8.out.cells
        go_wp2_with fail
        refine (HCALL.out w8 HB8.out).mono ?_
        rintro e w9 ⟨v9, rfl, ⟨b8, c8, rfl, hs9, hl9⟩, hb⟩
        have HV9 : Hid (VO (w8.heap.size ≤ ·) w9 rr _) := Lib.hid ⟨b8, c8, rfl, hs9, hl9⟩
        have HB9 := Lib.hid (HB8.out.trans (hb.mono HB8.out.size))
        have HBX9 := Lib.hid (HBX8.out.next hb)
        have HVX9 := Lib.hid (HVX8.out.next hb)
        clear hb HB8 HBX8 HVX8 HT8 t0 t1 t2 t3 HCALL hs9 hl9
        go_upto_region 5 with fail
        obtain ⟨W9, hW9⟩ : ∃ Z, Z = w9.alloc (Obj.cells #[.int .i64 rr.op, .int .i64 rr.n, .string rr.name, .slice b8 rr.args.length c8] 24) := ⟨_, rfl⟩
        have hb9 : Below w9.heap.size w9 W9 := by rw [hW9]; exact (Below.refl _ _).alloc (Nat.le_refl _) _
        have HN9 : Hid (B4 W9 w9.heap.size (.int .i64 rr.op) (.int .i64 rr.n) (.string rr.name) (.slice b8 rr.args.length c8)) := Lib.hid (by rw [hW9]; exact heap_alloc_new _ _)
        rw [← hW9]
        clear hW9
        have HV10 := Lib.hid (HV9.out.weak.next hb9)
        have HBX10 := Lib.hid (HBX9.out.next hb9)
        have HVX10 := Lib.hid (HVX9.out.next hb9)
        have HB10 := Lib.hid (HB9.out.trans (hb9.mono HB9.out.size))
        clear hb9 HV9 HBX9 HVX9 HB9
        obtain ⟨t0, t1, t2, t3⟩ := HBX10.out.cells
        obtain ⟨d0, d1, d2, d3⟩ := HN9.out.cells
        have e2 : (n2 == n2) = true := beq_self_eq_true _
        go_wp2_with fail
        refine (rsame_any rr rr _ _ _ HVX10.out HV10.out).mono ?_
        rintro e w10 ⟨rfl, hb⟩
        rw [HS.out]
        have HB11 := Lib.hid (HB10.out.trans (hb.mono HB10.out.size))
        clear hb t0 t1 t2 t3 d0 d1 d2 d3
        go_wp2_with fail
        refine (awake_any _).mono ?_
        rintro e w12 ⟨rfl, hb⟩
        have HB12 := Lib.hid (HB11.out.trans (hb.mono HB11.out.size))
        clear hb
        go_wp2_with fail
        go_ret
        exact ⟨rfl, HB12.out⟩
  · have q1 : decide ((600 : Int) < (la : Int)) = true := decide_eq_true (by omega)
    have HN6 := Lib.hid h6
    clear h6
    rcases HQ.out with ⟨hnp, hz, hn2⟩ | ⟨hpr, _, _⟩
    · have HZ := Lib.hid hz
      subst hn2
      clear HQ hz hnp
      obtain ⟨t0, t1, t2, t3⟩ := HBX4.out.cells
      go_wp2_with fail
      refine (zero_any rr _ _ HVX4.out).mono ?_
      rintro e w6 ⟨rfl, hb⟩
      rw [HZ.out]
      have HB6 := Lib.hid (HB4.out.trans (hb.mono HB4.out.size))
      clear hb
      go_wp2_with fail
      refine (awake_any w6).mono ?_
      rintro e w7 ⟨rfl, hb⟩
      have HB7 := Lib.hid (HB6.out.trans (hb.mono HB6.out.size))
      clear hb HB6
      go_wp2_with fail
      go_ret
      exact ⟨rfl, HB7.out⟩

    · exact absurd (HPQ.out.mp hpr).2.1 HN6.out
end Ty
end Go.Proofs.Ytkedhnahgpmkaaa

/- The law TypesResolves. Conditions: as named in the theorem. -/
namespace Go.Proofs.Ytkedhnahgpmkaaa
open Go.RowKit

namespace Ty
theorem vo_zeror (ok : Nat → Prop) (w : World) : VO ok w zeroT zeroV := ⟨none, 0, rfl, by decide, by decide, .inl rfl⟩
theorem same_reflr : ∀ t : Ty, same t t = true := same_refl
theorem resd_ok {M : List MC} {t r : Ty} {w w' : World} {e : Ending} (hrs : Rs M t r) (hp : isProper r = true) (h : ResdP M t w e w') : ∃ v', e = .returned (.tuple #[v', .int .i64 0]) ∧ VO (w.heap.size ≤ ·) w' r v' ∧ Below w.heap.size w w' := by
  obtain ⟨r', h1, _, ⟨v, rfl, h3⟩, h4⟩ := h
  obtain rfl := h1.one hrs
  exact ⟨v, by rw [fullV_ok hp], h3 hp, h4⟩
theorem resd_full {M : List MC} {t r : Ty} {w w' : World} {e : Ending} (hrs : Rs M t r) (hp : isProper r = false) (h : ResdP M t w e w') : ∃ v', e = .returned (.tuple #[v', .int .i64 5]) ∧ VO (w.heap.size ≤ ·) w' zeroT v' ∧ Below w.heap.size w w' := by
  obtain ⟨r', h1, _, ⟨v, rfl, h3⟩, h4⟩ := h
  obtain rfl := h1.one hrs
  exact ⟨zeroV, by rw [fullV_bad hp], vo_zeror _ _, h4⟩
theorem law_resolves (M : List MC) (t : Ty) (base : Option Addr) (cap : Nat) (v : Value) (w : World) (hms : Ms w base M) (hv : V w t v) (hn : M.length ≤ 1099511627776) :
    Calls Try.prog 8 #[.slice base M.length cap, v] w fun e w' => e = .returned (.bool true) ∧ Below w.heap.size w w' := by
  by_cases hp : PRes M t
  · have hp' := hp
    obtain ⟨hpr, h6, hok⟩ := hp'
    obtain ⟨r, hrs⟩ := rs_fin hok.1.ok (fin_top hpr hok.2.1 hok.2.2)
    have hgr := hrs.good hok.1.ok (Good.of hpr)
    have hin := inr_of (Good.of hpr) (inM_iff.mp hok.2.1)
    have href := fun (W : World) (hb : Below w.heap.size w W) => rrestop_any M hok.1.ok t r hrs hin hgr base cap v W (hms.next hb) (hv.next hb)
    have hres : ∀ (W : World) (bb : Option Addr) (cap' : Nat), Below w.heap.size w W → Ms W bb M → Calls Try.prog 45 #[.slice bb M.length cap', v] W (ResdP M t W) := fun W bb cap' hb hs => (presolve_any M t bb cap' v W hs (hv.next hb)).mono fun e w' h => by
      rcases h with ⟨h, _⟩ | ⟨_, h⟩
      · exact absurd hp h
      · exact h
    cases hq : isProper r with
    | true => exact resolves_walk M t r 0 base cap v w hms hv hn (fun W bb cap' hb hs => (hres W bb cap' hb hs).mono fun e w' h => resd_ok hrs hq h) (.inr ⟨hp, same_reflr _, fun W hb => (href W hb).mono fun e w' h => resd_ok hrs hq h⟩)
    | false => exact resolves_walk M t zeroT 5 base cap v w hms hv hn (fun W bb cap' hb hs => (hres W bb cap' hb hs).mono fun e w' h => resd_full hrs hq h) (.inr ⟨hp, same_reflr _, fun W hb => (href W hb).mono fun e w' h => resd_full hrs hq h⟩)
  · refine resolves_walk M t zeroT 2 base cap v w hms hv hn (fun W bb cap' hb hs => (presolve_any M t bb cap' v W hs (hv.next hb)).mono fun e w' h => ?_) (.inl ⟨hp, same_reflr _, rfl⟩)
    rcases h with ⟨_, rfl, h⟩ | ⟨h, _⟩
    · exact ⟨zeroV, rfl, vo_zeror _ _, h⟩
    · exact absurd h hp
end Ty
end Go.Proofs.Ytkedhnahgpmkaaa
