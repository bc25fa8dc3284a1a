/- What the reference's shift returns at a node. Conditions: the type is well formed. -/
import Derived.Test.YtkedhnahgpmkaaaTyRSh
namespace Go.Proofs.Ytkedhnahgpmkaaa
open Go.RowKit

namespace Ty
theorem rs_next9 {V0 W W' : World} {T D : Nat} {r0 r1 r2 r3 h0 h1 h2 h3 : Value}
    (h : Hid (Below V0.heap.size V0 W) ∧ W.cell? ⟨T, 0, none⟩ = some r0 ∧ W.cell? ⟨T, 1, none⟩ = some r1 ∧ W.cell? ⟨T, 2, none⟩ = some r2 ∧ W.cell? ⟨T, 3, none⟩ = some r3 ∧ W.cell? ⟨D, 0, none⟩ = some h0 ∧ W.cell? ⟨D, 1, none⟩ = some h1 ∧ W.cell? ⟨D, 2, none⟩ = some h2 ∧ W.cell? ⟨D, 3, none⟩ = some h3) (hb : Below W.heap.size W W') :
    Hid (Below V0.heap.size V0 W') ∧ W'.cell? ⟨T, 0, none⟩ = some r0 ∧ W'.cell? ⟨T, 1, none⟩ = some r1 ∧ W'.cell? ⟨T, 2, none⟩ = some r2 ∧ W'.cell? ⟨T, 3, none⟩ = some r3 ∧ W'.cell? ⟨D, 0, none⟩ = some h0 ∧ W'.cell? ⟨D, 1, none⟩ = some h1 ∧ W'.cell? ⟨D, 2, none⟩ = some h2 ∧ W'.cell? ⟨D, 3, none⟩ = some h3 :=
  ⟨Lib.hid (h.1.out.trans (hb.mono h.1.out.size)), rs_next h.2 hb⟩
theorem rs_put9 {V0 W : World} {T D B : Nat} {r0 r1 r2 r3 h0 h1 h2 h3 : Value} (v0 v1 v2 v3 : Value)
    (h : Hid (Below V0.heap.size V0 W) ∧ W.cell? ⟨T, 0, none⟩ = some r0 ∧ W.cell? ⟨T, 1, none⟩ = some r1 ∧ W.cell? ⟨T, 2, none⟩ = some r2 ∧ W.cell? ⟨T, 3, none⟩ = some r3 ∧ W.cell? ⟨D, 0, none⟩ = some h0 ∧ W.cell? ⟨D, 1, none⟩ = some h1 ∧ W.cell? ⟨D, 2, none⟩ = some h2 ∧ W.cell? ⟨D, 3, none⟩ = some h3) (hB : V0.heap.size ≤ B) (hT : T ≠ B) (hD : D ≠ B) :
    Hid (Below V0.heap.size V0 ((((W.setCell ⟨B, 0, none⟩ v0).setCell ⟨B, 1, none⟩ v1).setCell ⟨B, 2, none⟩ v2).setCell ⟨B, 3, none⟩ v3)) ∧ ((((W.setCell ⟨B, 0, none⟩ v0).setCell ⟨B, 1, none⟩ v1).setCell ⟨B, 2, none⟩ v2).setCell ⟨B, 3, none⟩ v3).cell? ⟨T, 0, none⟩ = some r0 ∧ ((((W.setCell ⟨B, 0, none⟩ v0).setCell ⟨B, 1, none⟩ v1).setCell ⟨B, 2, none⟩ v2).setCell ⟨B, 3, none⟩ v3).cell? ⟨T, 1, none⟩ = some r1 ∧ ((((W.setCell ⟨B, 0, none⟩ v0).setCell ⟨B, 1, none⟩ v1).setCell ⟨B, 2, none⟩ v2).setCell ⟨B, 3, none⟩ v3).cell? ⟨T, 2, none⟩ = some r2 ∧ ((((W.setCell ⟨B, 0, none⟩ v0).setCell ⟨B, 1, none⟩ v1).setCell ⟨B, 2, none⟩ v2).setCell ⟨B, 3, none⟩ v3).cell? ⟨T, 3, none⟩ = some r3 ∧ ((((W.setCell ⟨B, 0, none⟩ v0).setCell ⟨B, 1, none⟩ v1).setCell ⟨B, 2, none⟩ v2).setCell ⟨B, 3, none⟩ v3).cell? ⟨D, 0, none⟩ = some h0 ∧ ((((W.setCell ⟨B, 0, none⟩ v0).setCell ⟨B, 1, none⟩ v1).setCell ⟨B, 2, none⟩ v2).setCell ⟨B, 3, none⟩ v3).cell? ⟨D, 1, none⟩ = some h1 ∧ ((((W.setCell ⟨B, 0, none⟩ v0).setCell ⟨B, 1, none⟩ v1).setCell ⟨B, 2, none⟩ v2).setCell ⟨B, 3, none⟩ v3).cell? ⟨D, 2, none⟩ = some h2 ∧ ((((W.setCell ⟨B, 0, none⟩ v0).setCell ⟨B, 1, none⟩ v1).setCell ⟨B, 2, none⟩ v2).setCell ⟨B, 3, none⟩ v3).cell? ⟨D, 3, none⟩ = some h3 := by
  obtain ⟨b, k0, k1, k2, k3, k4, k5, k6, k7⟩ := h
  exact ⟨Lib.hid (below_put4 b.out hB _ _ _ _), put4_keep _ _ _ _ _ _ k0 hT, put4_keep _ _ _ _ _ _ k1 hT, put4_keep _ _ _ _ _ _ k2 hT, put4_keep _ _ _ _ _ _ k3 hT, put4_keep _ _ _ _ _ _ k4 hD, put4_keep _ _ _ _ _ _ k5 hD, put4_keep _ _ _ _ _ _ k6 hD, put4_keep _ _ _ _ _ _ k7 hD⟩
theorem swap_cell {W : World} {o o' : Obj} {p : Addr} {v : Value} (hp : p.block < W.heap.size) (h : (W.alloc o).cell? p = some v) : (W.alloc o').cell? p = some v :=
  (World.cell?_of_block ((Below.heap_alloc W o' _ hp).trans (Below.heap_alloc W o _ hp).symm)).trans h
theorem rs_swap9 {V0 W : World} {o o' : Obj} {T D : Nat} {r0 r1 r2 r3 h0 h1 h2 h3 : Value}
    (h : Hid (Below V0.heap.size V0 (W.alloc o)) ∧ (W.alloc o).cell? ⟨T, 0, none⟩ = some r0 ∧ (W.alloc o).cell? ⟨T, 1, none⟩ = some r1 ∧ (W.alloc o).cell? ⟨T, 2, none⟩ = some r2 ∧ (W.alloc o).cell? ⟨T, 3, none⟩ = some r3 ∧ (W.alloc o).cell? ⟨D, 0, none⟩ = some h0 ∧ (W.alloc o).cell? ⟨D, 1, none⟩ = some h1 ∧ (W.alloc o).cell? ⟨D, 2, none⟩ = some h2 ∧ (W.alloc o).cell? ⟨D, 3, none⟩ = some h3) (hs : V0.heap.size ≤ W.heap.size) (hT : T < V0.heap.size) (hD : D < V0.heap.size) :
    Hid (Below V0.heap.size V0 (W.alloc o')) ∧ (W.alloc o').cell? ⟨T, 0, none⟩ = some r0 ∧ (W.alloc o').cell? ⟨T, 1, none⟩ = some r1 ∧ (W.alloc o').cell? ⟨T, 2, none⟩ = some r2 ∧ (W.alloc o').cell? ⟨T, 3, none⟩ = some r3 ∧ (W.alloc o').cell? ⟨D, 0, none⟩ = some h0 ∧ (W.alloc o').cell? ⟨D, 1, none⟩ = some h1 ∧ (W.alloc o').cell? ⟨D, 2, none⟩ = some h2 ∧ (W.alloc o').cell? ⟨D, 3, none⟩ = some h3 := by
  obtain ⟨b, k0, k1, k2, k3, k4, k5, k6, k7⟩ := h
  have hT' : T < W.heap.size := by omega
  have hD' : D < W.heap.size := by omega
  refine ⟨Lib.hid ⟨b.out.os, b.out.tape, b.out.output, by simp; omega, fun j hj => ?_⟩, swap_cell hT' k0, swap_cell hT' k1, swap_cell hT' k2, swap_cell hT' k3, swap_cell hD' k4, swap_cell hD' k5, swap_cell hD' k6, swap_cell hD' k7⟩
  have hj' : j < W.heap.size := by omega
  exact ((Below.heap_alloc W o' j hj').trans (Below.heap_alloc W o j hj').symm).trans (b.out.block j hj)
/-- a new box that stands still beside a call -/
theorem box_next {W w' : World} {v0 v1 v2 v3 : Value} (hb : Below (W.alloc (Obj.cells #[v0, v1, v2, v3] 24)).heap.size (W.alloc (Obj.cells #[v0, v1, v2, v3] 24)) w') : B4 w' W.heap.size v0 v1 v2 v3 := B4.next (heap_alloc_new _ _) hb
/-- the part that was made, in a box: the box made behind the call -/
theorem fin_c {V0 W5 w6 : World} {r : Ty} {b9 : Option Addr} {c9 : Nat} (hs : V0.heap.size ≤ W5.heap.size) (hv : VO (W5.heap.size ≤ ·) w6 r (.agg #[.int .i64 r.op, .int .i64 r.n, .string r.name, .slice b9 r.args.length c9])) (o : Obj) :
    VO (V0.heap.size ≤ ·) (w6.alloc o) r (.agg #[.int .i64 r.op, .int .i64 r.n, .string r.name, .slice b9 r.args.length c9]) :=
  hv.keep (fun g hg => by show V0.heap.size ≤ g; have : W5.heap.size ≤ g := hg; omega) (fun p v _ hc => keeps ((Below.refl _ _).alloc (Nat.le_refl _) _) _ _ hc)
/-- .. made ahead of it -/
theorem fin_p {V0 W5 w6 : World} {B : Nat} {r : Ty} {b9 : Option Addr} {c9 : Nat} (hs : V0.heap.size ≤ W5.heap.size) (hB : B < W5.heap.size) (hv : VO (W5.heap.size ≤ ·) w6 r (.agg #[.int .i64 r.op, .int .i64 r.n, .string r.name, .slice b9 r.args.length c9])) (v0 v1 v2 v3 : Value) :
    VO (V0.heap.size ≤ ·) (put4 w6 B v0 v1 v2 v3) r (.agg #[.int .i64 r.op, .int .i64 r.n, .string r.name, .slice b9 r.args.length c9]) :=
  hv.keep (fun g hg => by show V0.heap.size ≤ g; have : W5.heap.size ≤ g := hg; omega) (fun p v hp hc => put4_keep _ _ _ _ p v hc (by have : W5.heap.size ≤ p.block := hp; omega))
theorem underN_zero (op : Int) : underN op 0 = 0 := if_neg (by intro h; have := h.2; omega)
theorem underN_one (op : Int) : underN op 1 = (undN op : Nat) := by
  unfold underN undN
  by_cases h : op = 4 <;> simp [h]
section
variable {d f : Int}
set_option maxRecDepth 100000 in
set_option maxHeartbeats 16000000 in
theorem rsh_node (op : Int) (x y : Ty) (hop : op = 3 ∨ op = 4 ∨ op = 5) (hgy : Good y) (hx : RShC d f x) (hy : RShC d f y) : RShC d f (.mk op 0 [] [x, y]) := by
  intro v k w hv hk
  obtain ⟨i0, hi0, hz0, hz1, hz2⟩ := info_parts info24
  have HI0 := Lib.hid hi0
  have HZ0 := Lib.hid hz0
  have HZ1 := Lib.hid hz1
  have HZ2 := Lib.hid hz2
  clear hi0 hz0 hz1 hz2
  have hvt := hv
  obtain ⟨b, c, ev, _, hl, h4⟩ := hv
  rcases h4 with h4 | ⟨g, o, rfl, hrow⟩
  · cases h4
  have ev2 : v = .agg #[.int .i64 op, .int .i64 0, .string ⟨#[]⟩, .slice (some ⟨g, o, none⟩) 2 c] := ev
  rw [ev2] at hvt ⊢
  clear ev ev2 hl
  rw [nodes_node] at hk
  have hu := undN_le op
  have hpx := nodes_pos x
  have hpy := nodes_pos y
  have hk1 : k + nodes x ≤ 1000000 := by omega
  have hk2 : k + undN op + nodes y ≤ 1000000 := by omega
  obtain ⟨hrx, hry, _⟩ := hrow
  obtain ⟨xb, xc, x0, x1, x2, x3, hvx⟩ := at_v hrx
  obtain ⟨yb, yc, y0, y1, y2, y3, hvy⟩ := at_v hry
  have hc0 := fun (W : World) (hb : Below w.heap.size w W) => hx _ k W (hvx.next hb) hk1
  have hc1 := fun (W : World) (hb : Below w.heap.size w W) => hy _ (k + undN op) W (hvy.next hb) hk2
  have hu0 : ∀ (W : World) (hb : Below w.heap.size w W), Calls Try.prog 100 #[.agg #[.int .i64 op, .int .i64 0, .string ⟨#[]⟩, .slice (some ⟨g, o, none⟩) 2 c], .int .i64 0] W fun e w' => e = .returned (.int .i64 (underN op 0)) ∧ Below W.heap.size W w' := fun W hb => under_any (.mk op 0 [] [x, y]) _ 0 W (hvt.next hb)
  have hu1 : ∀ (W : World) (hb : Below w.heap.size w W), Calls Try.prog 100 #[.agg #[.int .i64 op, .int .i64 0, .string ⟨#[]⟩, .slice (some ⟨g, o, none⟩) 2 c], .int .i64 1] W fun e w' => e = .returned (.int .i64 (underN op 1)) ∧ Below W.heap.size W w' := fun W hb => under_any (.mk op 0 [] [x, y]) _ 1 W (hvt.next hb)
  rw [underN_zero] at hu0
  rw [underN_one] at hu1
  unfold RShP at hc0 hc1 ⊢
  rw [reb_node, reb_shF d f y hgy _ (reb (shF d f) x k true).2]
  obtain ⟨p0, hp0⟩ : ∃ p, p = reb (shF d f) x k true := ⟨_, rfl⟩
  obtain ⟨p1, hp1⟩ : ∃ p, p = reb (shF d f) y (k + undN op) true := ⟨_, rfl⟩
  rw [← hp0] at hc0 ⊢
  rw [← hp1] at hc1 ⊢
  clear hp0 hp1
  obtain ⟨r0, k0⟩ := p0
  obtain ⟨r1, k1⟩ := p1
  simp only at hc0 hc1 ⊢
  have HC0 := Lib.hid hc0
  have HC1 := Lib.hid hc1
  have HU0 := Lib.hid hu0
  have HU1 := Lib.hid hu1
  have Y0 := Lib.hid y0
  have Y1 := Lib.hid y1
  have Y2 := Lib.hid y2
  have Y3 := Lib.hid y3
  clear hc0 hc1 hu0 hu1 hvx hvy hrx hry hvt hx hy hk y0 y1 y2 y3 hgy hpx hpy
  have hopq : (op == 1) = false := by simp; omega
  have HR := Lib.hid (RS.new w (.int .i64 op) (.int .i64 0) (.string ⟨#[]⟩) (.slice (some ⟨g, o, none⟩) 2 c) (.int .i64 op) (.int .i64 0) (.string ⟨#[]⟩))
  clear hop
  go_enter Try.func65, Try.ntmps65
  go_upto_region 2 with fail
  obtain ⟨W3, hW3⟩ : ∃ W3, W3 = ((w.alloc (Obj.cells #[.int .i64 op, .int .i64 0, .string ⟨#[]⟩, .slice (some ⟨g, o, none⟩) 2 c] 24)).alloc (Obj.cells #[.int .i64 0, .int .i64 0, .string ⟨#[]⟩, .slice none 0 0] 24)).alloc (Obj.cells #[.int .i64 op, .int .i64 0, .string ⟨#[]⟩, .slice none 0 0] 24) := ⟨_, rfl⟩
  rw [← hW3] at HR ⊢
  clear hW3
  obtain ⟨q0, q1, q2, q3⟩ := HR.out.box.cells
  replace x0 := keeps HR.out.below _ _ x0
  replace x1 := keeps HR.out.below _ _ x1
  replace x2 := keeps HR.out.below _ _ x2
  replace x3 := keeps HR.out.below _ _ x3
  go_wp2_with fail
  refine wp_loop_rounds 3 ?_
  rw [rounds_succ]
  go_upto_region 9 with fail
  obtain ⟨D0, hD0⟩ : ∃ D0, D0 = W3.heap.size := ⟨_, rfl⟩
  obtain ⟨W0, hW0⟩ : ∃ W0, W0 = W3.alloc (Obj.cells #[.int .i64 x.op, .int .i64 x.n, .string x.name, .slice xb x.args.length xc] 24) := ⟨_, rfl⟩
  have ht13 : B4 W0.drew D0 (.int .i64 x.op) (.int .i64 x.n) (.string x.name) (.slice xb x.args.length xc) := by rw [hW0, hD0]; exact heap_alloc_new _ _
  have hb9 : Below W3.heap.size W3 W0 := by rw [hW0]; exact (Below.refl _ _).alloc (Nat.le_refl _) _
  rw [← hW0, ← hD0]
  clear hW0 hD0
  have HR0 := Lib.hid ((HR.out.next hb9).drew)
  have HT0 := Lib.hid ht13
  have HUR0 := Lib.hid (fun (W : World) (hb : Below W0.drew.heap.size W0.drew W) => (HU0.out W (HR0.out.below.trans (hb.mono HR0.out.below.size))).mono fun e w' ⟨h1, h2⟩ => (⟨h1, h2, Nat.le_trans hb.size h2.size⟩ : e = Ending.returned (Value.int .i64 0) ∧ Below W.heap.size W w' ∧ W0.drew.heap.size ≤ w'.heap.size))
  have HCR0 := Lib.hid (fun (W : World) (hb : Below W0.drew.heap.size W0.drew W) => (HC0.out W (HR0.out.below.trans (hb.mono HR0.out.below.size))).mono fun e w' ⟨v, h1, h2, h3⟩ => (⟨v, h1, h2, h3, hb.size⟩ : ∃ v', e = Ending.returned (Value.tuple #[v', Value.bool k0]) ∧ VO (W.heap.size ≤ ·) w' r0 v' ∧ Below W.heap.size W w' ∧ W0.drew.heap.size ≤ W.heap.size))
  clear hb9 ht13 x0 x1 x2 x3 q0 q1 q2 q3
  go_cut [14, 15] (fun s14 s15 wx => ∃ (B : Nat) (b9 : Option Addr) (c9 : Nat), s14 = .pointer (some ⟨B, 0, none⟩) ∧ s15 = .bool k0 ∧ Hid (B4 wx B (.int .i64 r0.op) (.int .i64 r0.n) (.string r0.name) (.slice b9 r0.args.length c9)) ∧ Hid (VO (W0.drew.heap.size ≤ ·) wx r0 (.agg #[.int .i64 r0.op, .int .i64 r0.n, .string r0.name, .slice b9 r0.args.length c9])) ∧ Hid (Below W0.drew.heap.size W0.drew wx))
  case first =>
    obtain ⟨q0, q1, q2, q3⟩ := HR0.out.box.cells
    obtain ⟨t0, t1, t2, t3⟩ := HT0.out.cells
    have HKB : Hid (Below W0.drew.heap.size W0.drew W0.drew) := Lib.hid (Below.refl _ _)
    have hz0 : IntKind.i64.wrap ((k : Int) + 0) = (k : Int) := by rw [Int.add_zero]; exact IntWalk.i64_in _ (by omega)
    have hz1 : IntKind.i64.wrap (k : Int) = (k : Int) := IntWalk.i64_in _ (by omega)
    have hlt1 := lt_of_block HT0.out
    have hlt2 := HR0.out.big
    have hlt3 : w.heap.size < W0.drew.heap.size := by omega
    have hle0 : W0.drew.heap.size ≤ W0.heap.size := Nat.le_refl _
    have hne1 : w.heap.size ≠ W0.heap.size := by omega
    have hne2 : D0 ≠ W0.heap.size := by omega
    go_region_held3 (fun W => Hid (Below W0.drew.heap.size W0.drew W) ∧ W.cell? ⟨w.heap.size, 0, none⟩ = some (.int .i64 op) ∧ W.cell? ⟨w.heap.size, 1, none⟩ = some (.int .i64 0) ∧ W.cell? ⟨w.heap.size, 2, none⟩ = some (.string ⟨#[]⟩) ∧ W.cell? ⟨w.heap.size, 3, none⟩ = some (.slice (some ⟨g, o, none⟩) 2 c) ∧ W.cell? ⟨D0, 0, none⟩ = some (.int .i64 x.op) ∧ W.cell? ⟨D0, 1, none⟩ = some (.int .i64 x.n) ∧ W.cell? ⟨D0, 2, none⟩ = some (.string x.name) ∧ W.cell? ⟨D0, 3, none⟩ = some (.slice xb x.args.length xc))
      (first | (with_reducible exact ⟨HKB, q0, q1, q2, q3, t0, t1, t2, t3⟩) | assumption | ((with_reducible refine rs_next9 ?_ hb); assumption) | (exact rs_next9 (W := W0.drew) ⟨HKB, q0, q1, q2, q3, t0, t1, t2, t3⟩ (show Below W0.drew.heap.size W0.drew (W0.drew.alloc _) from (Below.refl _ _).alloc (Nat.le_refl _) _)) | ((with_reducible refine rs_next9 ?_ ((Below.refl _ _).alloc (Nat.le_refl _) _)); assumption) | ((with_reducible refine rs_put9 (B := W0.heap.size) _ _ _ _ ?_ hle0 hne1 hne2); assumption) | ((with_reducible refine rs_put9 (B := w5.heap.size) _ _ _ _ ?_ hsz5 hne3 hne4); assumption) | ((with_reducible refine rs_swap9 (o := Obj.cells #[.int .i64 0, .int .i64 0, .string ⟨#[]⟩, .slice none 0 0] 24) ?_ hsz7 hlt3 hlt1); assumption))
      (first
      | (go_at_call 100; refine (HUR0.out _ (Hid.out (And.left (by assumption)))).mono ?_; rintro e w5 ⟨rfl, hb, hsz5⟩; (try have HZB := Lib.hid (box_next hb)); (try have HZB := Lib.hid (box_next (W := W0) (w' := w5) ⟨hb.os, hb.tape, hb.output, hb.size, hb.block⟩)); have hne3 : w.heap.size ≠ w5.heap.size := (by omega); have hne4 : D0 ≠ w5.heap.size := (by omega))
      | (go_at_call 65; refine (HCR0.out _ (Hid.out (And.left (by assumption)))).mono ?_; rintro e w6 ⟨v6, rfl, hvo, hb, hsz6⟩; have hsz7 := Nat.le_trans hsz6 hb.size; have hvo2 := Lib.hid hvo; obtain ⟨b9, c9, rfl, _, _⟩ := hvo; (try have HZC := Lib.hid (HZB.out.next hb)); (try have HZC := Lib.hid (box_next hb)); (try obtain ⟨e0, e1, e2, e3⟩ := HZC.out.cells); (try have f0 := HZC.out.frozen 0); (try have f1 := HZC.out.frozen 1); (try have f2 := HZC.out.frozen 2); (try have f3 := HZC.out.frozen 3)))
    all_goals
      rename_i hHeld
      have HH := Lib.hid hHeld.1.out
      clear hHeld
      go_wp2_with fail
      go_meet
      first
      | (have hzb := HZB.out; exact ⟨W0.heap.size, b9, c9, rfl, rfl, Lib.hid (put4_cells HZC.out _ _ _ _), Lib.hid (fin_p hsz6 (lt_of_block hzb) hvo2.out _ _ _ _), HH⟩)
      | (have hzc := HZC.out; exact ⟨w5.heap.size, b9, c9, rfl, rfl, Lib.hid (put4_cells hzc _ _ _ _), Lib.hid (fin_p (W5 := w5.alloc (Obj.cells #[.int .i64 0, .int .i64 0, .string ⟨#[]⟩, .slice none 0 0] 24)) hsz6 (by simp) hvo2.out _ _ _ _), HH⟩)
      | exact ⟨w6.heap.size, b9, c9, rfl, rfl, Lib.hid (heap_alloc_new _ _), Lib.hid (fin_c hsz6 hvo2.out _), HH⟩
  case rest =>
  obtain ⟨E0, b0', c0', rfl, rfl, HBX0, HVX0, HBL0⟩ := hcut
  have HRa0 := Lib.hid (HR0.out.next HBL0.out)
  have HBG0 := Lib.hid HR0.out.big
  have HOW0 := Lib.hid HR0.out.own
  obtain ⟨v0', hv0'⟩ : ∃ v', v' = wc := ⟨_, rfl⟩
  rw [← hv0'] at HBX0 HVX0 HBL0 HRa0 ⊢
  clear hv0' HUR0 HCR0 HT0
  obtain ⟨t0, t1, t2, t3⟩ := HBX0.out.cells
  obtain ⟨p0, p1, p2, p3⟩ := HRa0.out.out.cells
  go_upto_region 11 with fail
  have hnew : Below v0'.heap.size v0' (v0'.alloc (Obj.cells #[.int .i64 r0.op, .int .i64 r0.n, .string r0.name, .slice b0' r0.args.length c0'] 24)) := (Below.refl _ _).alloc (Nat.le_refl _) _
  obtain ⟨hs9, hl9⟩ := vo_parts HVX0.out
  have HTC := Lib.hid (own_new (w := v0'.alloc (Obj.cells #[.int .i64 r0.op, .int .i64 r0.n, .string r0.name, .slice b0' r0.args.length c0'] 24)) (c9 := c0') HOW0.out HBG0.out hs9 hl9 (fun p v _ hc => keeps hnew _ _ hc))
  have HNEW := Lib.hid (heap_alloc_new v0' (Obj.cells #[.int .i64 r0.op, .int .i64 r0.n, .string r0.name, .slice b0' r0.args.length c0'] 24))
  have HRN := Lib.hid (HRa0.out.next hnew)
  obtain ⟨ds, hdl, hown, hall⟩ := own_nodes HRN.out.own
  have HDL : Hid (ds.length = 0) := Lib.hid hdl
  have HOWN := Lib.hid hown
  have HALL := Lib.hid hall
  have HSZ : Hid (v0'.heap.size + 1 = (v0'.alloc (Obj.cells #[.int .i64 r0.op, .int .i64 r0.n, .string r0.name, .slice b0' r0.args.length c0'] 24)).heap.size) := Lib.hid (by simp)
  clear hnew hs9 hl9 hdl hown hall
  go_wp2_with (at_builtin; go_loud (refine wpList_append_lies _ rfl (.tmp 71) (.tmp 73) 22 rfl (w.heap.size + 3) 24 i0 _ 4 56 Try.underlying22 HI0.out HZ0.out HZ1.out HZ2.out rfl (by omega) _ ds.length (TC.all ds) rfl HOWN.out ⟨v0'.heap.size, 0, none⟩ 1 1 (TC.enc ⟨r0.op, r0.n, r0.name, b0', r0.args.length, c0'⟩) rfl rfl (World.news_of_block HNEW.out) (TC.enc_one _) (by omega) (by unfold maxLen; have := HDL.out; omega) (by have := HDL.out; omega) (by have := HSZ.out; have := HBG0.out; have := HBL0.out.size; omega) _ rfl ?_; intro g1 cap1 w5 hown5 hgr5 hlie5 _; have HSN := Lib.hid (HRN.out.snoc HOWN.out HALL.out HTC.out hown5 hgr5 hlie5); clear hown5 hgr5 hlie5; obtain ⟨z0, z1, z2, z3⟩ := HSN.out.1.2.2.2.cells; have f3 := HSN.out.1.2.2.2.frozen 3; have HFIN : Hid (RS w (.int .i64 op) (.int .i64 0) (.string ⟨#[]⟩) (.slice (some ⟨g, o, none⟩) 2 c) (.int .i64 op) (.int .i64 0) (.string ⟨#[]⟩) (.slice (some ⟨g1, 0, none⟩) (ds.length + 1) cap1) [r0] (w5.setCell ⟨w.heap.size + 2, 3, none⟩ (.slice (some ⟨g1, 0, none⟩) (ds.length + 1) cap1))) := Lib.hid HSN.out.2))
  obtain ⟨u0', hu0'⟩ : ∃ u', u' = w5.setCell ⟨w.heap.size + 2, 3, none⟩ (.slice (some ⟨g1, 0, none⟩) (ds.length + 1) cap1) := ⟨_, rfl⟩
  have HRb0 := HFIN
  clear HFIN HSN z0 z1 z2 z3 f3 HOWN HALL HTC HNEW HRN HSZ
  rw [← hu0'] at HRb0 ⊢
  have hu9 : Below w.heap.size w u0' := HRb0.out.below
  clear hu0' hu9 t0 t1 t2 t3 p0 p1 p2 p3 HRa0 HBG0 HOW0 HBX0 HVX0 HBL0 HR0
  obtain ⟨q0, q1, q2, q3⟩ := HRb0.out.box.cells
  have x0 := keeps HRb0.out.below _ _ Y0.out
  have x1 := keeps HRb0.out.below _ _ Y1.out
  have x2 := keeps HRb0.out.below _ _ Y2.out
  have x3 := keeps HRb0.out.below _ _ Y3.out
  clear HC0 HU0 Y0 Y1 Y2 Y3
  rw [rounds_succ]
  go_upto_region 9 with fail
  obtain ⟨D1, hD1⟩ : ∃ D1, D1 = u0'.heap.size := ⟨_, rfl⟩
  obtain ⟨W1, hW1⟩ : ∃ W1, W1 = u0'.alloc (Obj.cells #[.int .i64 y.op, .int .i64 y.n, .string y.name, .slice yb y.args.length yc] 24) := ⟨_, rfl⟩
  have ht13 : B4 W1.drew D1 (.int .i64 y.op) (.int .i64 y.n) (.string y.name) (.slice yb y.args.length yc) := by rw [hW1, hD1]; exact heap_alloc_new _ _
  have hb9 : Below u0'.heap.size u0' W1 := by rw [hW1]; exact (Below.refl _ _).alloc (Nat.le_refl _) _
  rw [← hW1, ← hD1]
  clear hW1 hD1
  have HR1 := Lib.hid ((HRb0.out.next hb9).drew)
  have HT1 := Lib.hid ht13
  have HUR1 := Lib.hid (fun (W : World) (hb : Below W1.drew.heap.size W1.drew W) => (HU1.out W (HR1.out.below.trans (hb.mono HR1.out.below.size))).mono fun e w' ⟨h1, h2⟩ => (⟨h1, h2, Nat.le_trans hb.size h2.size⟩ : e = Ending.returned (Value.int .i64 (undN op : Nat)) ∧ Below W.heap.size W w' ∧ W1.drew.heap.size ≤ w'.heap.size))
  have HCR1 := Lib.hid (fun (W : World) (hb : Below W1.drew.heap.size W1.drew W) => (HC1.out W (HR1.out.below.trans (hb.mono HR1.out.below.size))).mono fun e w' ⟨v, h1, h2, h3⟩ => (⟨v, h1, h2, h3, hb.size⟩ : ∃ v', e = Ending.returned (Value.tuple #[v', Value.bool k1]) ∧ VO (W.heap.size ≤ ·) w' r1 v' ∧ Below W.heap.size W w' ∧ W1.drew.heap.size ≤ W.heap.size))
  clear hb9 ht13 x0 x1 x2 x3 q0 q1 q2 q3
  go_cut [14, 15] (fun s14 s15 wx => ∃ (B : Nat) (b9 : Option Addr) (c9 : Nat), s14 = .pointer (some ⟨B, 0, none⟩) ∧ s15 = .bool k1 ∧ Hid (B4 wx B (.int .i64 r1.op) (.int .i64 r1.n) (.string r1.name) (.slice b9 r1.args.length c9)) ∧ Hid (VO (W1.drew.heap.size ≤ ·) wx r1 (.agg #[.int .i64 r1.op, .int .i64 r1.n, .string r1.name, .slice b9 r1.args.length c9])) ∧ Hid (Below W1.drew.heap.size W1.drew wx))
  case first =>
    obtain ⟨q0, q1, q2, q3⟩ := HR1.out.box.cells
    obtain ⟨t0, t1, t2, t3⟩ := HT1.out.cells
    have HKB : Hid (Below W1.drew.heap.size W1.drew W1.drew) := Lib.hid (Below.refl _ _)
    have hz0 : IntKind.i64.wrap ((k : Int) + (undN op : Nat)) = ((k + undN op : Nat) : Int) := by rw [IntWalk.i64_in _ (by omega)]; omega
    have hlt1 := lt_of_block HT1.out
    have hlt2 := HR1.out.big
    have hlt3 : w.heap.size < W1.drew.heap.size := by omega
    have hle0 : W1.drew.heap.size ≤ W1.heap.size := Nat.le_refl _
    have hne1 : w.heap.size ≠ W1.heap.size := by omega
    have hne2 : D1 ≠ W1.heap.size := by omega
    go_region_held3 (fun W => Hid (Below W1.drew.heap.size W1.drew W) ∧ W.cell? ⟨w.heap.size, 0, none⟩ = some (.int .i64 op) ∧ W.cell? ⟨w.heap.size, 1, none⟩ = some (.int .i64 0) ∧ W.cell? ⟨w.heap.size, 2, none⟩ = some (.string ⟨#[]⟩) ∧ W.cell? ⟨w.heap.size, 3, none⟩ = some (.slice (some ⟨g, o, none⟩) 2 c) ∧ W.cell? ⟨D1, 0, none⟩ = some (.int .i64 y.op) ∧ W.cell? ⟨D1, 1, none⟩ = some (.int .i64 y.n) ∧ W.cell? ⟨D1, 2, none⟩ = some (.string y.name) ∧ W.cell? ⟨D1, 3, none⟩ = some (.slice yb y.args.length yc))
      (first | (with_reducible exact ⟨HKB, q0, q1, q2, q3, t0, t1, t2, t3⟩) | assumption | ((with_reducible refine rs_next9 ?_ hb); assumption) | (exact rs_next9 (W := W1.drew) ⟨HKB, q0, q1, q2, q3, t0, t1, t2, t3⟩ (show Below W1.drew.heap.size W1.drew (W1.drew.alloc _) from (Below.refl _ _).alloc (Nat.le_refl _) _)) | ((with_reducible refine rs_next9 ?_ ((Below.refl _ _).alloc (Nat.le_refl _) _)); assumption) | ((with_reducible refine rs_put9 (B := W1.heap.size) _ _ _ _ ?_ hle0 hne1 hne2); assumption) | ((with_reducible refine rs_put9 (B := w5.heap.size) _ _ _ _ ?_ hsz5 hne3 hne4); assumption) | ((with_reducible refine rs_swap9 (o := Obj.cells #[.int .i64 0, .int .i64 0, .string ⟨#[]⟩, .slice none 0 0] 24) ?_ hsz7 hlt3 hlt1); assumption))
      (first
      | (go_at_call 100; refine (HUR1.out _ (Hid.out (And.left (by assumption)))).mono ?_; rintro e w5 ⟨rfl, hb, hsz5⟩; (try have HZB := Lib.hid (box_next hb)); (try have HZB := Lib.hid (box_next (W := W1) (w' := w5) ⟨hb.os, hb.tape, hb.output, hb.size, hb.block⟩)); have hne3 : w.heap.size ≠ w5.heap.size := (by omega); have hne4 : D1 ≠ w5.heap.size := (by omega))
      | (go_at_call 65; refine (HCR1.out _ (Hid.out (And.left (by assumption)))).mono ?_; rintro e w6 ⟨v6, rfl, hvo, hb, hsz6⟩; have hsz7 := Nat.le_trans hsz6 hb.size; have hvo2 := Lib.hid hvo; obtain ⟨b9, c9, rfl, _, _⟩ := hvo; (try have HZC := Lib.hid (HZB.out.next hb)); (try have HZC := Lib.hid (box_next hb)); (try obtain ⟨e0, e1, e2, e3⟩ := HZC.out.cells); (try have f0 := HZC.out.frozen 0); (try have f1 := HZC.out.frozen 1); (try have f2 := HZC.out.frozen 2); (try have f3 := HZC.out.frozen 3)))
    all_goals
      rename_i hHeld
      have HH := Lib.hid hHeld.1.out
      clear hHeld
      go_wp2_with fail
      go_meet
      first
      | (have hzb := HZB.out; exact ⟨W1.heap.size, b9, c9, rfl, rfl, Lib.hid (put4_cells HZC.out _ _ _ _), Lib.hid (fin_p hsz6 (lt_of_block hzb) hvo2.out _ _ _ _), HH⟩)
      | (have hzc := HZC.out; exact ⟨w5.heap.size, b9, c9, rfl, rfl, Lib.hid (put4_cells hzc _ _ _ _), Lib.hid (fin_p (W5 := w5.alloc (Obj.cells #[.int .i64 0, .int .i64 0, .string ⟨#[]⟩, .slice none 0 0] 24)) hsz6 (by simp) hvo2.out _ _ _ _), HH⟩)
      | exact ⟨w6.heap.size, b9, c9, rfl, rfl, Lib.hid (heap_alloc_new _ _), Lib.hid (fin_c hsz6 hvo2.out _), HH⟩
  case rest =>
  obtain ⟨E1, b1', c1', rfl, rfl, HBX1, HVX1, HBL1⟩ := hcut
  have HRa1 := Lib.hid (HR1.out.next HBL1.out)
  have HBG1 := Lib.hid HR1.out.big
  have HOW1 := Lib.hid HR1.out.own
  obtain ⟨v1', hv1'⟩ : ∃ v', v' = wc := ⟨_, rfl⟩
  rw [← hv1'] at HBX1 HVX1 HBL1 HRa1 ⊢
  clear hv1' HUR1 HCR1 HT1
  obtain ⟨t0, t1, t2, t3⟩ := HBX1.out.cells
  obtain ⟨p0, p1, p2, p3⟩ := HRa1.out.out.cells
  cases k0
  all_goals
    go_upto_region 11 with fail
    have hnew : Below v1'.heap.size v1' (v1'.alloc (Obj.cells #[.int .i64 r1.op, .int .i64 r1.n, .string r1.name, .slice b1' r1.args.length c1'] 24)) := (Below.refl _ _).alloc (Nat.le_refl _) _
    obtain ⟨hs9, hl9⟩ := vo_parts HVX1.out
    have HTC := Lib.hid (own_new (w := v1'.alloc (Obj.cells #[.int .i64 r1.op, .int .i64 r1.n, .string r1.name, .slice b1' r1.args.length c1'] 24)) (c9 := c1') HOW1.out HBG1.out hs9 hl9 (fun p v _ hc => keeps hnew _ _ hc))
    have HNEW := Lib.hid (heap_alloc_new v1' (Obj.cells #[.int .i64 r1.op, .int .i64 r1.n, .string r1.name, .slice b1' r1.args.length c1'] 24))
    have HRN := Lib.hid (HRa1.out.next hnew)
    obtain ⟨ds, hdl, hown, hall⟩ := own_nodes HRN.out.own
    have HDL : Hid (ds.length = 1) := Lib.hid hdl
    have HOWN := Lib.hid hown
    have HALL := Lib.hid hall
    have HSZ : Hid (v1'.heap.size + 1 = (v1'.alloc (Obj.cells #[.int .i64 r1.op, .int .i64 r1.n, .string r1.name, .slice b1' r1.args.length c1'] 24)).heap.size) := Lib.hid (by simp)
    clear hnew hs9 hl9 hdl hown hall
    go_wp2_with (at_builtin; go_loud (refine wpList_append_lies _ rfl (.tmp 71) (.tmp 73) 22 rfl (w.heap.size + 3) 24 i0 _ 4 56 Try.underlying22 HI0.out HZ0.out HZ1.out HZ2.out rfl (by omega) _ ds.length (TC.all ds) rfl HOWN.out ⟨v1'.heap.size, 0, none⟩ 1 1 (TC.enc ⟨r1.op, r1.n, r1.name, b1', r1.args.length, c1'⟩) rfl rfl (World.news_of_block HNEW.out) (TC.enc_one _) (by omega) (by unfold maxLen; have := HDL.out; omega) (by have := HDL.out; omega) (by have := HSZ.out; have := HBG1.out; have := HBL1.out.size; omega) _ rfl ?_; intro g1 cap1 w5 hown5 hgr5 hlie5 _; have HSN := Lib.hid (HRN.out.snoc HOWN.out HALL.out HTC.out hown5 hgr5 hlie5); clear hown5 hgr5 hlie5; obtain ⟨z0, z1, z2, z3⟩ := HSN.out.1.2.2.2.cells; have f3 := HSN.out.1.2.2.2.frozen 3; have HFIN : Hid (RS w (.int .i64 op) (.int .i64 0) (.string ⟨#[]⟩) (.slice (some ⟨g, o, none⟩) 2 c) (.int .i64 op) (.int .i64 0) (.string ⟨#[]⟩) (.slice (some ⟨g1, 0, none⟩) (ds.length + 1) cap1) [r0, r1] (w5.setCell ⟨w.heap.size + 2, 3, none⟩ (.slice (some ⟨g1, 0, none⟩) (ds.length + 1) cap1))) := Lib.hid HSN.out.2))
    obtain ⟨u1', hu1'⟩ : ∃ u', u' = w5.setCell ⟨w.heap.size + 2, 3, none⟩ (.slice (some ⟨g1, 0, none⟩) (ds.length + 1) cap1) := ⟨_, rfl⟩
    have HRb1 := HFIN
    clear HFIN HSN z0 z1 z2 z3 f3 HOWN HALL HTC HNEW HRN HSZ
    rw [← hu1'] at HRb1 ⊢
    have hu9 : Below w.heap.size w u1' := HRb1.out.below
    clear hu1' hu9 t0 t1 t2 t3 p0 p1 p2 p3 HRa1 HBG1 HOW1 HBX1 HVX1 HBL1 HR1
    obtain ⟨p0, p1, p2, p3⟩ := HRb1.out.out.cells
    obtain ⟨z0, z1, z2, z3⟩ := HRb1.out.res.cells
    have f0 := HRb1.out.res.frozen 0
    have f1 := HRb1.out.res.frozen 1
    have f2 := HRb1.out.res.frozen 2
    have f3 := HRb1.out.res.frozen 3
    rw [rounds_succ]
    go_wp2_with fail
    refine bodyPost_ret (results_two (a := 8) (b := 9) (by kernel_rfl) (B := w.heap.size + 1) (by rfl) (by rfl) (put4_cells HRb1.out.res _ _ _ _).cells.1 (put4_cells HRb1.out.res _ _ _ _).cells.2.1 (put4_cells HRb1.out.res _ _ _ _).cells.2.2.1 (put4_cells HRb1.out.res _ _ _ _).cells.2.2.2) rfl ?_
    obtain ⟨bb, cap, hov, hfin⟩ := HRb1.out.done (by decide) (by show 2 ≤ 1000000; decide)
    exact ⟨_, rfl, by have h9 := hfin (.int .i64 op) (.int .i64 0) (.string ⟨#[]⟩) (.slice bb 2 cap); simp only [hov]; exact h9, below_put4 HRb1.out.below (by omega) _ _ _ _⟩
end
end Ty
end Go.Proofs.Ytkedhnahgpmkaaa
