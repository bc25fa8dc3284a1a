/- What anew.Type returns: the type, its rows in new blocks. Conditions: the type is well formed and lies where the pointer leads. -/
import Derived.Test.YtfjgebdpbmnicaaJ07
import Derived.Deep.RegionHeld3
import Derived.IntWalk
namespace Go.Proofs.Ytfjgebdpbmnicaa
open Go.RowKit

namespace Ty
/-- copies of a type by its place -/
def AnewC (t : Ty) : Prop := ∀ (w : World) (g o : Nat), At w g o t → Calls Try.prog 58 #[.pointer (some ⟨g, o, none⟩)] w (RetF t w)
/-- copies of a list of types -/
def RetL (l : List Ty) (w : World) (e : Ending) (w' : World) : Prop := ∃ b c, e = .returned (.slice b l.length c) ∧ SlO (w.heap.size ≤ ·) w' b l ∧ Below w.heap.size w w'

set_option maxHeartbeats 2000000 in
theorem each_nil (b : Option Addr) (c : Nat) (w : World) : Calls Try.prog 87 #[.slice b 0 c, .func (.func 58) #[] #[]] w fun e w' => e = .returned (.slice none 0 0) ∧ w' = w := by
  go_enter Try.func87, Try.ntmps87
  go_wp2_with fail
  go_ret
  exact ⟨rfl, rfl⟩
set_option maxHeartbeats 2000000 in
theorem types_nil (b : Option Addr) (c : Nat) (w : World) : Calls Try.prog 78 #[.slice b 0 c] w (RetL [] w) := by
  go_enter Try.func78, Try.ntmps78
  go_wp2_with fail
  refine (each_nil b c w).mono ?_
  rintro e w' ⟨rfl, rfl⟩
  go_wp2_with fail
  go_ret
  exact ⟨none, 0, rfl, ⟨Nat.zero_le _, .inl rfl⟩, Below.refl _ _⟩

theorem an_one {W : World} {B : Nat} {p : Addr} {c : Value} (v0 v1 v2 v3 : Value) (h : W.cell? p = some c) (hn : p.block ≠ B) : ((((W.setCell ⟨B, 0, none⟩ v0).setCell ⟨B, 1, none⟩ v1).setCell ⟨B, 2, none⟩ v2).setCell ⟨B, 3, none⟩ v3).cell? p = some c := by
  have h2 := put4_keep (B := B) v0 v1 v2 v3 p c h hn
  unfold put4 at h2
  exact h2
theorem an_put {W : World} {B g o : Nat} {c0 c1 c2 c3 : Value} (v0 v1 v2 v3 : Value) (h : W.cell? ⟨g, o, none⟩ = some c0 ∧ W.cell? ⟨g, o + 1, none⟩ = some c1 ∧ W.cell? ⟨g, o + 2, none⟩ = some c2 ∧ W.cell? ⟨g, o + 3, none⟩ = some c3) (hne : g ≠ B) : ((((W.setCell ⟨B, 0, none⟩ v0).setCell ⟨B, 1, none⟩ v1).setCell ⟨B, 2, none⟩ v2).setCell ⟨B, 3, none⟩ v3).cell? ⟨g, o, none⟩ = some c0 ∧ ((((W.setCell ⟨B, 0, none⟩ v0).setCell ⟨B, 1, none⟩ v1).setCell ⟨B, 2, none⟩ v2).setCell ⟨B, 3, none⟩ v3).cell? ⟨g, o + 1, none⟩ = some c1 ∧ ((((W.setCell ⟨B, 0, none⟩ v0).setCell ⟨B, 1, none⟩ v1).setCell ⟨B, 2, none⟩ v2).setCell ⟨B, 3, none⟩ v3).cell? ⟨g, o + 2, none⟩ = some c2 ∧ ((((W.setCell ⟨B, 0, none⟩ v0).setCell ⟨B, 1, none⟩ v1).setCell ⟨B, 2, none⟩ v2).setCell ⟨B, 3, none⟩ v3).cell? ⟨g, o + 3, none⟩ = some c3 :=
  ⟨an_one v0 v1 v2 v3 h.1 hne, an_one v0 v1 v2 v3 h.2.1 hne, an_one v0 v1 v2 v3 h.2.2.1 hne, an_one v0 v1 v2 v3 h.2.2.2 hne⟩

set_option maxHeartbeats 4000000 in
theorem anew_of (op n : Int) (s : List UInt8) (l : List Ty) (w : World) (g o : Nat) (ha : At w g o (.mk op n s l))
    (hl : ∀ (W : World) (b : Option Addr) (c : Nat), Below w.heap.size w W → Sl w b l → Calls Try.prog 78 #[.slice b l.length c] W (RetL l W)) : Calls Try.prog 58 #[.pointer (some ⟨g, o, none⟩)] w (RetF (.mk op n s l) w) := by
  obtain ⟨x0, x1, x2, hs, b, c, x3, hsl⟩ := at_iff.mp ha
  have hgw : g < w.heap.size := World.block_lt_of_cell? w _ x0
  have hb1 : Below w.heap.size w (w.alloc (Obj.cells #[.int .i64 0, .int .i64 0, .string ⟨#[]⟩, .slice none 0 0] 36)) := (Below.refl _ _).alloc (Nat.le_refl _) _
  have ht1 : B4 (w.alloc (Obj.cells #[.int .i64 0, .int .i64 0, .string ⟨#[]⟩, .slice none 0 0] 36)) w.heap.size (.int .i64 0) (.int .i64 0) (.string ⟨#[]⟩) (.slice none 0 0) := heap_alloc_new _ _
  have HL := Lib.hid (fun (W : World) (hb : Below w.heap.size w W) => hl W b c hb hsl)
  have HT1 := Lib.hid ht1
  have HB1 := Lib.hid hb1
  have HS := Lib.hid hs
  replace x0 : w.cell? ⟨g, o, none⟩ = some (.int .i64 op) := x0
  replace x1 : w.cell? ⟨g, o + 1, none⟩ = some (.int .i64 n) := x1
  replace x2 : w.cell? ⟨g, o + 2, none⟩ = some (.string ⟨s.toArray⟩) := x2
  replace x3 : w.cell? ⟨g, o + 3, none⟩ = some (.slice b l.length c) := x3
  clear hsl ha hl ht1 hb1 hs
  go_enter Try.func58, Try.ntmps58
  go_upto_region 1 with fail
  obtain ⟨W1, hW1⟩ : ∃ W1, W1 = w.alloc (Obj.cells #[.int .i64 0, .int .i64 0, .string ⟨#[]⟩, .slice none 0 0] 36) := ⟨_, rfl⟩
  rw [← hW1] at HT1 HB1 ⊢
  clear hW1
  have c0 := keeps HB1.out _ _ x0
  have c1 := keeps HB1.out _ _ x1
  have c2 := keeps HB1.out _ _ x2
  have c3 := keeps HB1.out _ _ x3
  clear x0 x1 x2 x3
  have hne : g ≠ w.heap.size := by omega
  have HT1D : Hid (B4 W1.drew w.heap.size (.int .i64 0) (.int .i64 0) (.string ⟨#[]⟩) (.slice none 0 0)) := HT1
  have HB1D : Hid (Below w.heap.size w W1.drew) := Lib.hid HB1.out.drew
  have d0 := keeps (drew_below W1) _ _ c0
  have d1 := keeps (drew_below W1) _ _ c1
  have d2 := keeps (drew_below W1) _ _ c2
  have d3 := keeps (drew_below W1) _ _ c3
  clear c0 c1 c2 c3
  go_region_held3 (fun W => W.cell? ⟨g, o, none⟩ = some (.int .i64 op) ∧ W.cell? ⟨g, o + 1, none⟩ = some (.int .i64 n) ∧ W.cell? ⟨g, o + 2, none⟩ = some (.string ⟨s.toArray⟩) ∧ W.cell? ⟨g, o + 3, none⟩ = some (.slice b l.length c))
    (first | (with_reducible exact ⟨d0, d1, d2, d3⟩) | (with_reducible exact ⟨u0, u1, u2, u3⟩) | (with_reducible assumption) | ((with_reducible refine an_put (B := w.heap.size) _ _ _ _ ?_ hne); assumption))
    (first | (go_at_call 78; refine (HL.out _ HB1D.out).mono ?_; rintro e w2 ⟨b2, k2, rfl, hl2, hb2⟩; have HTB := Lib.hid (HT1D.out.next hb2); have HL2 := Lib.hid hl2; have HB2 := Lib.hid (HB1D.out.trans (hb2.mono HB1D.out.size)); have HZ := Lib.hid HB1D.out.size; clear hl2; obtain ⟨z0, z1, z2, z3⟩ := HTB.out.cells; have f0 := HTB.out.frozen 0; have f1 := HTB.out.frozen 1; have f2 := HTB.out.frozen 2; have f3 := HTB.out.frozen 3; have u0 := keeps hb2 _ _ d0; have u1 := keeps hb2 _ _ d1; have u2 := keeps hb2 _ _ d2; have u3 := keeps hb2 _ _ d3; clear hb2))
  rename_i hS
  clear hS u0 u1 u2 u3 d0 d1 d2 d3
  go_wp2_with fail
  refine bodyPost_ret (results_ty (a := 2) (by kernel_rfl) (B := w.heap.size) (by rfl) (put4_cells HTB.out _ _ _ _).cells.1 (put4_cells HTB.out _ _ _ _).cells.2.1 (put4_cells HTB.out _ _ _ _).cells.2.2.1 (put4_cells HTB.out _ _ _ _).cells.2.2.2) rfl ?_
  have hlt := lt_of_block HT1D.out
  have hv2 : VO (W1.drew.heap.size ≤ ·) w2 (.mk op n s l) (.agg #[.int .i64 op, .int .i64 n, .string ⟨s.toArray⟩, .slice b2 l.length k2]) := ⟨b2, k2, rfl, HS.out, HL2.out⟩
  exact ⟨_, rfl, hv2.keep (fun q hq => by show w.heap.size ≤ q; have : W1.drew.heap.size ≤ q := hq; omega) (fun p v hp hc => put4_keep _ _ _ _ p v hc (by have : W1.drew.heap.size ≤ p.block := hp; omega)), below_put4 HB2.out (Nat.le_refl _) _ _ _ _⟩

set_option maxHeartbeats 4000000 in
theorem each_two (x y : Ty) (w : World) (g o c : Nat) (hx : ∀ W, Below w.heap.size w W → Calls Try.prog 58 #[.pointer (some ⟨g, o, none⟩)] W (RetF x W)) (hy : ∀ W, Below w.heap.size w W → Calls Try.prog 58 #[.pointer (some ⟨g, o + 4, none⟩)] W (RetF y W)) :
    Calls Try.prog 87 #[.slice (some ⟨g, o, none⟩) 2 c, .func (.func 58) #[] #[]] w (RetL [x, y] w) := by
  have hmk : ∀ w, (Instr.makeSlice 32 (.int .i64 2) (.int .i64 2)).run Try.prog w = .ok (.slice (some ⟨w.heap.size, 0, none⟩) 2 2) (w.alloc (.cells #[.int .i64 0, .int .i64 0, .string ⟨#[]⟩, .slice none 0 0, .int .i64 0, .int .i64 0, .string ⟨#[]⟩, .slice none 0 0] 36)) := fun _ => by kernel_rfl
  have HX := Lib.hid hx
  have HY := Lib.hid hy
  clear hx hy
  go_enter Try.func87, Try.ntmps87
  go_wp2_with fail
  refine wp_loop_rounds 3 ?_
  rw [rounds_succ]
  go_wp2_with fail
  refine (HX.out _ ((Below.refl _ _).alloc (Nat.le_refl _) _)).mono ?_
  rintro e w2 ⟨v, rfl, ⟨xb, xc, rfl, hxs, hxl⟩, hb2⟩
  have hsz1 : (w.alloc (Obj.cells #[.int .i64 0, .int .i64 0, .string ⟨#[]⟩, .slice none 0 0, .int .i64 0, .int .i64 0, .string ⟨#[]⟩, .slice none 0 0] 36)).heap.size = w.heap.size + 1 := by simp
  have hr2 : w2.heap[w.heap.size]? = some (Obj.cells #[.int .i64 0, .int .i64 0, .string ⟨#[]⟩, .slice none 0 0, .int .i64 0, .int .i64 0, .string ⟨#[]⟩, .slice none 0 0] 36) := (hb2.block _ (by omega)).trans (heap_alloc_new _ _)
  have HB2 : Hid (Below w.heap.size w w2) := Lib.hid (((Below.refl _ _).alloc (Nat.le_refl _) _).trans (hb2.mono (by omega)))
  have HVX : Hid (VO (w.heap.size + 1 ≤ ·) w2 x (.agg #[.int .i64 x.op, .int .i64 x.n, .string x.name, .slice xb x.args.length xc])) := Lib.hid ⟨xb, xc, rfl, hxs, hxl.keep (fun q hq => by show w.heap.size + 1 ≤ q; have : (w.alloc (Obj.cells #[.int .i64 0, .int .i64 0, .string ⟨#[]⟩, .slice none 0 0, .int .i64 0, .int .i64 0, .string ⟨#[]⟩, .slice none 0 0] 36)).heap.size ≤ q := hq; omega) (fun _ _ _ h => h)⟩
  have HR2 := Lib.hid hr2
  have HS2 : Hid (w.heap.size + 1 ≤ w2.heap.size) := Lib.hid (by have := hb2.size; omega)
  clear hxs hxl hb2 hsz1 hmk
  have c0 := cell_of_row w2 w.heap.size 0 _ 36 (0, 0) hr2
  have c1 := cell_of_row w2 w.heap.size 1 _ 36 (0, 0) hr2
  have c2 := cell_of_row w2 w.heap.size 2 _ 36 (0, 0) hr2
  have c3 := cell_of_row w2 w.heap.size 3 _ 36 (0, 0) hr2
  have fz : ∀ i, w2.frozen? ⟨w.heap.size, i, none⟩ = false := fun i => by
    unfold World.frozen?
    rw [show w2.heap[(⟨w.heap.size, i, none⟩ : Addr).block]? = _ from hr2]
    simp
  have f0 := fz 0
  have f1 := fz 1
  have f2 := fz 2
  have f3 := fz 3
  clear fz hr2
  go_wp2_with fail
  obtain ⟨W3, hW3⟩ : ∃ W3, W3 = put4 w2 w.heap.size (.int .i64 x.op) (.int .i64 x.n) (.string x.name) (.slice xb x.args.length xc) := ⟨_, rfl⟩
  have hk3 : ∀ (p : Addr) v, p.block ≠ w.heap.size → w2.cell? p = some v → W3.cell? p = some v := fun p v hp hc => by rw [hW3]; exact put4_keep _ _ _ _ p v hc hp
  have hr3 : W3.heap[w.heap.size]? = some (Obj.cells #[.int .i64 x.op, .int .i64 x.n, .string x.name, .slice xb x.args.length xc, .int .i64 0, .int .i64 0, .string ⟨#[]⟩, .slice none 0 0] 36) := by have := HR2.out; rw [hW3]; unfold put4; simp [World.setCell, Array.getElem?_modify, this]
  have hb3 : Below w.heap.size w W3 := by rw [hW3]; exact below_put4 HB2.out (Nat.le_refl _) _ _ _ _
  have hs3 : w2.heap.size ≤ W3.heap.size := by rw [hW3]; exact (below_put4' (base := 0) (Nat.zero_le _) _ _ _ _).size
  unfold put4 at hW3
  rw [← hW3]
  have HVX3 : Hid (VO (w.heap.size + 1 ≤ ·) W3 x (.agg #[.int .i64 x.op, .int .i64 x.n, .string x.name, .slice xb x.args.length xc])) := Lib.hid (HVX.out.keep (fun _ h => h) (fun p v hp hc => hk3 p v (by have : w.heap.size + 1 ≤ p.block := hp; omega) hc))
  have HR3 := Lib.hid hr3
  have HB3 := Lib.hid hb3
  have HS3 : Hid (w.heap.size + 1 ≤ W3.heap.size) := Lib.hid (by have := HS2.out; omega)
  clear hW3 hk3 hr3 hb3 hs3 c0 c1 c2 c3 f0 f1 f2 f3 HVX HR2 HB2 HS2 HX
  rw [rounds_succ]
  go_wp2_with fail
  refine (HY.out _ HB3.out).mono ?_
  rintro e w4 ⟨v, rfl, ⟨yb, yc, rfl, hys, hyl⟩, hb4⟩
  have HVX4 := Lib.hid (HVX3.out.next hb4)
  have hr4 : w4.heap[w.heap.size]? = _ := (hb4.block _ (by have := HS3.out; omega)).trans HR3.out
  have HR4 := Lib.hid hr4
  have HB4 := Lib.hid (HB3.out.trans (hb4.mono HB3.out.size))
  have HVY : Hid (VO (w.heap.size + 1 ≤ ·) w4 y (.agg #[.int .i64 y.op, .int .i64 y.n, .string y.name, .slice yb y.args.length yc])) := Lib.hid ⟨yb, yc, rfl, hys, hyl.keep (fun q hq => by show w.heap.size + 1 ≤ q; have := HS3.out; have : W3.heap.size ≤ q := hq; omega) (fun _ _ _ h => h)⟩
  have HS4 : Hid (w.heap.size + 1 ≤ w4.heap.size) := Lib.hid (by have := hb4.size; have := HS3.out; omega)
  clear hys hyl hb4 HVX3 HR3 HB3 HS3 HY
  have c0 := cell_of_row w4 w.heap.size 4 _ 36 (0, 0) hr4
  have c1 := cell_of_row w4 w.heap.size 5 _ 36 (0, 0) hr4
  have c2 := cell_of_row w4 w.heap.size 6 _ 36 (0, 0) hr4
  have c3 := cell_of_row w4 w.heap.size 7 _ 36 (0, 0) hr4
  have fz : ∀ i, w4.frozen? ⟨w.heap.size, i, none⟩ = false := fun i => by
    unfold World.frozen?
    rw [show w4.heap[(⟨w.heap.size, i, none⟩ : Addr).block]? = _ from hr4]
    simp
  have f0 := fz 4
  have f1 := fz 5
  have f2 := fz 6
  have f3 := fz 7
  clear fz hr4
  go_wp2_with fail
  obtain ⟨W5, hW5⟩ : ∃ W5, W5 = put4At w4 w.heap.size 4 (.int .i64 y.op) (.int .i64 y.n) (.string y.name) (.slice yb y.args.length yc) := ⟨_, rfl⟩
  have hk5 : ∀ (p : Addr) v, p.block ≠ w.heap.size → w4.cell? p = some v → W5.cell? p = some v := fun p v hp hc => by rw [hW5]; exact put4At_keep _ _ _ _ p v hc hp
  have hr5 : W5.heap[w.heap.size]? = some (Obj.cells #[.int .i64 x.op, .int .i64 x.n, .string x.name, .slice xb x.args.length xc, .int .i64 y.op, .int .i64 y.n, .string y.name, .slice yb y.args.length yc] 36) := by have := HR4.out; rw [hW5]; unfold put4At; simp [World.setCell, Array.getElem?_modify, this]
  have hb5 : Below w.heap.size w W5 := by rw [hW5]; exact HB4.out.trans ((below_put4At (Nat.le_refl _) _ _ _ _))
  unfold put4At at hW5
  rw [show 4 + 1 = 5 from rfl, show 4 + 2 = 6 from rfl, show 4 + 3 = 7 from rfl] at hW5
  rw [← hW5]
  have HVX5 : Hid (VO (w.heap.size + 1 ≤ ·) W5 x (.agg #[.int .i64 x.op, .int .i64 x.n, .string x.name, .slice xb x.args.length xc])) := Lib.hid (HVX4.out.keep (fun _ h => h) (fun p v hp hc => hk5 p v (by have : w.heap.size + 1 ≤ p.block := hp; omega) hc))
  have HVY5 : Hid (VO (w.heap.size + 1 ≤ ·) W5 y (.agg #[.int .i64 y.op, .int .i64 y.n, .string y.name, .slice yb y.args.length yc])) := Lib.hid (HVY.out.keep (fun _ h => h) (fun p v hp hc => hk5 p v (by have : w.heap.size + 1 ≤ p.block := hp; omega) hc))
  have HR5 := Lib.hid hr5
  have HB5 := Lib.hid hb5
  clear hW5 hk5 hr5 hb5 c0 c1 c2 c3 f0 f1 f2 f3 HVX4 HVY HR4 HB4 HS4
  rw [rounds_succ]
  go_wp2_with fail
  go_ret
  obtain ⟨h1, h2⟩ := vo_parts HVX5.out
  obtain ⟨h3, h4⟩ := vo_parts HVY5.out
  have cc := fun i => cell_of_row W5 w.heap.size i _ 36 (0, 0) HR5.out
  have sub : ∀ {l : List Ty} {b : Option Addr}, SlO (w.heap.size + 1 ≤ ·) W5 b l → SlO (w.heap.size ≤ ·) W5 b l := fun h => h.keep (fun q hq => by show w.heap.size ≤ q; have : w.heap.size + 1 ≤ q := hq; omega) (fun _ _ _ h => h)
  exact ⟨_, _, rfl, ⟨by show 2 ≤ maxLen; decide, .inr ⟨w.heap.size, 0, rfl, Nat.le_refl _, atO_iff.mpr ⟨cc 0, cc 1, cc 2, h1, _, _, cc 3, sub h2⟩, atO_iff.mpr ⟨cc 4, cc 5, cc 6, h3, _, _, cc 7, sub h4⟩, trivial⟩⟩, HB5.out⟩
set_option maxHeartbeats 4000000 in
theorem types_two (x y : Ty) (w : World) (g o c : Nat) (hx : ∀ W, Below w.heap.size w W → Calls Try.prog 58 #[.pointer (some ⟨g, o, none⟩)] W (RetF x W)) (hy : ∀ W, Below w.heap.size w W → Calls Try.prog 58 #[.pointer (some ⟨g, o + 4, none⟩)] W (RetF y W)) :
    Calls Try.prog 78 #[.slice (some ⟨g, o, none⟩) 2 c] w (RetL [x, y] w) := by
  have HE := Lib.hid (each_two x y w g o c hx hy)
  clear hx hy
  go_enter Try.func78, Try.ntmps78
  go_wp2_with fail
  refine HE.out.mono ?_
  rintro e w' ⟨b, c, rfl, hl, hb⟩
  have HL := Lib.hid hl
  have HB := Lib.hid hb
  clear hl hb HE
  go_wp2_with fail
  go_ret
  exact ⟨b, _, rfl, HL.out, HB.out⟩

/-- copies of a type -/
theorem anewp_any : ∀ {t : Ty}, Good t → AnewC t := by
  intro t hg
  induction hg with
  | var op n h1 h2 h3 =>
    intro w g o ha
    exact anew_of op n [] [] w g o ha (fun W b c _ _ => types_nil b c W)
  | con s h1 h2 =>
    intro w g o ha
    exact anew_of 2 0 s [] w g o ha (fun W b c _ _ => types_nil b c W)
  | node op x y h hx hy ihx ihy =>
    intro w g o ha
    refine anew_of op 0 [] [x, y] w g o ha (fun W b c hb hsl => ?_)
    rcases hsl.2 with h0 | ⟨q, j, rfl, hrow⟩
    · cases h0
    · exact types_two x y W q j c (fun W' hb' => ihx W' q j (hrow.1.next (hb.trans (hb'.mono hb.size)))) (fun W' hb' => ihy W' q (j + 4) (hrow.2.1.next (hb.trans (hb'.mono hb.size))))
/-- a type in a box -/
theorem at_box {W : World} {B : Nat} {t : Ty} {v0 v1 v2 v3 : Value} (h : B4 W B v0 v1 v2 v3) (hv : V W t (.agg #[v0, v1, v2, v3])) : At W B 0 t := by
  obtain ⟨c0, c1, c2, c3⟩ := h.cells
  obtain ⟨b', c', e, h1, h2⟩ := hv
  simp only [Value.agg.injEq, Array.mk.injEq, List.cons.injEq, and_true] at e
  obtain ⟨rfl, rfl, rfl, rfl⟩ := e
  exact at_iff.mpr ⟨c0, c1, c2, h1, _, _, c3, h2⟩

end Ty
end Go.Proofs.Ytfjgebdpbmnicaa
