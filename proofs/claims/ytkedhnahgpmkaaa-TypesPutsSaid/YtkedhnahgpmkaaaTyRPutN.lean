/- What the reference's put returns. Conditions: the types are well formed. -/
import Derived.Test.YtkedhnahgpmkaaaTyRPut
import Derived.Deep.CutBlock
import Derived.Deep.AppendLies
namespace Go.Proofs.Ytkedhnahgpmkaaa
open Go.RowKit

namespace Ty
theorem rs_grown9 {V0 W W' : World} {T D : Nat} {row : Option Nat} {r0 r1 r2 r3 h0 h1 h2 h3 : Value}
    (h : Hid (Below T V0 W) ∧ W.cell? ⟨T, 0, none⟩ = some r0 ∧ W.cell? ⟨T, 1, none⟩ = some r1 ∧ W.cell? ⟨T, 2, none⟩ = some r2 ∧ W.cell? ⟨T, 3, none⟩ = some r3 ∧ W.cell? ⟨D, 0, none⟩ = some h0 ∧ W.cell? ⟨D, 1, none⟩ = some h1 ∧ W.cell? ⟨D, 2, none⟩ = some h2 ∧ W.cell? ⟨D, 3, none⟩ = some h3) (hg : W.grownBy W' row) (hr : ∀ j, row = some j → T + 3 ≤ j ∧ j ≠ D) :
    Hid (Below T V0 W') ∧ W'.cell? ⟨T, 0, none⟩ = some r0 ∧ W'.cell? ⟨T, 1, none⟩ = some r1 ∧ W'.cell? ⟨T, 2, none⟩ = some r2 ∧ W'.cell? ⟨T, 3, none⟩ = some r3 ∧ W'.cell? ⟨D, 0, none⟩ = some h0 ∧ W'.cell? ⟨D, 1, none⟩ = some h1 ∧ W'.cell? ⟨D, 2, none⟩ = some h2 ∧ W'.cell? ⟨D, 3, none⟩ = some h3 := by
  obtain ⟨b, k0, k1, k2, k3, k4, k5, k6, k7⟩ := h
  have hT : some T ≠ row := fun e => by have := (hr T e.symm).1; omega
  have hD : some D ≠ row := fun e => (hr D e.symm).2 rfl
  have hTs := World.block_lt_of_cell? W _ k0
  have hTs' : T < W.heap.size := hTs
  exact ⟨Lib.hid (b.out.grown hg (by omega) (fun j hj => by have := (hr j hj).1; omega)), hg.cell k0 hT, hg.cell k1 hT, hg.cell k2 hT, hg.cell k3 hT, hg.cell k4 hD, hg.cell k5 hD, hg.cell k6 hD, hg.cell k7 hD⟩
theorem rs_set9 {V0 W : World} {T D : Nat} {r0 r1 r2 r3 h0 h1 h2 h3 : Value} (v : Value)
    (h : Hid (Below T V0 W) ∧ W.cell? ⟨T, 0, none⟩ = some r0 ∧ W.cell? ⟨T, 1, none⟩ = some r1 ∧ W.cell? ⟨T, 2, none⟩ = some r2 ∧ W.cell? ⟨T, 3, none⟩ = some r3 ∧ W.cell? ⟨D, 0, none⟩ = some h0 ∧ W.cell? ⟨D, 1, none⟩ = some h1 ∧ W.cell? ⟨D, 2, none⟩ = some h2 ∧ W.cell? ⟨D, 3, none⟩ = some h3) (hT : T ≠ T + 2) (hD : D ≠ T + 2) :
    Hid (Below T V0 (W.setCell ⟨T + 2, 3, none⟩ v)) ∧ (W.setCell ⟨T + 2, 3, none⟩ v).cell? ⟨T, 0, none⟩ = some r0 ∧ (W.setCell ⟨T + 2, 3, none⟩ v).cell? ⟨T, 1, none⟩ = some r1 ∧ (W.setCell ⟨T + 2, 3, none⟩ v).cell? ⟨T, 2, none⟩ = some r2 ∧ (W.setCell ⟨T + 2, 3, none⟩ v).cell? ⟨T, 3, none⟩ = some r3 ∧ (W.setCell ⟨T + 2, 3, none⟩ v).cell? ⟨D, 0, none⟩ = some h0 ∧ (W.setCell ⟨T + 2, 3, none⟩ v).cell? ⟨D, 1, none⟩ = some h1 ∧ (W.setCell ⟨T + 2, 3, none⟩ v).cell? ⟨D, 2, none⟩ = some h2 ∧ (W.setCell ⟨T + 2, 3, none⟩ v).cell? ⟨D, 3, none⟩ = some h3 := by
  obtain ⟨b, k0, k1, k2, k3, k4, k5, k6, k7⟩ := h
  have s : ∀ (B j : Nat) (u : Value), B ≠ T + 2 → W.cell? ⟨B, j, none⟩ = some u → (W.setCell ⟨T + 2, 3, none⟩ v).cell? ⟨B, j, none⟩ = some u := fun B j u hB hc => by
    rw [World.cell?_setCell_other _ _ _ _ (by intro e; injection e with e; exact hB e.symm)]
    exact hc
  exact ⟨Lib.hid (b.out.setCell (by show T ≤ T + 2; omega) _), s _ _ _ hT k0, s _ _ _ hT k1, s _ _ _ hT k2, s _ _ _ hT k3, s _ _ _ hD k4, s _ _ _ hD k5, s _ _ _ hD k6, s _ _ _ hD k7⟩

/-- the load of the row that is appended to: named, so that the walk does not try to take it first (the region stores there at its end) -/
def ld62 : Oper := { dst := some 62, op := Op.load 22 (Operand.tmp 61), type := 22, pos := "ref.go:147", after := #[{ on := 0, ground := Ground.data }], guard := none }
theorem ld62_eq : ld62 = { dst := some 62, op := Op.load 22 (Operand.tmp 61), type := 22, pos := "ref.go:147", after := #[{ on := 0, ground := Ground.data }], guard := none } := rfl
section
variable {base : Option Addr} {cap : Nat}
set_option maxRecDepth 100000 in
set_option maxHeartbeats 16000000 in
theorem rput_node (l : List Ty) (op : Int) (x y : Ty) (hop : op = 3 ∨ op = 4 ∨ op = 5) (hx : RPutC l base cap x) (hy : RPutC l base cap y) : RPutC l base cap (.mk op 0 [] [x, y]) := by
  intro v k w hv hl hk
  obtain ⟨i0, hi0, hz0, hz1, hz2⟩ := info_parts info24
  have HI0 := Lib.hid hi0
  have HZ0 := Lib.hid hz0
  have HZ1 := Lib.hid hz1
  have HZ2 := Lib.hid hz2
  clear hi0 hz0 hz1 hz2
  have hvt := hv
  obtain ⟨b, c, ev, _, hl2, h4⟩ := hv
  rcases h4 with h4 | ⟨g, o, rfl, hrow⟩
  · cases h4
  have ev2 : v = .agg #[.int .i64 op, .int .i64 0, .string ⟨#[]⟩, .slice (some ⟨g, o, none⟩) 2 c] := ev
  rw [ev2] at hvt ⊢
  clear ev ev2 hl2
  rw [nodes_node] at hk
  have hu := undN_le op
  have hpx := nodes_pos x
  have hpy := nodes_pos y
  have hk1 : k + nodes x ≤ 1000000 := by omega
  have hk2 : k + undN op + nodes y ≤ 1000000 := by omega
  obtain ⟨hrx, hry, _⟩ := hrow
  obtain ⟨xb, xc, x0, x1, x2, x3, hvx⟩ := at_v hrx
  obtain ⟨yb, yc, y0, y1, y2, y3, hvy⟩ := at_v hry
  have hc0 := fun (W : World) (hb : Below w.heap.size w W) => hx _ k W (hvx.next hb) (hl.next hb) hk1
  have hc1 := fun (W : World) (hb : Below w.heap.size w W) => hy _ (k + undN op) W (hvy.next hb) (hl.next hb) hk2
  have hu0 : ∀ (W : World) (hb : Below w.heap.size w W), Calls Try.prog 100 #[.agg #[.int .i64 op, .int .i64 0, .string ⟨#[]⟩, .slice (some ⟨g, o, none⟩) 2 c], .int .i64 0] W fun e w' => e = .returned (.int .i64 (underN op 0)) ∧ Below W.heap.size W w' := fun W hb => under_any (.mk op 0 [] [x, y]) _ 0 W (hvt.next hb)
  have hu1 : ∀ (W : World) (hb : Below w.heap.size w W), Calls Try.prog 100 #[.agg #[.int .i64 op, .int .i64 0, .string ⟨#[]⟩, .slice (some ⟨g, o, none⟩) 2 c], .int .i64 1] W fun e w' => e = .returned (.int .i64 (underN op 1)) ∧ Below W.heap.size W w' := fun W hb => under_any (.mk op 0 [] [x, y]) _ 1 W (hvt.next hb)
  rw [underN_zero] at hu0
  rw [underN_one] at hu1
  unfold RetF at hc0 hc1 ⊢
  rw [reb_node]
  obtain ⟨r0, hr0⟩ : ∃ p, p = (reb (putF l) x k ()).1 := ⟨_, rfl⟩
  obtain ⟨r1, hr1⟩ : ∃ p, p = (reb (putF l) y (k + undN op) ()).1 := ⟨_, rfl⟩
  rw [show (reb (putF l) x k ()).2 = () from rfl]
  rw [← hr0] at hc0 ⊢
  rw [← hr1] at hc1 ⊢
  clear hr0 hr1
  have HC0 := Lib.hid hc0
  have HC1 := Lib.hid hc1
  have HU0 := Lib.hid hu0
  have HU1 := Lib.hid hu1
  have Y0 := Lib.hid y0
  have Y1 := Lib.hid y1
  have Y2 := Lib.hid y2
  have Y3 := Lib.hid y3
  clear hc0 hc1 hu0 hu1 hvx hvy hrx hry hvt hx hy hk y0 y1 y2 y3 hpx hpy hl
  generalize l.length = la at *
  have hopq : (op == 1) = false := by simp; omega
  have HR := Lib.hid (RS.new w (.int .i64 op) (.int .i64 0) (.string ⟨#[]⟩) (.slice (some ⟨g, o, none⟩) 2 c) (.int .i64 op) (.int .i64 0) (.string ⟨#[]⟩))
  obtain ⟨ht3, _⟩ := two_boxes w (.int .i64 op) (.int .i64 0) (.string ⟨#[]⟩) (.slice (some ⟨g, o, none⟩) 2 c) (.int .i64 0) (.int .i64 0) (.string ⟨#[]⟩) (.slice none 0 0)
  obtain ⟨c0, c1, c2, c3⟩ := ht3.cells
  clear hop ht3
  go_enter Try.func69, Try.ntmps69
  go_upto_region 9 with fail
  obtain ⟨W3, hW3⟩ : ∃ W3, W3 = ((w.alloc (Obj.cells #[.int .i64 op, .int .i64 0, .string ⟨#[]⟩, .slice (some ⟨g, o, none⟩) 2 c] 24)).alloc (Obj.cells #[.int .i64 0, .int .i64 0, .string ⟨#[]⟩, .slice none 0 0] 24)).alloc (Obj.cells #[.int .i64 op, .int .i64 0, .string ⟨#[]⟩, .slice none 0 0] 24) := ⟨_, rfl⟩
  rw [← hW3] at HR ⊢
  clear hW3 c0 c1 c2 c3
  obtain ⟨q0, q1, q2, q3⟩ := HR.out.box.cells
  replace x0 := keeps HR.out.below _ _ x0
  replace x1 := keeps HR.out.below _ _ x1
  replace x2 := keeps HR.out.below _ _ x2
  replace x3 := keeps HR.out.below _ _ x3
  go_wp2_with fail
  refine wp_loop_rounds 3 ?_
  rw [rounds_succ]
  go_upto_block 2 with fail
  go_cut [10] (fun s10 wx => ∃ ov', Hid (RS w (.int .i64 op) (.int .i64 0) (.string ⟨#[]⟩) (.slice (some ⟨g, o, none⟩) 2 c) (.int .i64 op) (.int .i64 0) (.string ⟨#[]⟩) ov' [r0] wx))
  case first =>
    go_upto_region 12 with fail
    obtain ⟨D, hD⟩ : ∃ D, D = W3.heap.size := ⟨_, rfl⟩
    obtain ⟨W1, hW1⟩ : ∃ W1, W1 = W3.alloc (Obj.cells #[.int .i64 x.op, .int .i64 x.n, .string x.name, .slice xb x.args.length xc] 24) := ⟨_, rfl⟩
    have ht10 : B4 W1.drew D (.int .i64 x.op) (.int .i64 x.n) (.string x.name) (.slice xb x.args.length xc) := by rw [hW1, hD]; exact heap_alloc_new _ _
    have hb9 : Below W3.heap.size W3 W1 := by rw [hW1]; exact (Below.refl _ _).alloc (Nat.le_refl _) _
    have hob : ∀ j, Value.ownBlock (.slice none 0 0) = some j → w.heap.size + 3 ≤ j ∧ j ≠ D := fun j hj => by
      obtain ⟨ds, _, h1, _⟩ := own_nodes HR.out.own
      have := ownBlock_lt h1 hj
      omega
    rw [← hW1, ← hD]
    have hDb : w.heap.size + 3 ≤ D := by rw [hD]; exact HR.out.big
    clear hW1 hD
    have HRW := Lib.hid ((HR.out.next hb9).drew)
    have HOB := Lib.hid hob
    have HT := Lib.hid ht10
    have HKB := Lib.hid HRW.out.below
    clear hb9 ht10 hob x0 x1 x2 x3 q0 q1 q2 q3
    obtain ⟨q0, q1, q2, q3⟩ := HRW.out.box.cells
    have p3 : W1.drew.cell? ⟨w.heap.size + 1 + 1, 3, none⟩ = some (.slice none 0 0) := HRW.out.out.cells.2.2.2
    obtain ⟨t0, t1, t2, t3⟩ := HT.out.cells
    have hne1 : w.heap.size ≠ w.heap.size + 2 := by omega
    have hne2 : D ≠ w.heap.size + 2 := by omega
    have hz0 : IntKind.i64.wrap ((k : Int) + 0) = (k : Int) := by rw [Int.add_zero]; exact IntWalk.i64_in _ (by omega)
    have hz1 : IntKind.i64.wrap (k : Int) = (k : Int) := IntWalk.i64_in _ (by omega)
    have hld := ld62_eq
    rw [← ld62_eq]
    go_region_held3 (fun W => Hid (Below w.heap.size w W) ∧ W.cell? ⟨w.heap.size, 0, none⟩ = some (.int .i64 op) ∧ W.cell? ⟨w.heap.size, 1, none⟩ = some (.int .i64 0) ∧ W.cell? ⟨w.heap.size, 2, none⟩ = some (.string ⟨#[]⟩) ∧ W.cell? ⟨w.heap.size, 3, none⟩ = some (.slice (some ⟨g, o, none⟩) 2 c) ∧ W.cell? ⟨D, 0, none⟩ = some (.int .i64 x.op) ∧ W.cell? ⟨D, 1, none⟩ = some (.int .i64 x.n) ∧ W.cell? ⟨D, 2, none⟩ = some (.string x.name) ∧ W.cell? ⟨D, 3, none⟩ = some (.slice xb x.args.length xc))
      (first | (with_reducible exact ⟨HKB, q0, q1, q2, q3, t0, t1, t2, t3⟩) | assumption | ((with_reducible refine rs_next9 ?_ hb); assumption) | ((with_reducible refine rs_next9 ?_ ((Below.refl _ _).alloc (Nat.le_refl _) _)); assumption) | ((with_reducible refine rs_grown9 ?_ hgr7 HOB.out); assumption) | ((with_reducible refine rs_set9 _ ?_ hne1 hne2); assumption))
      (first
      | (go_at_call 100; refine (HU0.out _ (Hid.out (And.left (by assumption)))).mono ?_; rintro e w5 ⟨rfl, hb⟩; have HR5 := Lib.hid (HRW.out.next hb); have p3a := keeps hb _ _ p3)
      | (go_at_call 69; refine (HC0.out _ (Hid.out (And.left (by assumption)))).mono ?_; rintro e w6 ⟨v6, rfl, ⟨b6, c6, rfl, hs6, hl6⟩, hb⟩; have HR6 := Lib.hid (HR5.out.next hb); have p3b := keeps hb _ _ p3a; have p3c := keeps (show Below w6.heap.size w6 (w6.alloc (Obj.cells #[.int .i64 r0.op, .int .i64 r0.n, .string r0.name, .slice b6 r0.args.length c6] 24)) from (Below.refl _ _).alloc (Nat.le_refl _) _) _ _ p3b; have HRN := Lib.hid (HR6.out.next (show Below w6.heap.size w6 (w6.alloc (Obj.cells #[.int .i64 r0.op, .int .i64 r0.n, .string r0.name, .slice b6 r0.args.length c6] 24)) from (Below.refl _ _).alloc (Nat.le_refl _) _)); have HTC := Lib.hid (own_new (w := w6.alloc (Obj.cells #[.int .i64 r0.op, .int .i64 r0.n, .string r0.name, .slice b6 r0.args.length c6] 24)) (c9 := c6) HR5.out.own HR5.out.big hs6 hl6 (fun p v _ hc => keeps (show Below w6.heap.size w6 (w6.alloc (Obj.cells #[.int .i64 r0.op, .int .i64 r0.n, .string r0.name, .slice b6 r0.args.length c6] 24)) from (Below.refl _ _).alloc (Nat.le_refl _) _) _ _ hc)); have HNEW := Lib.hid (heap_alloc_new w6 (Obj.cells #[.int .i64 r0.op, .int .i64 r0.n, .string r0.name, .slice b6 r0.args.length c6] 24)); obtain ⟨ds, hdl, hown, hall⟩ := own_nodes HRN.out.own; have HDL : Hid (ds.length = 0) := Lib.hid hdl; have HOWN := Lib.hid hown; have HALL := Lib.hid hall; clear hdl hown hall hs6 hl6)
      | (refine step_append_lies _ (by rfl) _ _ _ (by rfl) (w.heap.size + 3) 24 i0 _ 4 56 Try.underlying22 HI0.out HZ0.out HZ1.out HZ2.out rfl (by omega) (.slice none 0 0) ds.length (TC.all ds) (by rfl) HOWN.out ⟨w6.heap.size, 0, none⟩ 1 1 (TC.enc ⟨r0.op, r0.n, r0.name, b6, r0.args.length, c6⟩) (by rfl) (by rfl) (World.news_of_block HNEW.out) (TC.enc_one _) (by omega) (by unfold maxLen; have := HDL.out; omega) (by have := HDL.out; omega) (by have := HRN.out.big; exact this) _ rfl ?_; intro g1 cap1 w7 hown7 hgr7 hlie7 _; have HSN := Lib.hid (HRN.out.snoc HOWN.out HALL.out HTC.out hown7 hgr7 hlie7); obtain ⟨z0, z1, z2, z3⟩ := HSN.out.1.2.2.2.cells; have f3 := HSN.out.1.2.2.2.frozen 3; have HFIN : Hid (RS w (.int .i64 op) (.int .i64 0) (.string ⟨#[]⟩) (.slice (some ⟨g, o, none⟩) 2 c) (.int .i64 op) (.int .i64 0) (.string ⟨#[]⟩) (.slice (some ⟨g1, 0, none⟩) (ds.length + 1) cap1) [r0] (w7.setCell ⟨w.heap.size + 2, 3, none⟩ (.slice (some ⟨g1, 0, none⟩) (ds.length + 1) cap1))) := Lib.hid HSN.out.2))
    all_goals
      go_wp2_with fail
      go_meet
      exact ⟨_, HFIN⟩
  case rest =>
  obtain ⟨ov0, HRb0⟩ := hcut
  obtain ⟨bb0, cc0, hov⟩ := HRb0.out.own.len
  replace hov : ov0 = .slice bb0 1 cc0 := hov
  subst hov
  obtain ⟨u0', hu0'⟩ : ∃ u', u' = wc := ⟨_, rfl⟩
  rw [← hu0'] at HRb0 ⊢
  clear hu0'
  clear x0 x1 x2 x3 q0 q1 q2 q3 HR HC0 HU0
  obtain ⟨q0, q1, q2, q3⟩ := HRb0.out.box.cells
  have x0 := keeps HRb0.out.below _ _ Y0.out
  have x1 := keeps HRb0.out.below _ _ Y1.out
  have x2 := keeps HRb0.out.below _ _ Y2.out
  have x3 := keeps HRb0.out.below _ _ Y3.out
  go_wp2_with fail
  rw [rounds_succ]
  go_upto_block 2 with fail
  go_cut [10] (fun s10 wx => ∃ ov', Hid (RS w (.int .i64 op) (.int .i64 0) (.string ⟨#[]⟩) (.slice (some ⟨g, o, none⟩) 2 c) (.int .i64 op) (.int .i64 0) (.string ⟨#[]⟩) ov' [r0, r1] wx))
  case first =>
    go_upto_region 12 with fail
    obtain ⟨D, hD⟩ : ∃ D, D = u0'.heap.size := ⟨_, rfl⟩
    obtain ⟨W1, hW1⟩ : ∃ W1, W1 = u0'.alloc (Obj.cells #[.int .i64 y.op, .int .i64 y.n, .string y.name, .slice yb y.args.length yc] 24) := ⟨_, rfl⟩
    have ht10 : B4 W1.drew D (.int .i64 y.op) (.int .i64 y.n) (.string y.name) (.slice yb y.args.length yc) := by rw [hW1, hD]; exact heap_alloc_new _ _
    have hb9 : Below u0'.heap.size u0' W1 := by rw [hW1]; exact (Below.refl _ _).alloc (Nat.le_refl _) _
    have hob : ∀ j, Value.ownBlock (.slice bb0 1 cc0) = some j → w.heap.size + 3 ≤ j ∧ j ≠ D := fun j hj => by
      obtain ⟨ds, _, h1, _⟩ := own_nodes HRb0.out.own
      have := ownBlock_lt h1 hj
      omega
    rw [← hW1, ← hD]
    have hDb : w.heap.size + 3 ≤ D := by rw [hD]; exact HRb0.out.big
    clear hW1 hD
    have HRW := Lib.hid ((HRb0.out.next hb9).drew)
    have HOB := Lib.hid hob
    have HT := Lib.hid ht10
    have HKB := Lib.hid HRW.out.below
    clear hb9 ht10 hob x0 x1 x2 x3 q0 q1 q2 q3
    obtain ⟨q0, q1, q2, q3⟩ := HRW.out.box.cells
    have p3 : W1.drew.cell? ⟨w.heap.size + 1 + 1, 3, none⟩ = some (.slice bb0 1 cc0) := HRW.out.out.cells.2.2.2
    obtain ⟨t0, t1, t2, t3⟩ := HT.out.cells
    have hne1 : w.heap.size ≠ w.heap.size + 2 := by omega
    have hne2 : D ≠ w.heap.size + 2 := by omega
    have hz0 : IntKind.i64.wrap ((k : Int) + (undN op : Nat)) = ((k + undN op : Nat) : Int) := by rw [IntWalk.i64_in _ (by omega)]; omega
    have hld := ld62_eq
    rw [← ld62_eq]
    go_region_held3 (fun W => Hid (Below w.heap.size w W) ∧ W.cell? ⟨w.heap.size, 0, none⟩ = some (.int .i64 op) ∧ W.cell? ⟨w.heap.size, 1, none⟩ = some (.int .i64 0) ∧ W.cell? ⟨w.heap.size, 2, none⟩ = some (.string ⟨#[]⟩) ∧ W.cell? ⟨w.heap.size, 3, none⟩ = some (.slice (some ⟨g, o, none⟩) 2 c) ∧ W.cell? ⟨D, 0, none⟩ = some (.int .i64 y.op) ∧ W.cell? ⟨D, 1, none⟩ = some (.int .i64 y.n) ∧ W.cell? ⟨D, 2, none⟩ = some (.string y.name) ∧ W.cell? ⟨D, 3, none⟩ = some (.slice yb y.args.length yc))
      (first | (with_reducible exact ⟨HKB, q0, q1, q2, q3, t0, t1, t2, t3⟩) | assumption | ((with_reducible refine rs_next9 ?_ hb); assumption) | ((with_reducible refine rs_next9 ?_ ((Below.refl _ _).alloc (Nat.le_refl _) _)); assumption) | ((with_reducible refine rs_grown9 ?_ hgr7 HOB.out); assumption) | ((with_reducible refine rs_set9 _ ?_ hne1 hne2); assumption))
      (first
      | (go_at_call 100; refine (HU1.out _ (Hid.out (And.left (by assumption)))).mono ?_; rintro e w5 ⟨rfl, hb⟩; have HR5 := Lib.hid (HRW.out.next hb); have p3a := keeps hb _ _ p3)
      | (go_at_call 69; refine (HC1.out _ (Hid.out (And.left (by assumption)))).mono ?_; rintro e w6 ⟨v6, rfl, ⟨b6, c6, rfl, hs6, hl6⟩, hb⟩; have HR6 := Lib.hid (HR5.out.next hb); have p3b := keeps hb _ _ p3a; have p3c := keeps (show Below w6.heap.size w6 (w6.alloc (Obj.cells #[.int .i64 r1.op, .int .i64 r1.n, .string r1.name, .slice b6 r1.args.length c6] 24)) from (Below.refl _ _).alloc (Nat.le_refl _) _) _ _ p3b; have HRN := Lib.hid (HR6.out.next (show Below w6.heap.size w6 (w6.alloc (Obj.cells #[.int .i64 r1.op, .int .i64 r1.n, .string r1.name, .slice b6 r1.args.length c6] 24)) from (Below.refl _ _).alloc (Nat.le_refl _) _)); have HTC := Lib.hid (own_new (w := w6.alloc (Obj.cells #[.int .i64 r1.op, .int .i64 r1.n, .string r1.name, .slice b6 r1.args.length c6] 24)) (c9 := c6) HR5.out.own HR5.out.big hs6 hl6 (fun p v _ hc => keeps (show Below w6.heap.size w6 (w6.alloc (Obj.cells #[.int .i64 r1.op, .int .i64 r1.n, .string r1.name, .slice b6 r1.args.length c6] 24)) from (Below.refl _ _).alloc (Nat.le_refl _) _) _ _ hc)); have HNEW := Lib.hid (heap_alloc_new w6 (Obj.cells #[.int .i64 r1.op, .int .i64 r1.n, .string r1.name, .slice b6 r1.args.length c6] 24)); obtain ⟨ds, hdl, hown, hall⟩ := own_nodes HRN.out.own; have HDL : Hid (ds.length = 1) := Lib.hid hdl; have HOWN := Lib.hid hown; have HALL := Lib.hid hall; clear hdl hown hall hs6 hl6)
      | (refine step_append_lies _ (by rfl) _ _ _ (by rfl) (w.heap.size + 3) 24 i0 _ 4 56 Try.underlying22 HI0.out HZ0.out HZ1.out HZ2.out rfl (by omega) (.slice bb0 1 cc0) ds.length (TC.all ds) (by rfl) HOWN.out ⟨w6.heap.size, 0, none⟩ 1 1 (TC.enc ⟨r1.op, r1.n, r1.name, b6, r1.args.length, c6⟩) (by rfl) (by rfl) (World.news_of_block HNEW.out) (TC.enc_one _) (by omega) (by unfold maxLen; have := HDL.out; omega) (by have := HDL.out; omega) (by have := HRN.out.big; exact this) _ rfl ?_; intro g1 cap1 w7 hown7 hgr7 hlie7 _; have HSN := Lib.hid (HRN.out.snoc HOWN.out HALL.out HTC.out hown7 hgr7 hlie7); obtain ⟨z0, z1, z2, z3⟩ := HSN.out.1.2.2.2.cells; have f3 := HSN.out.1.2.2.2.frozen 3; have HFIN : Hid (RS w (.int .i64 op) (.int .i64 0) (.string ⟨#[]⟩) (.slice (some ⟨g, o, none⟩) 2 c) (.int .i64 op) (.int .i64 0) (.string ⟨#[]⟩) (.slice (some ⟨g1, 0, none⟩) (ds.length + 1) cap1) [r0, r1] (w7.setCell ⟨w.heap.size + 2, 3, none⟩ (.slice (some ⟨g1, 0, none⟩) (ds.length + 1) cap1))) := Lib.hid HSN.out.2))
    all_goals
      go_wp2_with fail
      go_meet
      exact ⟨_, HFIN⟩
  case rest =>
  obtain ⟨ov1, HRb1⟩ := hcut
  obtain ⟨bb1, cc1, hov⟩ := HRb1.out.own.len
  replace hov : ov1 = .slice bb1 2 cc1 := hov
  subst hov
  obtain ⟨u1', hu1'⟩ : ∃ u', u' = wc := ⟨_, rfl⟩
  rw [← hu1'] at HRb1 ⊢
  clear hu1'
  clear x0 x1 x2 x3 q0 q1 q2 q3
  obtain ⟨p0, p1, p2, p3⟩ := HRb1.out.out.cells
  obtain ⟨z0, z1, z2, z3⟩ := HRb1.out.res.cells
  have f0 := HRb1.out.res.frozen 0
  have f1 := HRb1.out.res.frozen 1
  have f2 := HRb1.out.res.frozen 2
  have f3 := HRb1.out.res.frozen 3
  go_wp2_with fail
  rw [rounds_succ]
  go_wp2_with fail
  refine bodyPost_ret (results_ty (a := 6) (by kernel_rfl) (B := w.heap.size + 1) (by rfl) (put4_cells HRb1.out.res _ _ _ _).cells.1 (put4_cells HRb1.out.res _ _ _ _).cells.2.1 (put4_cells HRb1.out.res _ _ _ _).cells.2.2.1 (put4_cells HRb1.out.res _ _ _ _).cells.2.2.2) rfl ?_
  obtain ⟨bb, cap', hov, hfin⟩ := HRb1.out.done (by decide) (by show 2 ≤ 1000000; decide)
  replace hov : Value.slice bb1 2 cc1 = Value.slice bb 2 cap' := hov
  injection hov with e1 _ e3
  subst e1 e3
  exact ⟨_, rfl, hfin _ _ _ _, below_put4 HRb1.out.below (by omega) _ _ _ _⟩

theorem rput_any (l : List Ty) (hla : l.length ≤ 600) (hgl : ∀ x ∈ l, Good x ∧ nodes x ≤ 1000000) : ∀ t : Ty, Good t → RPutC l base cap t := by
  intro t hg
  induction hg with
  | var op n h1 h2 h3 => exact rput_leaf l hla hgl op n [] (.var op n h1 h2 h3)
  | con s h1 h2 => exact rput_leaf l hla hgl 2 0 s (.con s h1 h2)
  | node op x y h hx hy ihx ihy => exact rput_node l op x y h ihx ihy
end
end Ty
end Go.Proofs.Ytkedhnahgpmkaaa
