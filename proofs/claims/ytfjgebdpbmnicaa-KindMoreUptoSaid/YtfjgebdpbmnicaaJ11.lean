/- What rebuilt returns. -/
import Derived.Test.YtfjgebdpbmnicaaJ07
import Derived.Deep.RegionHeld3
import Derived.IntWalk
namespace Go.Proofs.Ytfjgebdpbmnicaa
open Go.RowKit

namespace Ty

set_option maxHeartbeats 4000000 in
theorem reb_leaf_101 {σ : Type} {f : Ty → Nat → σ → Ty × σ} {I : World → σ → Prop} {m : Option Nat} {w0 : World} {base B1 B2 B3 : Nat}
    (hleaf : Leafs 81 #[.pointer (some ⟨B1, 0, none⟩), .pointer (some ⟨B2, 0, none⟩), .pointer (some ⟨B3, 0, none⟩)] f I m w0 base)
    (hI : ∀ W W' st, I W st → Below base W W' → I W' st) (hm : ∀ j, m = some j → w0.heap.size ≤ j ∧ j < base)
    (op n : Int) (s : List UInt8) (hg : Good (.mk op n s [])) (v : Value) (k : Nat) (st : σ) (w : World) (hv : V w0 (.mk op n s []) v) (hb : Below w0.heap.size w0 w) (hw : base ≤ w.heap.size) (hi : I w st) (hk : k ≤ 1000000) :
    Calls Try.prog 88 #[v, .int .i64 k, .func (.func 81) #[] #[.pointer (some ⟨B1, 0, none⟩), .pointer (some ⟨B2, 0, none⟩), .pointer (some ⟨B3, 0, none⟩)]] w (RebP (f (.mk op n s []) k st) I m w) := by
  obtain ⟨b, c, ev, _, _⟩ := hv
  rw [show v = .agg #[.int .i64 op, .int .i64 n, .string ⟨s.toArray⟩, .slice b 0 c] from ev]
  clear ev
  obtain ⟨_, ht6⟩ := two_boxes w (.int .i64 op) (.int .i64 n) (.string ⟨s.toArray⟩) (.slice b 0 c) (.int .i64 0) (.int .i64 0) (.string ⟨#[]⟩) (.slice none 0 0)
  have hb2 : Below w.heap.size w ((w.alloc (Obj.cells #[.int .i64 op, .int .i64 n, .string ⟨s.toArray⟩, .slice b 0 c] 36)).alloc (Obj.cells #[.int .i64 0, .int .i64 0, .string ⟨#[]⟩, .slice none 0 0] 36)) := below_two w _ _
  have HT6 := Lib.hid ht6
  have HB2 := Lib.hid hb2
  clear ht6 hb2
  go_enter Try.func88, Try.ntmps88
  go_wp2_with fail
  obtain ⟨W2, hW2⟩ : ∃ W2, W2 = (w.alloc (Obj.cells #[.int .i64 op, .int .i64 n, .string ⟨s.toArray⟩, .slice b 0 c] 36)).alloc (Obj.cells #[.int .i64 0, .int .i64 0, .string ⟨#[]⟩, .slice none 0 0] 36) := ⟨_, rfl⟩
  rw [← hW2] at HT6 HB2 ⊢
  have HSZ : Hid (W2.heap.size = w.heap.size + 2) := Lib.hid (by rw [hW2]; simp)
  clear hW2
  refine (hleaf W2 op n s k st hg (hI _ _ _ hi (HB2.out.mono hw)) (Nat.le_trans hw HB2.out.size) (hb.trans (HB2.out.mono hb.size)) hk).mono ?_
  rintro e w2 ⟨v, rfl, ⟨b9, c9, rfl, hs9, hl9⟩, hgr, hi2⟩
  have HV9 : Hid (VO (W2.heap.size ≤ ·) w2 (f (.mk op n s []) k st).1 _) := Lib.hid ⟨b9, c9, rfl, hs9, hl9⟩
  have HT := Lib.hid (HT6.out.nextm hgr (fun j hj => Nat.lt_of_lt_of_le (hm j hj).2 hw) (by omega))
  have HG := Lib.hid (grown_trans' (grown_of_below (m := m) HB2.out) hgr)
  have HI2 := Lib.hid hi2
  clear hs9 hl9 hgr hi2 HT6
  obtain ⟨z0, z1, z2, z3⟩ := HT.out.cells; have f0 := HT.out.frozen 0; have f1 := HT.out.frozen 1; have f2 := HT.out.frozen 2; have f3 := HT.out.frozen 3
  go_wp2_with fail
  refine bodyPost_ret (results_ty (a := 6) (by kernel_rfl) (B := w.heap.size + 1) (by rfl) (put4_cells HT.out _ _ _ _).cells.1 (put4_cells HT.out _ _ _ _).cells.2.1 (put4_cells HT.out _ _ _ _).cells.2.2.1 (put4_cells HT.out _ _ _ _).cells.2.2.2) rfl ?_
  refine ⟨_, rfl, ?_, grown_put4 HG.out (by omega) _ _ _ _, hI _ _ _ HI2.out (below_put4' (by omega) _ _ _ _)⟩
  have hsz := HSZ.out
  exact HV9.out.keep (fun g hg => by show w.heap.size ≤ g; have : W2.heap.size ≤ g := hg; omega) (fun p v hp hc => put4_keep _ _ _ _ p v hc (by have : W2.heap.size ≤ p.block := hp; omega))

set_option maxHeartbeats 16000000 in
theorem reb_node_101 {σ : Type} {f : Ty → Nat → σ → Ty × σ} {I : World → σ → Prop} {m : Option Nat} {w0 : World} {base B1 B2 B3 : Nat}
    (hI : ∀ W W' st, I W st → Below base W W' → I W' st) (hm : ∀ j, m = some j → w0.heap.size ≤ j ∧ j < base) (h0 : w0.heap.size ≤ base)
    (op : Int) (x y : Ty)
    (hx : RebC (.func (.func 81) #[] #[.pointer (some ⟨B1, 0, none⟩), .pointer (some ⟨B2, 0, none⟩), .pointer (some ⟨B3, 0, none⟩)]) f I m w0 base x) (hy : RebC (.func (.func 81) #[] #[.pointer (some ⟨B1, 0, none⟩), .pointer (some ⟨B2, 0, none⟩), .pointer (some ⟨B3, 0, none⟩)]) f I m w0 base y)
    (v : Value) (k : Nat) (st : σ) (w : World) (hv : V w0 (.mk op 0 [] [x, y]) v) (hb : Below w0.heap.size w0 w) (hw : base ≤ w.heap.size) (hi : I w st) (hk : k + nodes (.mk op 0 [] [x, y]) ≤ 1000000) :
    Calls Try.prog 88 #[v, .int .i64 k, .func (.func 81) #[] #[.pointer (some ⟨B1, 0, none⟩), .pointer (some ⟨B2, 0, none⟩), .pointer (some ⟨B3, 0, none⟩)]] w (RebP (reb f (.mk op 0 [] [x, y]) k st) I m w) := by
  obtain ⟨b, c, ev, _, hl, h4⟩ := hv
  rcases h4 with h4 | ⟨g, o, rfl, hrow⟩
  · cases h4
  rw [show v = .agg #[.int .i64 op, .int .i64 0, .string ⟨#[]⟩, .slice (some ⟨g, o, none⟩) 2 c] from ev]
  clear ev hl
  obtain ⟨hrx, hry, _⟩ := hrow
  have hmk : ∀ w, (Instr.makeSlice 32 (.int .i64 2) (.int .i64 2)).run Try.prog w = .ok (.slice (some ⟨w.heap.size, 0, none⟩) 2 2) (w.alloc (.cells #[.int .i64 0, .int .i64 0, .string ⟨#[]⟩, .slice none 0 0, .int .i64 0, .int .i64 0, .string ⟨#[]⟩, .slice none 0 0] 36)) := fun _ => by kernel_rfl
  obtain ⟨ht3, ht6⟩ := two_boxes w (.int .i64 op) (.int .i64 0) (.string ⟨#[]⟩) (.slice (some ⟨g, o, none⟩) 2 c) (.int .i64 0) (.int .i64 0) (.string ⟨#[]⟩) (.slice none 0 0)
  have hb2 : Below w.heap.size w ((w.alloc (Obj.cells #[.int .i64 op, .int .i64 0, .string ⟨#[]⟩, .slice (some ⟨g, o, none⟩) 2 c] 36)).alloc (Obj.cells #[.int .i64 0, .int .i64 0, .string ⟨#[]⟩, .slice none 0 0] 36)) := below_two w _ _
  have HT3 := Lib.hid ht3
  have HT6 := Lib.hid ht6
  have HB2 := Lib.hid hb2
  have HX := Lib.hid hx
  have HY := Lib.hid hy
  rw [nodes_node] at hk
  have hk1 : k + nodes x ≤ 1000000 := by omega
  have hk2 : k + undN op + nodes y ≤ 1000000 := by have := undN_le op; have := nodes_pos x; omega
  have hk3 : k ≤ 1000000 := by omega
  clear ht3 ht6 hb2 hx hy hk
  go_enter Try.func88, Try.ntmps88
  go_upto_region 3 with fail
  obtain ⟨W2, hW2⟩ : ∃ W2, W2 = (w.alloc (Obj.cells #[.int .i64 op, .int .i64 0, .string ⟨#[]⟩, .slice (some ⟨g, o, none⟩) 2 c] 36)).alloc (Obj.cells #[.int .i64 0, .int .i64 0, .string ⟨#[]⟩, .slice none 0 0] 36) := ⟨_, rfl⟩
  rw [← hW2] at HT3 HT6 HB2 ⊢
  have HSZ : Hid (W2.heap.size = w.heap.size + 2) := Lib.hid (by rw [hW2]; simp)
  clear hW2
  obtain ⟨c0, c1, c2, c3⟩ := HT3.out.cells
  have n0 := World.new_ne W2 _ c0
  have n3 := World.new_ne W2 _ c3
  go_region_held3 (fun W => W.cell? ⟨w.heap.size, 0, none⟩ = some (.int .i64 op) ∧ W.cell? ⟨w.heap.size, 3, none⟩ = some (.slice (some ⟨g, o, none⟩) 2 c)) (go_keep) (fail)
  all_goals rename_i hS
  all_goals clear hS
  · have HN := Lib.hid (NS.newA (m := m) (a := .slice (some ⟨g, o, none⟩) 2 c) (r0 := .int .i64 0) (r1 := .int .i64 0) (r2 := .string ⟨#[]⟩) (r3 := .slice none 0 0) (r4 := .int .i64 0) (r5 := .int .i64 0) (r6 := .string ⟨#[]⟩) (r7 := .slice none 0 0) W2 hw hI hb HB2.out hi HSZ.out HT3.out HT6.out)
    obtain ⟨W3, hW3⟩ : ∃ W3, W3 = ((W2.alloc (Obj.cells #[.int .i64 0, .int .i64 0, .string ⟨#[]⟩, .slice none 0 0, .int .i64 0, .int .i64 0, .string ⟨#[]⟩, .slice none 0 0] 36)).alloc (Obj.cells #[.int .i64 op, .int .i64 0, .string ⟨#[]⟩, .slice (some ⟨W2.heap.size, 0, none⟩) 2 2] 36)).drew := ⟨_, rfl⟩
    rw [← hW3] at HN ⊢
    clear hW3
    obtain ⟨H, hH⟩ : ∃ H, H = W2.heap.size + 1 := ⟨_, rfl⟩
    rw [← hH] at HN ⊢
    obtain ⟨G, hG⟩ : ∃ G, G = W2.heap.size := ⟨_, rfl⟩
    rw [← hG] at HN ⊢
    clear hG hH HB2 HT3 HT6 HSZ n0 n3 c0 c1 c2 c3 hi hmk
    obtain ⟨xb, xc, x0, x1, x2, x3, hvx⟩ := at_v hrx
    obtain ⟨yb, yc, y0, y1, y2, y3, hvy⟩ := at_v hry
    have HVX := Lib.hid hvx
    have HVY := Lib.hid hvy
    clear hvx hvy
    have x0 := keeps HN.out.old _ _ x0
    have x1 := keeps HN.out.old _ _ x1
    have x2 := keeps HN.out.old _ _ x2
    have x3 := keeps HN.out.old _ _ x3
    have Y0 := Lib.hid y0
    have Y1 := Lib.hid y1
    have Y2 := Lib.hid y2
    have Y3 := Lib.hid y3
    clear y0 y1 y2 y3
    obtain ⟨q0, q1, q2, q3⟩ := HN.out.box.cells
    go_wp2_with fail
    refine wp_loop_rounds 3 ?_
    rw [rounds_succ]
    go_wp2_with fail
    obtain ⟨W4, hW4⟩ : ∃ W4, W4 = W3.alloc (Obj.cells #[.int .i64 x.op, .int .i64 x.n, .string x.name, .slice xb x.args.length xc] 36) := ⟨_, rfl⟩
    have ht9 : B4 W4 W3.heap.size (.int .i64 x.op) (.int .i64 x.n) (.string x.name) (.slice xb x.args.length xc) := by rw [hW4]; exact heap_alloc_new _ _
    have hb9 : Below W3.heap.size W3 W4 := by rw [hW4]; exact (Below.refl _ _).alloc (Nat.le_refl _) _
    have hb0 := HN.out.grown.size
    have hne1 : w.heap.size ≠ G := by have := HN.out.hG; omega
    have hne2 : H ≠ G := HN.out.ne.symm
    have hne3 : W3.heap.size ≠ G := by have := lt_of_block HN.out.row; omega
    rw [← hW4]
    clear hW4 x0 x1 x2 x3 q0 q1 q2 q3
    have HN4 := Lib.hid ((HN.out.next hm hw hI hb9).next hm hw hI (drew_below _))
    obtain ⟨D4, hD4⟩ : ∃ D4, D4 = W3.heap.size := ⟨_, rfl⟩
    rw [← hD4] at ht9 ⊢
    rw [← hD4] at hb0 hne3
    have HT4 := Lib.hid (show B4 W4.drew D4 _ _ _ _ from ht9)
    clear hD4 hb9 ht9
    obtain ⟨q0, q1, q2, q3⟩ := HN4.out.box.cells
    obtain ⟨_, _, _, p3⟩ := HN4.out.made.cells
    obtain ⟨t0, t1, t2, t3⟩ := HT4.out.cells
    obtain ⟨rx, hrx⟩ : ∃ rx, rx = (reb f x k st).1 := ⟨_, rfl⟩
    obtain ⟨s1, hs1⟩ : ∃ s1, s1 = (reb f x k st).2 := ⟨_, rfl⟩
    have HC4 := Lib.hid (fun (W : World) (hN : NS I m w0 w base op (.slice (some ⟨g, o, none⟩) 2 c) G H st (.int .i64 0) (.int .i64 0) (.string ⟨#[]⟩) (.slice none 0 0) (.int .i64 0) (.int .i64 0) (.string ⟨#[]⟩) (.slice none 0 0) W) => call_part HX.out hm hw HVX.out hk1 hN)
    rw [← hrx, ← hs1] at HC4
    have HR4 := Lib.hid hrx
    have HS4 := Lib.hid hs1
    clear hrx hs1
    have hz0 : IntKind.i64.wrap ((k : Int) + 0) = k := by rw [Int.add_zero]; exact IntWalk.i64_in _ (by omega)
    have hz1 : IntKind.i64.wrap (k : Int) = k := IntWalk.i64_in _ (by omega)
    go_region_held3 (fun W => W.cell? ⟨w.heap.size, 0, none⟩ = some (.int .i64 op) ∧ W.cell? ⟨w.heap.size, 1, none⟩ = some (.int .i64 0) ∧ W.cell? ⟨w.heap.size, 2, none⟩ = some (.string ⟨#[]⟩) ∧ W.cell? ⟨w.heap.size, 3, none⟩ = some (.slice (some ⟨g, o, none⟩) 2 c) ∧ W.cell? ⟨H, 3, none⟩ = some (.slice (some ⟨G, 0, none⟩) 2 2) ∧ W.cell? ⟨D4, 0, none⟩ = some (.int .i64 x.op) ∧ W.cell? ⟨D4, 1, none⟩ = some (.int .i64 x.n) ∧ W.cell? ⟨D4, 2, none⟩ = some (.string x.name) ∧ W.cell? ⟨D4, 3, none⟩ = some (.slice xb x.args.length xc))
      (first | (with_reducible exact ⟨q0, q1, q2, q3, p3, t0, t1, t2, t3⟩) | (with_reducible exact ⟨u0, u1, u2, u3, u4, u5, u6, u7, u8⟩) | (with_reducible exact ⟨z0, z1, z2, z3, z4, z5, z6, z7, z8⟩) | exact ⟨put4At_keep (o := 0) _ _ _ _ _ _ z0 hne1, put4At_keep (o := 0) _ _ _ _ _ _ z1 hne1, put4At_keep (o := 0) _ _ _ _ _ _ z2 hne1, put4At_keep (o := 0) _ _ _ _ _ _ z3 hne1, put4At_keep (o := 0) _ _ _ _ _ _ z4 hne2, put4At_keep (o := 0) _ _ _ _ _ _ z5 hne3, put4At_keep (o := 0) _ _ _ _ _ _ z6 hne3, put4At_keep (o := 0) _ _ _ _ _ _ z7 hne3, put4At_keep (o := 0) _ _ _ _ _ _ z8 hne3⟩)
      (first
      | (go_at_call 89; refine (binds_first _ _ _ _ _ _ _).mono ?_; rintro e w4a ⟨rfl, hb5⟩; have HN4B := Lib.hid (HN4.out.next hm hw hI hb5); have HT4B := Lib.hid (HT4.out.next hb5); clear hb5; obtain ⟨u0, u1, u2, u3⟩ := HN4B.out.box.cells; obtain ⟨_, _, _, u4⟩ := HN4B.out.made.cells; obtain ⟨u5, u6, u7, u8⟩ := HT4B.out.cells)
      | (go_at_call 88; refine (HC4.out _ HN4B.out).mono ?_; rintro e w4b ⟨v6, rfl, ⟨b4, c4, rfl, hs6, hl6⟩, hn6, hg6⟩; have HV4 := Lib.hid (show VO (okB w G H) w4b rx _ from ⟨b4, c4, rfl, hs6, hl6⟩); have HN4P := Lib.hid hn6; have HT4P := Lib.hid (HT4B.out.nextm hg6 (fun j hj => Nat.lt_of_lt_of_le (hm j hj).2 hw) (by omega));  clear hs6 hl6 hn6 hg6; obtain ⟨z0, z1, z2, z3⟩ := HN4P.out.box.cells; obtain ⟨_, _, _, z4⟩ := HN4P.out.made.cells; obtain ⟨z5, z6, z7, z8⟩ := HT4P.out.cells; obtain ⟨⟨e0, e1, e2, e3⟩, _⟩ := HN4P.out.rc; have f0 := HN4P.out.frozen 0; have f1 := HN4P.out.frozen 1; have f2 := HN4P.out.frozen 2; have f3 := HN4P.out.frozen 3))
    rename_i hS
    clear hS e0 e1 e2 e3 f0 f1 f2 f3 u0 u1 u2 u3 u4 u5 u6 u7 u8 z0 z1 z2 z3 z4 z5 z6 z7 z8 q0 q1 q2 q3 p3 t0 t1 t2 t3 HN4 HN4B HT4 HT4B HT4P
    have HNB := Lib.hid (HN4P.out.put0 hw h0 hI (.int .i64 rx.op) (.int .i64 rx.n) (.string rx.name) (.slice b4 rx.args.length c4))
    have HPX := Lib.hid (part_put (o := 0) HV4.out (.int .i64 rx.op) (.int .i64 rx.n) (.string rx.name) (.slice b4 rx.args.length c4))
    obtain ⟨W5, hW5⟩ : ∃ W5, W5 = put4At w4b G 0 (.int .i64 rx.op) (.int .i64 rx.n) (.string rx.name) (.slice b4 rx.args.length c4) := ⟨_, rfl⟩
    rw [← hW5] at HNB HPX
    have hW5' := hW5
    unfold put4At at hW5'
    rw [show (0 : Nat) + 1 = 1 from rfl, show (0 : Nat) + 2 = 2 from rfl, show (0 : Nat) + 3 = 3 from rfl] at hW5'
    rw [← hW5']
    clear hW5 hW5' HN4P HV4
    have x0 := keeps HNB.out.old _ _ Y0.out
    have x1 := keeps HNB.out.old _ _ Y1.out
    have x2 := keeps HNB.out.old _ _ Y2.out
    have x3 := keeps HNB.out.old _ _ Y3.out
    obtain ⟨q0, q1, q2, q3⟩ := HNB.out.box.cells
    go_wp2_with fail
    rw [rounds_succ]
    go_wp2_with fail
    obtain ⟨W6, hW6⟩ : ∃ W6, W6 = W5.alloc (Obj.cells #[.int .i64 y.op, .int .i64 y.n, .string y.name, .slice yb y.args.length yc] 36) := ⟨_, rfl⟩
    have ht9 : B4 W6 W5.heap.size (.int .i64 y.op) (.int .i64 y.n) (.string y.name) (.slice yb y.args.length yc) := by rw [hW6]; exact heap_alloc_new _ _
    have hb9 : Below W5.heap.size W5 W6 := by rw [hW6]; exact (Below.refl _ _).alloc (Nat.le_refl _) _
    have HPX6 := Lib.hid (part_next (part_next HPX.out hm hw (grown_of_below hb9)) hm hw (grown_of_below (drew_below _)))
    have hb0 := HNB.out.grown.size
    have hne1 : w.heap.size ≠ G := by have := HNB.out.hG; omega
    have hne2 : H ≠ G := HNB.out.ne.symm
    have hne3 : W5.heap.size ≠ G := by have := lt_of_block HNB.out.row; omega
    rw [← hW6]
    clear hW6 x0 x1 x2 x3 q0 q1 q2 q3
    have HN6 := Lib.hid ((HNB.out.next hm hw hI hb9).next hm hw hI (drew_below _))
    obtain ⟨D6, hD6⟩ : ∃ D6, D6 = W5.heap.size := ⟨_, rfl⟩
    rw [← hD6] at ht9 ⊢
    rw [← hD6] at hb0 hne3
    have HT6 := Lib.hid (show B4 W6.drew D6 _ _ _ _ from ht9)
    clear hD6 hb9 ht9
    obtain ⟨q0, q1, q2, q3⟩ := HN6.out.box.cells
    obtain ⟨_, _, _, p3⟩ := HN6.out.made.cells
    obtain ⟨t0, t1, t2, t3⟩ := HT6.out.cells
    obtain ⟨ry, hry⟩ : ∃ ry, ry = (reb f y (k + undN op) s1).1 := ⟨_, rfl⟩
    obtain ⟨s2, hs2⟩ : ∃ s2, s2 = (reb f y (k + undN op) s1).2 := ⟨_, rfl⟩
    have HC6 := Lib.hid (fun (W : World) (hN : NS I m w0 w base op (.slice (some ⟨g, o, none⟩) 2 c) G H s1 (.int .i64 rx.op) (.int .i64 rx.n) (.string rx.name) (.slice b4 rx.args.length c4) (.int .i64 0) (.int .i64 0) (.string ⟨#[]⟩) (.slice none 0 0) W) => call_part HY.out hm hw HVY.out hk2 hN)
    rw [← hry, ← hs2] at HC6
    have HR6 := Lib.hid hry
    have HS6 := Lib.hid hs2
    clear hry hs2
    have hz0 : IntKind.i64.wrap ((k : Int) + (undN op : Nat)) = ((k + undN op : Nat) : Int) := by rw [IntWalk.i64_in _ (by omega)]; omega
    go_region_held3 (fun W => W.cell? ⟨w.heap.size, 0, none⟩ = some (.int .i64 op) ∧ W.cell? ⟨w.heap.size, 1, none⟩ = some (.int .i64 0) ∧ W.cell? ⟨w.heap.size, 2, none⟩ = some (.string ⟨#[]⟩) ∧ W.cell? ⟨w.heap.size, 3, none⟩ = some (.slice (some ⟨g, o, none⟩) 2 c) ∧ W.cell? ⟨H, 3, none⟩ = some (.slice (some ⟨G, 0, none⟩) 2 2) ∧ W.cell? ⟨D6, 0, none⟩ = some (.int .i64 y.op) ∧ W.cell? ⟨D6, 1, none⟩ = some (.int .i64 y.n) ∧ W.cell? ⟨D6, 2, none⟩ = some (.string y.name) ∧ W.cell? ⟨D6, 3, none⟩ = some (.slice yb y.args.length yc))
      (first | (with_reducible exact ⟨q0, q1, q2, q3, p3, t0, t1, t2, t3⟩) | (with_reducible exact ⟨u0, u1, u2, u3, u4, u5, u6, u7, u8⟩) | (with_reducible exact ⟨z0, z1, z2, z3, z4, z5, z6, z7, z8⟩) | exact ⟨put4At_keep (o := 4) _ _ _ _ _ _ z0 hne1, put4At_keep (o := 4) _ _ _ _ _ _ z1 hne1, put4At_keep (o := 4) _ _ _ _ _ _ z2 hne1, put4At_keep (o := 4) _ _ _ _ _ _ z3 hne1, put4At_keep (o := 4) _ _ _ _ _ _ z4 hne2, put4At_keep (o := 4) _ _ _ _ _ _ z5 hne3, put4At_keep (o := 4) _ _ _ _ _ _ z6 hne3, put4At_keep (o := 4) _ _ _ _ _ _ z7 hne3, put4At_keep (o := 4) _ _ _ _ _ _ z8 hne3⟩)
      (first
      | (go_at_call 89; refine (binds_second _ _ _ _ _ _ _).mono ?_; rintro e w6a ⟨rfl, hb5⟩; have HN6B := Lib.hid (HN6.out.next hm hw hI hb5); have HT6B := Lib.hid (HT6.out.next hb5); have HPX6B := Lib.hid (part_next HPX6.out hm hw (grown_of_below hb5)); clear hb5; obtain ⟨u0, u1, u2, u3⟩ := HN6B.out.box.cells; obtain ⟨_, _, _, u4⟩ := HN6B.out.made.cells; obtain ⟨u5, u6, u7, u8⟩ := HT6B.out.cells)
      | (go_at_call 88; refine (HC6.out _ HN6B.out).mono ?_; rintro e w6b ⟨v6, rfl, ⟨b6, c6, rfl, hs6, hl6⟩, hn6, hg6⟩; have HV6 := Lib.hid (show VO (okB w G H) w6b ry _ from ⟨b6, c6, rfl, hs6, hl6⟩); have HN6P := Lib.hid hn6; have HT6P := Lib.hid (HT6B.out.nextm hg6 (fun j hj => Nat.lt_of_lt_of_le (hm j hj).2 hw) (by omega));  have HPX6P := Lib.hid (part_next HPX6B.out hm hw hg6); clear hs6 hl6 hn6 hg6; obtain ⟨z0, z1, z2, z3⟩ := HN6P.out.box.cells; obtain ⟨_, _, _, z4⟩ := HN6P.out.made.cells; obtain ⟨z5, z6, z7, z8⟩ := HT6P.out.cells; obtain ⟨_, e0, e1, e2, e3⟩ := HN6P.out.rc; have f0 := HN6P.out.frozen 4; have f1 := HN6P.out.frozen 5; have f2 := HN6P.out.frozen 6; have f3 := HN6P.out.frozen 7))
    rename_i hS
    clear hS e0 e1 e2 e3 f0 f1 f2 f3 u0 u1 u2 u3 u4 u5 u6 u7 u8 z0 z1 z2 z3 z4 z5 z6 z7 z8 q0 q1 q2 q3 p3 t0 t1 t2 t3 HN6 HN6B HT6 HT6B HT6P
    clear HPX6 HPX6B
    have HND := Lib.hid (HN6P.out.put4 hw h0 hI (.int .i64 ry.op) (.int .i64 ry.n) (.string ry.name) (.slice b6 ry.args.length c6))
    have HPXF := Lib.hid (part_put (o := 4) HPX6P.out (.int .i64 ry.op) (.int .i64 ry.n) (.string ry.name) (.slice b6 ry.args.length c6))
    have HPYF := Lib.hid (part_put (o := 4) HV6.out (.int .i64 ry.op) (.int .i64 ry.n) (.string ry.name) (.slice b6 ry.args.length c6))
    obtain ⟨W7, hW7⟩ : ∃ W7, W7 = put4At w6b G 4 (.int .i64 ry.op) (.int .i64 ry.n) (.string ry.name) (.slice b6 ry.args.length c6) := ⟨_, rfl⟩
    rw [← hW7] at HND HPXF HPYF
    have hW7' := hW7
    unfold put4At at hW7'
    rw [show (4 : Nat) + 1 = 5 from rfl, show (4 : Nat) + 2 = 6 from rfl, show (4 : Nat) + 3 = 7 from rfl] at hW7'
    rw [← hW7']
    clear hW7 hW7' HN6P HV6 HPX6P
    obtain ⟨p0, p1, p2, p3⟩ := HND.out.made.cells
    obtain ⟨r0, r1, r2, r3⟩ := HND.out.res.cells
    have f0 := HND.out.res.frozen 0
    have f1 := HND.out.res.frozen 1
    have f2 := HND.out.res.frozen 2
    have f3 := HND.out.res.frozen 3
    go_wp2_with fail
    rw [rounds_succ]
    go_wp2_with fail
    refine bodyPost_ret (results_ty (a := 6) (by kernel_rfl) (B := w.heap.size + 1) (by rfl) (put4_cells HND.out.res _ _ _ _).cells.1 (put4_cells HND.out.res _ _ _ _).cells.2.1 (put4_cells HND.out.res _ _ _ _).cells.2.2.1 (put4_cells HND.out.res _ _ _ _).cells.2.2.2) rfl ?_
    obtain ⟨d1, d2, d3⟩ := node_done HND.out hw hI HPXF.out HPYF.out (.int .i64 op) (.int .i64 0) (.string ⟨#[]⟩) (.slice (some ⟨G, 0, none⟩) 2 2)
    have he : reb f (.mk op 0 [] [x, y]) k st = (.mk op 0 [] [rx, ry], s2) := by rw [reb_node, ← HR4.out, ← HS4.out, ← HR6.out, ← HS6.out]
    rw [he]
    exact ⟨_, rfl, d1, d2, d3⟩
    
  · have HN := Lib.hid (NS.newB (m := m) (a := .slice (some ⟨g, o, none⟩) 2 c) (r0 := .int .i64 0) (r1 := .int .i64 0) (r2 := .string ⟨#[]⟩) (r3 := .slice none 0 0) (r4 := .int .i64 0) (r5 := .int .i64 0) (r6 := .string ⟨#[]⟩) (r7 := .slice none 0 0) W2 hw hI hb HB2.out hi HSZ.out HT3.out HT6.out)
    obtain ⟨W3, hW3⟩ : ∃ W3, W3 = ((W2.alloc (Obj.cells #[.int .i64 op, .int .i64 0, .string ⟨#[]⟩, .slice (some ⟨W2.heap.size + 1, 0, none⟩) 2 2] 36)).alloc (Obj.cells #[.int .i64 0, .int .i64 0, .string ⟨#[]⟩, .slice none 0 0, .int .i64 0, .int .i64 0, .string ⟨#[]⟩, .slice none 0 0] 36)).drew := ⟨_, rfl⟩
    rw [← hW3] at HN ⊢
    clear hW3
    obtain ⟨G, hG⟩ : ∃ G, G = W2.heap.size + 1 := ⟨_, rfl⟩
    rw [← hG] at HN ⊢
    obtain ⟨H, hH⟩ : ∃ H, H = W2.heap.size := ⟨_, rfl⟩
    rw [← hH] at HN ⊢
    clear hG hH HB2 HT3 HT6 HSZ n0 n3 c0 c1 c2 c3 hi hmk
    obtain ⟨xb, xc, x0, x1, x2, x3, hvx⟩ := at_v hrx
    obtain ⟨yb, yc, y0, y1, y2, y3, hvy⟩ := at_v hry
    have HVX := Lib.hid hvx
    have HVY := Lib.hid hvy
    clear hvx hvy
    have x0 := keeps HN.out.old _ _ x0
    have x1 := keeps HN.out.old _ _ x1
    have x2 := keeps HN.out.old _ _ x2
    have x3 := keeps HN.out.old _ _ x3
    have Y0 := Lib.hid y0
    have Y1 := Lib.hid y1
    have Y2 := Lib.hid y2
    have Y3 := Lib.hid y3
    clear y0 y1 y2 y3
    obtain ⟨q0, q1, q2, q3⟩ := HN.out.box.cells
    go_wp2_with fail
    refine wp_loop_rounds 3 ?_
    rw [rounds_succ]
    go_wp2_with fail
    obtain ⟨W4, hW4⟩ : ∃ W4, W4 = W3.alloc (Obj.cells #[.int .i64 x.op, .int .i64 x.n, .string x.name, .slice xb x.args.length xc] 36) := ⟨_, rfl⟩
    have ht9 : B4 W4 W3.heap.size (.int .i64 x.op) (.int .i64 x.n) (.string x.name) (.slice xb x.args.length xc) := by rw [hW4]; exact heap_alloc_new _ _
    have hb9 : Below W3.heap.size W3 W4 := by rw [hW4]; exact (Below.refl _ _).alloc (Nat.le_refl _) _
    have hb0 := HN.out.grown.size
    have hne1 : w.heap.size ≠ G := by have := HN.out.hG; omega
    have hne2 : H ≠ G := HN.out.ne.symm
    have hne3 : W3.heap.size ≠ G := by have := lt_of_block HN.out.row; omega
    rw [← hW4]
    clear hW4 x0 x1 x2 x3 q0 q1 q2 q3
    have HN4 := Lib.hid ((HN.out.next hm hw hI hb9).next hm hw hI (drew_below _))
    obtain ⟨D4, hD4⟩ : ∃ D4, D4 = W3.heap.size := ⟨_, rfl⟩
    rw [← hD4] at ht9 ⊢
    rw [← hD4] at hb0 hne3
    have HT4 := Lib.hid (show B4 W4.drew D4 _ _ _ _ from ht9)
    clear hD4 hb9 ht9
    obtain ⟨q0, q1, q2, q3⟩ := HN4.out.box.cells
    obtain ⟨_, _, _, p3⟩ := HN4.out.made.cells
    obtain ⟨t0, t1, t2, t3⟩ := HT4.out.cells
    obtain ⟨rx, hrx⟩ : ∃ rx, rx = (reb f x k st).1 := ⟨_, rfl⟩
    obtain ⟨s1, hs1⟩ : ∃ s1, s1 = (reb f x k st).2 := ⟨_, rfl⟩
    have HC4 := Lib.hid (fun (W : World) (hN : NS I m w0 w base op (.slice (some ⟨g, o, none⟩) 2 c) G H st (.int .i64 0) (.int .i64 0) (.string ⟨#[]⟩) (.slice none 0 0) (.int .i64 0) (.int .i64 0) (.string ⟨#[]⟩) (.slice none 0 0) W) => call_part HX.out hm hw HVX.out hk1 hN)
    rw [← hrx, ← hs1] at HC4
    have HR4 := Lib.hid hrx
    have HS4 := Lib.hid hs1
    clear hrx hs1
    have hz0 : IntKind.i64.wrap ((k : Int) + 0) = k := by rw [Int.add_zero]; exact IntWalk.i64_in _ (by omega)
    have hz1 : IntKind.i64.wrap (k : Int) = k := IntWalk.i64_in _ (by omega)
    go_region_held3 (fun W => W.cell? ⟨w.heap.size, 0, none⟩ = some (.int .i64 op) ∧ W.cell? ⟨w.heap.size, 1, none⟩ = some (.int .i64 0) ∧ W.cell? ⟨w.heap.size, 2, none⟩ = some (.string ⟨#[]⟩) ∧ W.cell? ⟨w.heap.size, 3, none⟩ = some (.slice (some ⟨g, o, none⟩) 2 c) ∧ W.cell? ⟨H, 3, none⟩ = some (.slice (some ⟨G, 0, none⟩) 2 2) ∧ W.cell? ⟨D4, 0, none⟩ = some (.int .i64 x.op) ∧ W.cell? ⟨D4, 1, none⟩ = some (.int .i64 x.n) ∧ W.cell? ⟨D4, 2, none⟩ = some (.string x.name) ∧ W.cell? ⟨D4, 3, none⟩ = some (.slice xb x.args.length xc))
      (first | (with_reducible exact ⟨q0, q1, q2, q3, p3, t0, t1, t2, t3⟩) | (with_reducible exact ⟨u0, u1, u2, u3, u4, u5, u6, u7, u8⟩) | (with_reducible exact ⟨z0, z1, z2, z3, z4, z5, z6, z7, z8⟩) | exact ⟨put4At_keep (o := 0) _ _ _ _ _ _ z0 hne1, put4At_keep (o := 0) _ _ _ _ _ _ z1 hne1, put4At_keep (o := 0) _ _ _ _ _ _ z2 hne1, put4At_keep (o := 0) _ _ _ _ _ _ z3 hne1, put4At_keep (o := 0) _ _ _ _ _ _ z4 hne2, put4At_keep (o := 0) _ _ _ _ _ _ z5 hne3, put4At_keep (o := 0) _ _ _ _ _ _ z6 hne3, put4At_keep (o := 0) _ _ _ _ _ _ z7 hne3, put4At_keep (o := 0) _ _ _ _ _ _ z8 hne3⟩)
      (first
      | (go_at_call 89; refine (binds_first _ _ _ _ _ _ _).mono ?_; rintro e w4a ⟨rfl, hb5⟩; have HN4B := Lib.hid (HN4.out.next hm hw hI hb5); have HT4B := Lib.hid (HT4.out.next hb5); clear hb5; obtain ⟨u0, u1, u2, u3⟩ := HN4B.out.box.cells; obtain ⟨_, _, _, u4⟩ := HN4B.out.made.cells; obtain ⟨u5, u6, u7, u8⟩ := HT4B.out.cells)
      | (go_at_call 88; refine (HC4.out _ HN4B.out).mono ?_; rintro e w4b ⟨v6, rfl, ⟨b4, c4, rfl, hs6, hl6⟩, hn6, hg6⟩; have HV4 := Lib.hid (show VO (okB w G H) w4b rx _ from ⟨b4, c4, rfl, hs6, hl6⟩); have HN4P := Lib.hid hn6; have HT4P := Lib.hid (HT4B.out.nextm hg6 (fun j hj => Nat.lt_of_lt_of_le (hm j hj).2 hw) (by omega));  clear hs6 hl6 hn6 hg6; obtain ⟨z0, z1, z2, z3⟩ := HN4P.out.box.cells; obtain ⟨_, _, _, z4⟩ := HN4P.out.made.cells; obtain ⟨z5, z6, z7, z8⟩ := HT4P.out.cells; obtain ⟨⟨e0, e1, e2, e3⟩, _⟩ := HN4P.out.rc; have f0 := HN4P.out.frozen 0; have f1 := HN4P.out.frozen 1; have f2 := HN4P.out.frozen 2; have f3 := HN4P.out.frozen 3))
    rename_i hS
    clear hS e0 e1 e2 e3 f0 f1 f2 f3 u0 u1 u2 u3 u4 u5 u6 u7 u8 z0 z1 z2 z3 z4 z5 z6 z7 z8 q0 q1 q2 q3 p3 t0 t1 t2 t3 HN4 HN4B HT4 HT4B HT4P
    have HNB := Lib.hid (HN4P.out.put0 hw h0 hI (.int .i64 rx.op) (.int .i64 rx.n) (.string rx.name) (.slice b4 rx.args.length c4))
    have HPX := Lib.hid (part_put (o := 0) HV4.out (.int .i64 rx.op) (.int .i64 rx.n) (.string rx.name) (.slice b4 rx.args.length c4))
    obtain ⟨W5, hW5⟩ : ∃ W5, W5 = put4At w4b G 0 (.int .i64 rx.op) (.int .i64 rx.n) (.string rx.name) (.slice b4 rx.args.length c4) := ⟨_, rfl⟩
    rw [← hW5] at HNB HPX
    have hW5' := hW5
    unfold put4At at hW5'
    rw [show (0 : Nat) + 1 = 1 from rfl, show (0 : Nat) + 2 = 2 from rfl, show (0 : Nat) + 3 = 3 from rfl] at hW5'
    rw [← hW5']
    clear hW5 hW5' HN4P HV4
    have x0 := keeps HNB.out.old _ _ Y0.out
    have x1 := keeps HNB.out.old _ _ Y1.out
    have x2 := keeps HNB.out.old _ _ Y2.out
    have x3 := keeps HNB.out.old _ _ Y3.out
    obtain ⟨q0, q1, q2, q3⟩ := HNB.out.box.cells
    go_wp2_with fail
    rw [rounds_succ]
    go_wp2_with fail
    obtain ⟨W6, hW6⟩ : ∃ W6, W6 = W5.alloc (Obj.cells #[.int .i64 y.op, .int .i64 y.n, .string y.name, .slice yb y.args.length yc] 36) := ⟨_, rfl⟩
    have ht9 : B4 W6 W5.heap.size (.int .i64 y.op) (.int .i64 y.n) (.string y.name) (.slice yb y.args.length yc) := by rw [hW6]; exact heap_alloc_new _ _
    have hb9 : Below W5.heap.size W5 W6 := by rw [hW6]; exact (Below.refl _ _).alloc (Nat.le_refl _) _
    have HPX6 := Lib.hid (part_next (part_next HPX.out hm hw (grown_of_below hb9)) hm hw (grown_of_below (drew_below _)))
    have hb0 := HNB.out.grown.size
    have hne1 : w.heap.size ≠ G := by have := HNB.out.hG; omega
    have hne2 : H ≠ G := HNB.out.ne.symm
    have hne3 : W5.heap.size ≠ G := by have := lt_of_block HNB.out.row; omega
    rw [← hW6]
    clear hW6 x0 x1 x2 x3 q0 q1 q2 q3
    have HN6 := Lib.hid ((HNB.out.next hm hw hI hb9).next hm hw hI (drew_below _))
    obtain ⟨D6, hD6⟩ : ∃ D6, D6 = W5.heap.size := ⟨_, rfl⟩
    rw [← hD6] at ht9 ⊢
    rw [← hD6] at hb0 hne3
    have HT6 := Lib.hid (show B4 W6.drew D6 _ _ _ _ from ht9)
    clear hD6 hb9 ht9
    obtain ⟨q0, q1, q2, q3⟩ := HN6.out.box.cells
    obtain ⟨_, _, _, p3⟩ := HN6.out.made.cells
    obtain ⟨t0, t1, t2, t3⟩ := HT6.out.cells
    obtain ⟨ry, hry⟩ : ∃ ry, ry = (reb f y (k + undN op) s1).1 := ⟨_, rfl⟩
    obtain ⟨s2, hs2⟩ : ∃ s2, s2 = (reb f y (k + undN op) s1).2 := ⟨_, rfl⟩
    have HC6 := Lib.hid (fun (W : World) (hN : NS I m w0 w base op (.slice (some ⟨g, o, none⟩) 2 c) G H s1 (.int .i64 rx.op) (.int .i64 rx.n) (.string rx.name) (.slice b4 rx.args.length c4) (.int .i64 0) (.int .i64 0) (.string ⟨#[]⟩) (.slice none 0 0) W) => call_part HY.out hm hw HVY.out hk2 hN)
    rw [← hry, ← hs2] at HC6
    have HR6 := Lib.hid hry
    have HS6 := Lib.hid hs2
    clear hry hs2
    have hz0 : IntKind.i64.wrap ((k : Int) + (undN op : Nat)) = ((k + undN op : Nat) : Int) := by rw [IntWalk.i64_in _ (by omega)]; omega
    go_region_held3 (fun W => W.cell? ⟨w.heap.size, 0, none⟩ = some (.int .i64 op) ∧ W.cell? ⟨w.heap.size, 1, none⟩ = some (.int .i64 0) ∧ W.cell? ⟨w.heap.size, 2, none⟩ = some (.string ⟨#[]⟩) ∧ W.cell? ⟨w.heap.size, 3, none⟩ = some (.slice (some ⟨g, o, none⟩) 2 c) ∧ W.cell? ⟨H, 3, none⟩ = some (.slice (some ⟨G, 0, none⟩) 2 2) ∧ W.cell? ⟨D6, 0, none⟩ = some (.int .i64 y.op) ∧ W.cell? ⟨D6, 1, none⟩ = some (.int .i64 y.n) ∧ W.cell? ⟨D6, 2, none⟩ = some (.string y.name) ∧ W.cell? ⟨D6, 3, none⟩ = some (.slice yb y.args.length yc))
      (first | (with_reducible exact ⟨q0, q1, q2, q3, p3, t0, t1, t2, t3⟩) | (with_reducible exact ⟨u0, u1, u2, u3, u4, u5, u6, u7, u8⟩) | (with_reducible exact ⟨z0, z1, z2, z3, z4, z5, z6, z7, z8⟩) | exact ⟨put4At_keep (o := 4) _ _ _ _ _ _ z0 hne1, put4At_keep (o := 4) _ _ _ _ _ _ z1 hne1, put4At_keep (o := 4) _ _ _ _ _ _ z2 hne1, put4At_keep (o := 4) _ _ _ _ _ _ z3 hne1, put4At_keep (o := 4) _ _ _ _ _ _ z4 hne2, put4At_keep (o := 4) _ _ _ _ _ _ z5 hne3, put4At_keep (o := 4) _ _ _ _ _ _ z6 hne3, put4At_keep (o := 4) _ _ _ _ _ _ z7 hne3, put4At_keep (o := 4) _ _ _ _ _ _ z8 hne3⟩)
      (first
      | (go_at_call 89; refine (binds_second _ _ _ _ _ _ _).mono ?_; rintro e w6a ⟨rfl, hb5⟩; have HN6B := Lib.hid (HN6.out.next hm hw hI hb5); have HT6B := Lib.hid (HT6.out.next hb5); have HPX6B := Lib.hid (part_next HPX6.out hm hw (grown_of_below hb5)); clear hb5; obtain ⟨u0, u1, u2, u3⟩ := HN6B.out.box.cells; obtain ⟨_, _, _, u4⟩ := HN6B.out.made.cells; obtain ⟨u5, u6, u7, u8⟩ := HT6B.out.cells)
      | (go_at_call 88; refine (HC6.out _ HN6B.out).mono ?_; rintro e w6b ⟨v6, rfl, ⟨b6, c6, rfl, hs6, hl6⟩, hn6, hg6⟩; have HV6 := Lib.hid (show VO (okB w G H) w6b ry _ from ⟨b6, c6, rfl, hs6, hl6⟩); have HN6P := Lib.hid hn6; have HT6P := Lib.hid (HT6B.out.nextm hg6 (fun j hj => Nat.lt_of_lt_of_le (hm j hj).2 hw) (by omega));  have HPX6P := Lib.hid (part_next HPX6B.out hm hw hg6); clear hs6 hl6 hn6 hg6; obtain ⟨z0, z1, z2, z3⟩ := HN6P.out.box.cells; obtain ⟨_, _, _, z4⟩ := HN6P.out.made.cells; obtain ⟨z5, z6, z7, z8⟩ := HT6P.out.cells; obtain ⟨_, e0, e1, e2, e3⟩ := HN6P.out.rc; have f0 := HN6P.out.frozen 4; have f1 := HN6P.out.frozen 5; have f2 := HN6P.out.frozen 6; have f3 := HN6P.out.frozen 7))
    rename_i hS
    clear hS e0 e1 e2 e3 f0 f1 f2 f3 u0 u1 u2 u3 u4 u5 u6 u7 u8 z0 z1 z2 z3 z4 z5 z6 z7 z8 q0 q1 q2 q3 p3 t0 t1 t2 t3 HN6 HN6B HT6 HT6B HT6P
    clear HPX6 HPX6B
    have HND := Lib.hid (HN6P.out.put4 hw h0 hI (.int .i64 ry.op) (.int .i64 ry.n) (.string ry.name) (.slice b6 ry.args.length c6))
    have HPXF := Lib.hid (part_put (o := 4) HPX6P.out (.int .i64 ry.op) (.int .i64 ry.n) (.string ry.name) (.slice b6 ry.args.length c6))
    have HPYF := Lib.hid (part_put (o := 4) HV6.out (.int .i64 ry.op) (.int .i64 ry.n) (.string ry.name) (.slice b6 ry.args.length c6))
    obtain ⟨W7, hW7⟩ : ∃ W7, W7 = put4At w6b G 4 (.int .i64 ry.op) (.int .i64 ry.n) (.string ry.name) (.slice b6 ry.args.length c6) := ⟨_, rfl⟩
    rw [← hW7] at HND HPXF HPYF
    have hW7' := hW7
    unfold put4At at hW7'
    rw [show (4 : Nat) + 1 = 5 from rfl, show (4 : Nat) + 2 = 6 from rfl, show (4 : Nat) + 3 = 7 from rfl] at hW7'
    rw [← hW7']
    clear hW7 hW7' HN6P HV6 HPX6P
    obtain ⟨p0, p1, p2, p3⟩ := HND.out.made.cells
    obtain ⟨r0, r1, r2, r3⟩ := HND.out.res.cells
    have f0 := HND.out.res.frozen 0
    have f1 := HND.out.res.frozen 1
    have f2 := HND.out.res.frozen 2
    have f3 := HND.out.res.frozen 3
    go_wp2_with fail
    rw [rounds_succ]
    go_wp2_with fail
    refine bodyPost_ret (results_ty (a := 6) (by kernel_rfl) (B := w.heap.size + 1) (by rfl) (put4_cells HND.out.res _ _ _ _).cells.1 (put4_cells HND.out.res _ _ _ _).cells.2.1 (put4_cells HND.out.res _ _ _ _).cells.2.2.1 (put4_cells HND.out.res _ _ _ _).cells.2.2.2) rfl ?_
    obtain ⟨d1, d2, d3⟩ := node_done HND.out hw hI HPXF.out HPYF.out (.int .i64 op) (.int .i64 0) (.string ⟨#[]⟩) (.slice (some ⟨G, 0, none⟩) 2 2)
    have he : reb f (.mk op 0 [] [x, y]) k st = (.mk op 0 [] [rx, ry], s2) := by rw [reb_node, ← HR4.out, ← HS4.out, ← HR6.out, ← HS6.out]
    rw [he]
    exact ⟨_, rfl, d1, d2, d3⟩
    

theorem reb_101 {σ : Type} {f : Ty → Nat → σ → Ty × σ} {I : World → σ → Prop} {m : Option Nat} {w0 : World} {base B1 B2 B3 : Nat}
    (hleaf : Leafs 81 #[.pointer (some ⟨B1, 0, none⟩), .pointer (some ⟨B2, 0, none⟩), .pointer (some ⟨B3, 0, none⟩)] f I m w0 base)
    (hI : ∀ W W' st, I W st → Below base W W' → I W' st) (hm : ∀ j, m = some j → w0.heap.size ≤ j ∧ j < base) (h0 : w0.heap.size ≤ base) : ∀ t : Ty, Good t → RebC (.func (.func 81) #[] #[.pointer (some ⟨B1, 0, none⟩), .pointer (some ⟨B2, 0, none⟩), .pointer (some ⟨B3, 0, none⟩)]) f I m w0 base t := by
  intro t hg
  induction hg with
  | var op n h1 h2 h3 =>
    intro v k st w hv hb hw hi hk
    rw [reb_leaf]
    exact reb_leaf_101 hleaf hI hm op n [] (.var op n h1 h2 h3) v k st w hv hb hw hi (by omega)
  | con s h1 h2 =>
    intro v k st w hv hb hw hi hk
    rw [reb_leaf]
    exact reb_leaf_101 hleaf hI hm 2 0 s (.con s h1 h2) v k st w hv hb hw hi (by omega)
  | node op x y h hx hy ihx ihy =>
    intro v k st w hv hb hw hi hk
    exact reb_node_101 hI hm h0 op x y ihx ihy v k st w hv hb hw hi hk

end Ty
end Go.Proofs.Ytfjgebdpbmnicaa
