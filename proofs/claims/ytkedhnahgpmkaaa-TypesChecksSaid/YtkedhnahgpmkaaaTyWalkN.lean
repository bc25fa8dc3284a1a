/- What walk does with a type: a closure is told of each node. Conditions: the type lies in memory and is well formed. -/
import Derived.Test.YtkedhnahgpmkaaaTyWalk
import Derived.Deep.RegionHeld3
import Derived.IntWalk
namespace Go.Proofs.Ytkedhnahgpmkaaa
open Go.RowKit

namespace Ty
theorem wlk_cost {σ : Type} {f : Ty → Nat → σ → σ} {c : σ → Nat} (hc : ∀ t k st, c (f t k st) ≤ c st + 1) : ∀ {t : Ty}, Good t → ∀ (k : Nat) (st : σ), c (wlk f t k st) ≤ c st + nodes t := by
  intro t hg
  induction hg with
  | var op n _ _ _ => intro k st; rw [wlk_leaf, nodes, nodess]; exact hc _ _ _
  | con s _ _ => intro k st; rw [wlk_leaf, nodes, nodess]; exact hc _ _ _
  | node op x y h hx hy ihx ihy =>
    intro k st
    rw [wlk_node, nodes_node]
    have h1 := hc (.mk op 0 [] [x, y]) k st
    have h2 := ihx k (f (.mk op 0 [] [x, y]) k st)
    have h3 := ihy (k + undN op) (wlk f x k (f (.mk op 0 [] [x, y]) k st))
    omega
/-- what a closure does with a node -/
def NodesN {σ : Type} (c : σ → Nat) (cid : Nat) (caps : Array Value) (f : Ty → Nat → σ → σ) (I : World → σ → Prop) (m : Option Nat) (w0 : World) (base : Nat) : Prop :=
  ∀ (W : World) (t : Ty) (v : Value) (k : Nat) (st : σ), Good t → V w0 t v → I W st → base ≤ W.heap.size → Below w0.heap.size w0 W → k + nodes t ≤ 1000000 → c st + nodes t ≤ 1000000 →
    Calls Try.prog cid (#[v, .int .i64 k] ++ caps) W (WP (f t k st) I m W)
def WalkN {σ : Type} (c : σ → Nat) (fv : Value) (f : Ty → Nat → σ → σ) (I : World → σ → Prop) (m : Option Nat) (w0 : World) (base : Nat) (t : Ty) : Prop :=
  ∀ (v : Value) (k : Nat) (st : σ) (w : World), V w0 t v → Below w0.heap.size w0 w → base ≤ w.heap.size → I w st → k + nodes t ≤ 1000000 → c st + nodes t ≤ 1000000 → Calls Try.prog 118 #[v, .int .i64 k, fv] w (WP (wlk f t k st) I m w)


set_option maxHeartbeats 8000000 in
theorem walk_leaf_92 {σ : Type} {cf : σ → Nat} {f : Ty → Nat → σ → σ} {I : World → σ → Prop} {m : Option Nat} {w0 : World} {base B1 : Nat}
    (hnode : NodesN cf 92 #[.pointer (some ⟨B1, 0, none⟩)] f I m w0 base)
    (hI : ∀ W W' st, I W st → Below base W W' → I W' st) (hm : ∀ j, m = some j → w0.heap.size ≤ j ∧ j < base)
    (op n : Int) (s : List UInt8) (hg : Good (.mk op n s [])) : WalkN cf (.func (.func 92) #[] #[.pointer (some ⟨B1, 0, none⟩)]) f I m w0 base (.mk op n s []) := by
  intro v k st w hv hb hw hi hk hcs
  have hv0 := hv
  obtain ⟨b, c, ev, _, _⟩ := hv
  have ev' : v = .agg #[.int .i64 op, .int .i64 n, .string ⟨s.toArray⟩, .slice b 0 c] := ev
  clear ev
  subst ev'
  rw [wlk_leaf]
  have hb2 : Below w.heap.size w (w.alloc (Obj.cells #[.int .i64 op, .int .i64 n, .string ⟨s.toArray⟩, .slice b 0 c] 24)) := (Below.refl _ _).alloc (Nat.le_refl _) _
  have hcall := hnode _ _ _ k st hg hv0 (hI _ _ _ hi (hb2.mono hw)) (Nat.le_trans hw hb2.size) (hb.trans (hb2.mono hb.size)) hk hcs
  have hbox : B4 (w.alloc (Obj.cells #[.int .i64 op, .int .i64 n, .string ⟨s.toArray⟩, .slice b 0 c] 24)) w.heap.size (.int .i64 op) (.int .i64 n) (.string ⟨s.toArray⟩) (.slice b 0 c) := two_B4
  have HB2 := Lib.hid hb2
  have HC := Lib.hid hcall
  have HBOX := Lib.hid hbox
  clear hb2 hcall hv0 hg hbox
  go_enter Try.func118, Try.ntmps118
  go_wp2_with fail
  refine HC.out.mono ?_
  rintro e w2 ⟨rfl, hgr, hi2⟩
  have HG := Lib.hid (grown_trans' (grown_of_below (m := m) HB2.out) hgr)
  have HI2 := Lib.hid hi2
  have HBX := Lib.hid (HBOX.out.nextm hgr (fun j hj => (hm j hj).2) hw)
  clear hgr hi2 HC HB2 HBOX
  obtain ⟨q0, q1, q2, q3⟩ := HBX.out.cells
  go_wp2_with fail
  refine wp_loop_rounds 1 ?_
  rw [rounds_succ]
  go_wp2_with fail
  refine bodyPost_ret (results_none (by kernel_rfl)) rfl ?_
  exact ⟨rfl, HG.out, HI2.out⟩

set_option maxHeartbeats 16000000 in
theorem walk_node_92 {σ : Type} {cf : σ → Nat} {f : Ty → Nat → σ → σ} {I : World → σ → Prop} {m : Option Nat} {w0 : World} {base B1 : Nat}
    (hnode : NodesN cf 92 #[.pointer (some ⟨B1, 0, none⟩)] f I m w0 base)
    (hI : ∀ W W' st, I W st → Below base W W' → I W' st) (hm : ∀ j, m = some j → w0.heap.size ≤ j ∧ j < base) (hcf : ∀ t k st, cf (f t k st) ≤ cf st + 1)
    (op : Int) (x y : Ty) (hg : Good (.mk op 0 [] [x, y])) (hgx : Good x)
    (hx : WalkN cf (.func (.func 92) #[] #[.pointer (some ⟨B1, 0, none⟩)]) f I m w0 base x) (hy : WalkN cf (.func (.func 92) #[] #[.pointer (some ⟨B1, 0, none⟩)]) f I m w0 base y) : WalkN cf (.func (.func 92) #[] #[.pointer (some ⟨B1, 0, none⟩)]) f I m w0 base (.mk op 0 [] [x, y]) := by
  intro v k st w hv hb hw hi hk hcs
  have hv0 := hv
  obtain ⟨b, c, ev, _, hl, h4⟩ := hv
  rcases h4 with h4 | ⟨g, o, rfl, hrow⟩
  · cases h4
  have ev' : v = .agg #[.int .i64 op, .int .i64 0, .string ⟨#[]⟩, .slice (some ⟨g, o, none⟩) 2 c] := ev
  clear ev hl
  subst ev'
  obtain ⟨hrx, hry, _⟩ := hrow
  rw [wlk_node]
  have hb2 : Below w.heap.size w (w.alloc (Obj.cells #[.int .i64 op, .int .i64 0, .string ⟨#[]⟩, .slice (some ⟨g, o, none⟩) 2 c] 24)) := (Below.refl _ _).alloc (Nat.le_refl _) _
  have hcall := hnode _ _ _ k st hg hv0 (hI _ _ _ hi (hb2.mono hw)) (Nat.le_trans hw hb2.size) (hb.trans (hb2.mono hb.size)) hk hcs
  have hbox : B4 (w.alloc (Obj.cells #[.int .i64 op, .int .i64 0, .string ⟨#[]⟩, .slice (some ⟨g, o, none⟩) 2 c] 24)) w.heap.size (.int .i64 op) (.int .i64 0) (.string ⟨#[]⟩) (.slice (some ⟨g, o, none⟩) 2 c) := two_B4
  have HB2 := Lib.hid hb2
  have HC := Lib.hid hcall
  have HBOX := Lib.hid hbox
  have HX := Lib.hid hx
  have HY := Lib.hid hy
  rw [nodes_node] at hk hcs
  have hcx := hcf (.mk op 0 [] [x, y]) k st
  have hk1 : k + nodes x ≤ 1000000 := by omega
  have hk2 : k + undN op + nodes y ≤ 1000000 := by have := undN_le op; have := nodes_pos x; omega
  have hz1 : IntKind.i64.wrap (k : Int) = k := IntWalk.i64_in _ (by omega)
  obtain ⟨s1, hs1⟩ : ∃ s, s = f (.mk op 0 [] [x, y]) k st := ⟨_, rfl⟩
  rw [← hs1] at HC hcx ⊢
  obtain ⟨s2, hs2⟩ : ∃ s, s = wlk f x k s1 := ⟨_, rfl⟩
  rw [← hs2]
  obtain ⟨s3, hs3⟩ : ∃ s, s = wlk f y (k + undN op) s2 := ⟨_, rfl⟩
  rw [← hs3]
  have hcy := wlk_cost hcf hgx k s1
  rw [← hs2] at hcy
  have hk4 : cf s1 + nodes x ≤ 1000000 := by omega
  have hk5 : cf s2 + nodes y ≤ 1000000 := by omega
  have HS2 := Lib.hid hs2
  have HS3 := Lib.hid hs3
  clear hb2 hcall hv0 hg hbox hx hy hk hs1 hs2 hs3 hcs hcx hcy
  go_enter Try.func118, Try.ntmps118
  go_wp2_with fail
  refine HC.out.mono ?_
  rintro e w2 ⟨rfl, hgr, hi2⟩
  have HN := Lib.hid (show WS I m w0 w w.heap.size _ _ _ _ s1 w2 from ⟨grown_trans' (grown_of_below (m := m) HB2.out) hgr, grown_below' (hb.trans (HB2.out.mono hb.size)) hgr (fun j hj => (hm j hj).1), hi2, HBOX.out.nextm hgr (fun j hj => (hm j hj).2) hw⟩)
  clear hgr hi2 HC HB2 HBOX hi hb
  obtain ⟨q0, q1, q2, q3⟩ := HN.out.box.cells
  obtain ⟨xb, xc, x0, x1, x2, x3, hvx⟩ := at_v hrx
  obtain ⟨yb, yc, y0, y1, y2, y3, hvy⟩ := at_v hry
  have HVX := Lib.hid hvx
  have HVY := Lib.hid hvy
  have YC := Lib.hid (And.intro y0 (And.intro y1 (And.intro y2 y3)))
  clear hvx hvy hrx hry y0 y1 y2 y3
  have x0 := keeps HN.out.old _ _ x0
  have x1 := keeps HN.out.old _ _ x1
  have x2 := keeps HN.out.old _ _ x2
  have x3 := keeps HN.out.old _ _ x3
  go_wp2_with fail
  refine wp_loop_rounds 3 ?_
  rw [rounds_succ]
  go_wp2_with fail
  obtain ⟨W4, hW4⟩ : ∃ W4, W4 = w2.alloc (Obj.cells #[.int .i64 x.op, .int .i64 x.n, .string x.name, .slice xb x.args.length xc] 24) := ⟨_, rfl⟩
  have ht9 : B4 W4 w2.heap.size (.int .i64 x.op) (.int .i64 x.n) (.string x.name) (.slice xb x.args.length xc) := by rw [hW4]; exact heap_alloc_new _ _
  have hb9 : Below w2.heap.size w2 W4 := by rw [hW4]; exact (Below.refl _ _).alloc (Nat.le_refl _) _
  have hbd : base ≤ w2.heap.size := Nat.le_trans hw HN.out.grown.size
  rw [← hW4]
  clear hW4 x0 x1 x2 x3 q0 q1 q2 q3
  have HN4 := Lib.hid ((HN.out.next hm hw hw hI hb9).next hm hw hw hI (drew_below _))
  obtain ⟨D4, hD4⟩ : ∃ D4, D4 = w2.heap.size := ⟨_, rfl⟩
  rw [← hD4] at ht9 hbd
  have HT4 := Lib.hid (show B4 W4.drew D4 _ _ _ _ from ht9)
  have HBD := Lib.hid hbd
  rw [← hD4]
  clear hD4 hb9 ht9 hbd
  obtain ⟨q0, q1, q2, q3⟩ := HN4.out.box.cells
  obtain ⟨t0, t1, t2, t3⟩ := HT4.out.cells
  have HC4 := Lib.hid (fun (W : World) (hN : WS I m w0 w w.heap.size (.int .i64 op) (.int .i64 0) (.string ⟨#[]⟩) (.slice (some ⟨g, o, none⟩) 2 c) s1 W) => HX.out _ k s1 W HVX.out hN.old (Nat.le_trans hw hN.grown.size) hN.inv hk1 hk4)
  rw [← HS2.out] at HC4
  have hz0 : IntKind.i64.wrap ((k : Int) + 0) = k := by rw [Int.add_zero]; exact IntWalk.i64_in _ (by omega)
  go_region_held3 (fun W => W.cell? ⟨w.heap.size, 0, none⟩ = some (.int .i64 op) ∧ W.cell? ⟨w.heap.size, 1, none⟩ = some (.int .i64 0) ∧ W.cell? ⟨w.heap.size, 2, none⟩ = some (.string ⟨#[]⟩) ∧ W.cell? ⟨w.heap.size, 3, none⟩ = some (.slice (some ⟨g, o, none⟩) 2 c) ∧ W.cell? ⟨D4, 0, none⟩ = some (.int .i64 x.op) ∧ W.cell? ⟨D4, 1, none⟩ = some (.int .i64 x.n) ∧ W.cell? ⟨D4, 2, none⟩ = some (.string x.name) ∧ W.cell? ⟨D4, 3, none⟩ = some (.slice xb x.args.length xc))
    (first | (with_reducible exact ⟨q0, q1, q2, q3, t0, t1, t2, t3⟩) | (with_reducible exact ⟨u0, u1, u2, u3, u5, u6, u7, u8⟩) | (with_reducible exact ⟨z0, z1, z2, z3, z5, z6, z7, z8⟩))
    (first
    | (go_at_call 123; refine (binds_first _ _ _ _ _ _ _).mono ?_; rintro e w4a ⟨rfl, hb5⟩; have HN4B := Lib.hid (HN4.out.next hm hw hw hI hb5); have HT4B := Lib.hid (HT4.out.next hb5); clear hb5; obtain ⟨u0, u1, u2, u3⟩ := HN4B.out.box.cells; obtain ⟨u5, u6, u7, u8⟩ := HT4B.out.cells)
    | (go_at_call 118; refine (HC4.out _ HN4B.out).mono ?_; rintro e w4b ⟨rfl, hg6, hn6⟩; have HN4P := Lib.hid (HN4B.out.nextm hm hw hg6 hn6); have HT4P := Lib.hid (HT4B.out.nextm hg6 (fun j hj => (hm j hj).2) HBD.out); clear hg6 hn6; obtain ⟨z0, z1, z2, z3⟩ := HN4P.out.box.cells; obtain ⟨z5, z6, z7, z8⟩ := HT4P.out.cells))
  rename_i hS
  clear hS u0 u1 u2 u3 u5 u6 u7 u8 z0 z1 z2 z3 z5 z6 z7 z8 q0 q1 q2 q3 t0 t1 t2 t3 HN4 HN4B HT4 HT4B HT4P HC4 HBD
  clear hz0
  obtain ⟨y0, y1, y2, y3⟩ := YC.out
  have x0 := keeps HN4P.out.old _ _ y0
  have x1 := keeps HN4P.out.old _ _ y1
  have x2 := keeps HN4P.out.old _ _ y2
  have x3 := keeps HN4P.out.old _ _ y3
  clear y0 y1 y2 y3
  obtain ⟨q0, q1, q2, q3⟩ := HN4P.out.box.cells
  go_wp2_with fail
  rw [rounds_succ]
  go_wp2_with fail
  obtain ⟨W6, hW6⟩ : ∃ W6, W6 = w4b.alloc (Obj.cells #[.int .i64 y.op, .int .i64 y.n, .string y.name, .slice yb y.args.length yc] 24) := ⟨_, rfl⟩
  have ht9 : B4 W6 w4b.heap.size (.int .i64 y.op) (.int .i64 y.n) (.string y.name) (.slice yb y.args.length yc) := by rw [hW6]; exact heap_alloc_new _ _
  have hb9 : Below w4b.heap.size w4b W6 := by rw [hW6]; exact (Below.refl _ _).alloc (Nat.le_refl _) _
  have hbd : base ≤ w4b.heap.size := Nat.le_trans hw HN4P.out.grown.size
  rw [← hW6]
  clear hW6 x0 x1 x2 x3 q0 q1 q2 q3
  have HN6 := Lib.hid ((HN4P.out.next hm hw hw hI hb9).next hm hw hw hI (drew_below _))
  obtain ⟨D6, hD6⟩ : ∃ D6, D6 = w4b.heap.size := ⟨_, rfl⟩
  rw [← hD6] at ht9 hbd
  have HT6 := Lib.hid (show B4 W6.drew D6 _ _ _ _ from ht9)
  have HBD := Lib.hid hbd
  rw [← hD6]
  clear hD6 hb9 ht9 hbd
  obtain ⟨q0, q1, q2, q3⟩ := HN6.out.box.cells
  obtain ⟨t0, t1, t2, t3⟩ := HT6.out.cells
  have HC6 := Lib.hid (fun (W : World) (hN : WS I m w0 w w.heap.size (.int .i64 op) (.int .i64 0) (.string ⟨#[]⟩) (.slice (some ⟨g, o, none⟩) 2 c) s2 W) => HY.out _ (k + undN op) s2 W HVY.out hN.old (Nat.le_trans hw hN.grown.size) hN.inv hk2 hk5)
  rw [← HS3.out] at HC6
  have hz0 : IntKind.i64.wrap ((k : Int) + (undN op : Nat)) = ((k + undN op : Nat) : Int) := by rw [IntWalk.i64_in _ (by omega)]; omega
  go_region_held3 (fun W => W.cell? ⟨w.heap.size, 0, none⟩ = some (.int .i64 op) ∧ W.cell? ⟨w.heap.size, 1, none⟩ = some (.int .i64 0) ∧ W.cell? ⟨w.heap.size, 2, none⟩ = some (.string ⟨#[]⟩) ∧ W.cell? ⟨w.heap.size, 3, none⟩ = some (.slice (some ⟨g, o, none⟩) 2 c) ∧ W.cell? ⟨D6, 0, none⟩ = some (.int .i64 y.op) ∧ W.cell? ⟨D6, 1, none⟩ = some (.int .i64 y.n) ∧ W.cell? ⟨D6, 2, none⟩ = some (.string y.name) ∧ W.cell? ⟨D6, 3, none⟩ = some (.slice yb y.args.length yc))
    (first | (with_reducible exact ⟨q0, q1, q2, q3, t0, t1, t2, t3⟩) | (with_reducible exact ⟨u0, u1, u2, u3, u5, u6, u7, u8⟩) | (with_reducible exact ⟨z0, z1, z2, z3, z5, z6, z7, z8⟩))
    (first
    | (go_at_call 123; refine (binds_second _ _ _ _ _ _ _).mono ?_; rintro e w6a ⟨rfl, hb5⟩; have HN6B := Lib.hid (HN6.out.next hm hw hw hI hb5); have HT6B := Lib.hid (HT6.out.next hb5); clear hb5; obtain ⟨u0, u1, u2, u3⟩ := HN6B.out.box.cells; obtain ⟨u5, u6, u7, u8⟩ := HT6B.out.cells)
    | (go_at_call 118; refine (HC6.out _ HN6B.out).mono ?_; rintro e w6b ⟨rfl, hg6, hn6⟩; have HN6P := Lib.hid (HN6B.out.nextm hm hw hg6 hn6); have HT6P := Lib.hid (HT6B.out.nextm hg6 (fun j hj => (hm j hj).2) HBD.out); clear hg6 hn6; obtain ⟨z0, z1, z2, z3⟩ := HN6P.out.box.cells; obtain ⟨z5, z6, z7, z8⟩ := HT6P.out.cells))
  rename_i hS
  clear hS u0 u1 u2 u3 u5 u6 u7 u8 z0 z1 z2 z3 z5 z6 z7 z8 q0 q1 q2 q3 t0 t1 t2 t3 HN6 HN6B HT6 HT6B HT6P HC6 HBD
  go_wp2_with fail
  rw [rounds_succ]
  go_wp2_with fail
  refine bodyPost_ret (results_none (by kernel_rfl)) rfl ?_
  exact ⟨rfl, HN6P.out.grown, HN6P.out.inv⟩


theorem walk_92 {σ : Type} {cf : σ → Nat} {f : Ty → Nat → σ → σ} {I : World → σ → Prop} {m : Option Nat} {w0 : World} {base B1 : Nat}
    (hnode : NodesN cf 92 #[.pointer (some ⟨B1, 0, none⟩)] f I m w0 base)
    (hI : ∀ W W' st, I W st → Below base W W' → I W' st) (hm : ∀ j, m = some j → w0.heap.size ≤ j ∧ j < base) (hcf : ∀ t k st, cf (f t k st) ≤ cf st + 1) : ∀ t : Ty, Good t → WalkN cf (.func (.func 92) #[] #[.pointer (some ⟨B1, 0, none⟩)]) f I m w0 base t := by
  intro t hg
  induction hg with
  | var op n h1 h2 h3 => exact walk_leaf_92 hnode hI hm op n [] (.var op n h1 h2 h3)
  | con s h1 h2 => exact walk_leaf_92 hnode hI hm 2 0 s (.con s h1 h2)
  | node op x y h hx hy ihx ihy => exact walk_node_92 hnode hI hm hcf op x y (.node op x y h hx hy) hx ihx ihy

set_option maxHeartbeats 8000000 in
theorem walk_leaf_95 {σ : Type} {cf : σ → Nat} {f : Ty → Nat → σ → σ} {I : World → σ → Prop} {m : Option Nat} {w0 : World} {base B1 B2 : Nat}
    (hnode : NodesN cf 95 #[.pointer (some ⟨B1, 0, none⟩), .pointer (some ⟨B2, 0, none⟩)] f I m w0 base)
    (hI : ∀ W W' st, I W st → Below base W W' → I W' st) (hm : ∀ j, m = some j → w0.heap.size ≤ j ∧ j < base)
    (op n : Int) (s : List UInt8) (hg : Good (.mk op n s [])) : WalkN cf (.func (.func 95) #[] #[.pointer (some ⟨B1, 0, none⟩), .pointer (some ⟨B2, 0, none⟩)]) f I m w0 base (.mk op n s []) := by
  intro v k st w hv hb hw hi hk hcs
  have hv0 := hv
  obtain ⟨b, c, ev, _, _⟩ := hv
  have ev' : v = .agg #[.int .i64 op, .int .i64 n, .string ⟨s.toArray⟩, .slice b 0 c] := ev
  clear ev
  subst ev'
  rw [wlk_leaf]
  have hb2 : Below w.heap.size w (w.alloc (Obj.cells #[.int .i64 op, .int .i64 n, .string ⟨s.toArray⟩, .slice b 0 c] 24)) := (Below.refl _ _).alloc (Nat.le_refl _) _
  have hcall := hnode _ _ _ k st hg hv0 (hI _ _ _ hi (hb2.mono hw)) (Nat.le_trans hw hb2.size) (hb.trans (hb2.mono hb.size)) hk hcs
  have hbox : B4 (w.alloc (Obj.cells #[.int .i64 op, .int .i64 n, .string ⟨s.toArray⟩, .slice b 0 c] 24)) w.heap.size (.int .i64 op) (.int .i64 n) (.string ⟨s.toArray⟩) (.slice b 0 c) := two_B4
  have HB2 := Lib.hid hb2
  have HC := Lib.hid hcall
  have HBOX := Lib.hid hbox
  clear hb2 hcall hv0 hg hbox
  go_enter Try.func118, Try.ntmps118
  go_wp2_with fail
  refine HC.out.mono ?_
  rintro e w2 ⟨rfl, hgr, hi2⟩
  have HG := Lib.hid (grown_trans' (grown_of_below (m := m) HB2.out) hgr)
  have HI2 := Lib.hid hi2
  have HBX := Lib.hid (HBOX.out.nextm hgr (fun j hj => (hm j hj).2) hw)
  clear hgr hi2 HC HB2 HBOX
  obtain ⟨q0, q1, q2, q3⟩ := HBX.out.cells
  go_wp2_with fail
  refine wp_loop_rounds 1 ?_
  rw [rounds_succ]
  go_wp2_with fail
  refine bodyPost_ret (results_none (by kernel_rfl)) rfl ?_
  exact ⟨rfl, HG.out, HI2.out⟩

set_option maxHeartbeats 16000000 in
theorem walk_node_95 {σ : Type} {cf : σ → Nat} {f : Ty → Nat → σ → σ} {I : World → σ → Prop} {m : Option Nat} {w0 : World} {base B1 B2 : Nat}
    (hnode : NodesN cf 95 #[.pointer (some ⟨B1, 0, none⟩), .pointer (some ⟨B2, 0, none⟩)] f I m w0 base)
    (hI : ∀ W W' st, I W st → Below base W W' → I W' st) (hm : ∀ j, m = some j → w0.heap.size ≤ j ∧ j < base) (hcf : ∀ t k st, cf (f t k st) ≤ cf st + 1)
    (op : Int) (x y : Ty) (hg : Good (.mk op 0 [] [x, y])) (hgx : Good x)
    (hx : WalkN cf (.func (.func 95) #[] #[.pointer (some ⟨B1, 0, none⟩), .pointer (some ⟨B2, 0, none⟩)]) f I m w0 base x) (hy : WalkN cf (.func (.func 95) #[] #[.pointer (some ⟨B1, 0, none⟩), .pointer (some ⟨B2, 0, none⟩)]) f I m w0 base y) : WalkN cf (.func (.func 95) #[] #[.pointer (some ⟨B1, 0, none⟩), .pointer (some ⟨B2, 0, none⟩)]) f I m w0 base (.mk op 0 [] [x, y]) := by
  intro v k st w hv hb hw hi hk hcs
  have hv0 := hv
  obtain ⟨b, c, ev, _, hl, h4⟩ := hv
  rcases h4 with h4 | ⟨g, o, rfl, hrow⟩
  · cases h4
  have ev' : v = .agg #[.int .i64 op, .int .i64 0, .string ⟨#[]⟩, .slice (some ⟨g, o, none⟩) 2 c] := ev
  clear ev hl
  subst ev'
  obtain ⟨hrx, hry, _⟩ := hrow
  rw [wlk_node]
  have hb2 : Below w.heap.size w (w.alloc (Obj.cells #[.int .i64 op, .int .i64 0, .string ⟨#[]⟩, .slice (some ⟨g, o, none⟩) 2 c] 24)) := (Below.refl _ _).alloc (Nat.le_refl _) _
  have hcall := hnode _ _ _ k st hg hv0 (hI _ _ _ hi (hb2.mono hw)) (Nat.le_trans hw hb2.size) (hb.trans (hb2.mono hb.size)) hk hcs
  have hbox : B4 (w.alloc (Obj.cells #[.int .i64 op, .int .i64 0, .string ⟨#[]⟩, .slice (some ⟨g, o, none⟩) 2 c] 24)) w.heap.size (.int .i64 op) (.int .i64 0) (.string ⟨#[]⟩) (.slice (some ⟨g, o, none⟩) 2 c) := two_B4
  have HB2 := Lib.hid hb2
  have HC := Lib.hid hcall
  have HBOX := Lib.hid hbox
  have HX := Lib.hid hx
  have HY := Lib.hid hy
  rw [nodes_node] at hk hcs
  have hcx := hcf (.mk op 0 [] [x, y]) k st
  have hk1 : k + nodes x ≤ 1000000 := by omega
  have hk2 : k + undN op + nodes y ≤ 1000000 := by have := undN_le op; have := nodes_pos x; omega
  have hz1 : IntKind.i64.wrap (k : Int) = k := IntWalk.i64_in _ (by omega)
  obtain ⟨s1, hs1⟩ : ∃ s, s = f (.mk op 0 [] [x, y]) k st := ⟨_, rfl⟩
  rw [← hs1] at HC hcx ⊢
  obtain ⟨s2, hs2⟩ : ∃ s, s = wlk f x k s1 := ⟨_, rfl⟩
  rw [← hs2]
  obtain ⟨s3, hs3⟩ : ∃ s, s = wlk f y (k + undN op) s2 := ⟨_, rfl⟩
  rw [← hs3]
  have hcy := wlk_cost hcf hgx k s1
  rw [← hs2] at hcy
  have hk4 : cf s1 + nodes x ≤ 1000000 := by omega
  have hk5 : cf s2 + nodes y ≤ 1000000 := by omega
  have HS2 := Lib.hid hs2
  have HS3 := Lib.hid hs3
  clear hb2 hcall hv0 hg hbox hx hy hk hs1 hs2 hs3 hcs hcx hcy
  go_enter Try.func118, Try.ntmps118
  go_wp2_with fail
  refine HC.out.mono ?_
  rintro e w2 ⟨rfl, hgr, hi2⟩
  have HN := Lib.hid (show WS I m w0 w w.heap.size _ _ _ _ s1 w2 from ⟨grown_trans' (grown_of_below (m := m) HB2.out) hgr, grown_below' (hb.trans (HB2.out.mono hb.size)) hgr (fun j hj => (hm j hj).1), hi2, HBOX.out.nextm hgr (fun j hj => (hm j hj).2) hw⟩)
  clear hgr hi2 HC HB2 HBOX hi hb
  obtain ⟨q0, q1, q2, q3⟩ := HN.out.box.cells
  obtain ⟨xb, xc, x0, x1, x2, x3, hvx⟩ := at_v hrx
  obtain ⟨yb, yc, y0, y1, y2, y3, hvy⟩ := at_v hry
  have HVX := Lib.hid hvx
  have HVY := Lib.hid hvy
  have YC := Lib.hid (And.intro y0 (And.intro y1 (And.intro y2 y3)))
  clear hvx hvy hrx hry y0 y1 y2 y3
  have x0 := keeps HN.out.old _ _ x0
  have x1 := keeps HN.out.old _ _ x1
  have x2 := keeps HN.out.old _ _ x2
  have x3 := keeps HN.out.old _ _ x3
  go_wp2_with fail
  refine wp_loop_rounds 3 ?_
  rw [rounds_succ]
  go_wp2_with fail
  obtain ⟨W4, hW4⟩ : ∃ W4, W4 = w2.alloc (Obj.cells #[.int .i64 x.op, .int .i64 x.n, .string x.name, .slice xb x.args.length xc] 24) := ⟨_, rfl⟩
  have ht9 : B4 W4 w2.heap.size (.int .i64 x.op) (.int .i64 x.n) (.string x.name) (.slice xb x.args.length xc) := by rw [hW4]; exact heap_alloc_new _ _
  have hb9 : Below w2.heap.size w2 W4 := by rw [hW4]; exact (Below.refl _ _).alloc (Nat.le_refl _) _
  have hbd : base ≤ w2.heap.size := Nat.le_trans hw HN.out.grown.size
  rw [← hW4]
  clear hW4 x0 x1 x2 x3 q0 q1 q2 q3
  have HN4 := Lib.hid ((HN.out.next hm hw hw hI hb9).next hm hw hw hI (drew_below _))
  obtain ⟨D4, hD4⟩ : ∃ D4, D4 = w2.heap.size := ⟨_, rfl⟩
  rw [← hD4] at ht9 hbd
  have HT4 := Lib.hid (show B4 W4.drew D4 _ _ _ _ from ht9)
  have HBD := Lib.hid hbd
  rw [← hD4]
  clear hD4 hb9 ht9 hbd
  obtain ⟨q0, q1, q2, q3⟩ := HN4.out.box.cells
  obtain ⟨t0, t1, t2, t3⟩ := HT4.out.cells
  have HC4 := Lib.hid (fun (W : World) (hN : WS I m w0 w w.heap.size (.int .i64 op) (.int .i64 0) (.string ⟨#[]⟩) (.slice (some ⟨g, o, none⟩) 2 c) s1 W) => HX.out _ k s1 W HVX.out hN.old (Nat.le_trans hw hN.grown.size) hN.inv hk1 hk4)
  rw [← HS2.out] at HC4
  have hz0 : IntKind.i64.wrap ((k : Int) + 0) = k := by rw [Int.add_zero]; exact IntWalk.i64_in _ (by omega)
  go_region_held3 (fun W => W.cell? ⟨w.heap.size, 0, none⟩ = some (.int .i64 op) ∧ W.cell? ⟨w.heap.size, 1, none⟩ = some (.int .i64 0) ∧ W.cell? ⟨w.heap.size, 2, none⟩ = some (.string ⟨#[]⟩) ∧ W.cell? ⟨w.heap.size, 3, none⟩ = some (.slice (some ⟨g, o, none⟩) 2 c) ∧ W.cell? ⟨D4, 0, none⟩ = some (.int .i64 x.op) ∧ W.cell? ⟨D4, 1, none⟩ = some (.int .i64 x.n) ∧ W.cell? ⟨D4, 2, none⟩ = some (.string x.name) ∧ W.cell? ⟨D4, 3, none⟩ = some (.slice xb x.args.length xc))
    (first | (with_reducible exact ⟨q0, q1, q2, q3, t0, t1, t2, t3⟩) | (with_reducible exact ⟨u0, u1, u2, u3, u5, u6, u7, u8⟩) | (with_reducible exact ⟨z0, z1, z2, z3, z5, z6, z7, z8⟩))
    (first
    | (go_at_call 123; refine (binds_first _ _ _ _ _ _ _).mono ?_; rintro e w4a ⟨rfl, hb5⟩; have HN4B := Lib.hid (HN4.out.next hm hw hw hI hb5); have HT4B := Lib.hid (HT4.out.next hb5); clear hb5; obtain ⟨u0, u1, u2, u3⟩ := HN4B.out.box.cells; obtain ⟨u5, u6, u7, u8⟩ := HT4B.out.cells)
    | (go_at_call 118; refine (HC4.out _ HN4B.out).mono ?_; rintro e w4b ⟨rfl, hg6, hn6⟩; have HN4P := Lib.hid (HN4B.out.nextm hm hw hg6 hn6); have HT4P := Lib.hid (HT4B.out.nextm hg6 (fun j hj => (hm j hj).2) HBD.out); clear hg6 hn6; obtain ⟨z0, z1, z2, z3⟩ := HN4P.out.box.cells; obtain ⟨z5, z6, z7, z8⟩ := HT4P.out.cells))
  rename_i hS
  clear hS u0 u1 u2 u3 u5 u6 u7 u8 z0 z1 z2 z3 z5 z6 z7 z8 q0 q1 q2 q3 t0 t1 t2 t3 HN4 HN4B HT4 HT4B HT4P HC4 HBD
  clear hz0
  obtain ⟨y0, y1, y2, y3⟩ := YC.out
  have x0 := keeps HN4P.out.old _ _ y0
  have x1 := keeps HN4P.out.old _ _ y1
  have x2 := keeps HN4P.out.old _ _ y2
  have x3 := keeps HN4P.out.old _ _ y3
  clear y0 y1 y2 y3
  obtain ⟨q0, q1, q2, q3⟩ := HN4P.out.box.cells
  go_wp2_with fail
  rw [rounds_succ]
  go_wp2_with fail
  obtain ⟨W6, hW6⟩ : ∃ W6, W6 = w4b.alloc (Obj.cells #[.int .i64 y.op, .int .i64 y.n, .string y.name, .slice yb y.args.length yc] 24) := ⟨_, rfl⟩
  have ht9 : B4 W6 w4b.heap.size (.int .i64 y.op) (.int .i64 y.n) (.string y.name) (.slice yb y.args.length yc) := by rw [hW6]; exact heap_alloc_new _ _
  have hb9 : Below w4b.heap.size w4b W6 := by rw [hW6]; exact (Below.refl _ _).alloc (Nat.le_refl _) _
  have hbd : base ≤ w4b.heap.size := Nat.le_trans hw HN4P.out.grown.size
  rw [← hW6]
  clear hW6 x0 x1 x2 x3 q0 q1 q2 q3
  have HN6 := Lib.hid ((HN4P.out.next hm hw hw hI hb9).next hm hw hw hI (drew_below _))
  obtain ⟨D6, hD6⟩ : ∃ D6, D6 = w4b.heap.size := ⟨_, rfl⟩
  rw [← hD6] at ht9 hbd
  have HT6 := Lib.hid (show B4 W6.drew D6 _ _ _ _ from ht9)
  have HBD := Lib.hid hbd
  rw [← hD6]
  clear hD6 hb9 ht9 hbd
  obtain ⟨q0, q1, q2, q3⟩ := HN6.out.box.cells
  obtain ⟨t0, t1, t2, t3⟩ := HT6.out.cells
  have HC6 := Lib.hid (fun (W : World) (hN : WS I m w0 w w.heap.size (.int .i64 op) (.int .i64 0) (.string ⟨#[]⟩) (.slice (some ⟨g, o, none⟩) 2 c) s2 W) => HY.out _ (k + undN op) s2 W HVY.out hN.old (Nat.le_trans hw hN.grown.size) hN.inv hk2 hk5)
  rw [← HS3.out] at HC6
  have hz0 : IntKind.i64.wrap ((k : Int) + (undN op : Nat)) = ((k + undN op : Nat) : Int) := by rw [IntWalk.i64_in _ (by omega)]; omega
  go_region_held3 (fun W => W.cell? ⟨w.heap.size, 0, none⟩ = some (.int .i64 op) ∧ W.cell? ⟨w.heap.size, 1, none⟩ = some (.int .i64 0) ∧ W.cell? ⟨w.heap.size, 2, none⟩ = some (.string ⟨#[]⟩) ∧ W.cell? ⟨w.heap.size, 3, none⟩ = some (.slice (some ⟨g, o, none⟩) 2 c) ∧ W.cell? ⟨D6, 0, none⟩ = some (.int .i64 y.op) ∧ W.cell? ⟨D6, 1, none⟩ = some (.int .i64 y.n) ∧ W.cell? ⟨D6, 2, none⟩ = some (.string y.name) ∧ W.cell? ⟨D6, 3, none⟩ = some (.slice yb y.args.length yc))
    (first | (with_reducible exact ⟨q0, q1, q2, q3, t0, t1, t2, t3⟩) | (with_reducible exact ⟨u0, u1, u2, u3, u5, u6, u7, u8⟩) | (with_reducible exact ⟨z0, z1, z2, z3, z5, z6, z7, z8⟩))
    (first
    | (go_at_call 123; refine (binds_second _ _ _ _ _ _ _).mono ?_; rintro e w6a ⟨rfl, hb5⟩; have HN6B := Lib.hid (HN6.out.next hm hw hw hI hb5); have HT6B := Lib.hid (HT6.out.next hb5); clear hb5; obtain ⟨u0, u1, u2, u3⟩ := HN6B.out.box.cells; obtain ⟨u5, u6, u7, u8⟩ := HT6B.out.cells)
    | (go_at_call 118; refine (HC6.out _ HN6B.out).mono ?_; rintro e w6b ⟨rfl, hg6, hn6⟩; have HN6P := Lib.hid (HN6B.out.nextm hm hw hg6 hn6); have HT6P := Lib.hid (HT6B.out.nextm hg6 (fun j hj => (hm j hj).2) HBD.out); clear hg6 hn6; obtain ⟨z0, z1, z2, z3⟩ := HN6P.out.box.cells; obtain ⟨z5, z6, z7, z8⟩ := HT6P.out.cells))
  rename_i hS
  clear hS u0 u1 u2 u3 u5 u6 u7 u8 z0 z1 z2 z3 z5 z6 z7 z8 q0 q1 q2 q3 t0 t1 t2 t3 HN6 HN6B HT6 HT6B HT6P HC6 HBD
  go_wp2_with fail
  rw [rounds_succ]
  go_wp2_with fail
  refine bodyPost_ret (results_none (by kernel_rfl)) rfl ?_
  exact ⟨rfl, HN6P.out.grown, HN6P.out.inv⟩


theorem walk_95 {σ : Type} {cf : σ → Nat} {f : Ty → Nat → σ → σ} {I : World → σ → Prop} {m : Option Nat} {w0 : World} {base B1 B2 : Nat}
    (hnode : NodesN cf 95 #[.pointer (some ⟨B1, 0, none⟩), .pointer (some ⟨B2, 0, none⟩)] f I m w0 base)
    (hI : ∀ W W' st, I W st → Below base W W' → I W' st) (hm : ∀ j, m = some j → w0.heap.size ≤ j ∧ j < base) (hcf : ∀ t k st, cf (f t k st) ≤ cf st + 1) : ∀ t : Ty, Good t → WalkN cf (.func (.func 95) #[] #[.pointer (some ⟨B1, 0, none⟩), .pointer (some ⟨B2, 0, none⟩)]) f I m w0 base t := by
  intro t hg
  induction hg with
  | var op n h1 h2 h3 => exact walk_leaf_95 hnode hI hm op n [] (.var op n h1 h2 h3)
  | con s h1 h2 => exact walk_leaf_95 hnode hI hm 2 0 s (.con s h1 h2)
  | node op x y h hx hy ihx ihy => exact walk_node_95 hnode hI hm hcf op x y (.node op x y h hx hy) hx ihx ihy

theorem visN_of {σ : Type} {cf : σ → Nat} {f : Ty → Nat → σ → σ} {I : World → σ → Prop} {m : Option Nat} {w0 : World} {base : Nat} {fv : Value} {t : Ty} (hR : WalkN cf fv f I m w0 base t)
    (hI : ∀ W W' st, I W st → Below base W W' → I W' st)
    (v : Value) (st : σ) (w : World) (hv : V w0 t v) (hb : Below w0.heap.size w0 w) (hw : base ≤ w.heap.size) (hi : I w st) (hk : nodes t ≤ 1000000) (hcs : cf st + nodes t ≤ 1000000) : Calls Try.prog 91 #[v, fv] w (WP (wlk f t 0 st) I m w) :=
  vis_any w hv fun W hB => hR v 0 st W hv (hb.trans (hB.mono hb.size)) (Nat.le_trans hw hB.size) (hI _ _ _ hi (hB.mono hw)) (by omega) hcs

end Ty
end Go.Proofs.Ytkedhnahgpmkaaa
