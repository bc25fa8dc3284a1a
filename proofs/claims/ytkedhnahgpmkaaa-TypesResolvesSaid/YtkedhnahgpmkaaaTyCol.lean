/- What the reference's collect, Free, Metas and Rigids return. Conditions: the type lies in memory and is well formed. -/
import Derived.Test.YtkedhnahgpmkaaaTyRAdd
import Derived.Test.YtkedhnahgpmkaaaTyWalk
import Derived.Deep.RegionHeld3
import Derived.IntWalk
namespace Go.Proofs.Ytkedhnahgpmkaaa
open Go.RowKit

namespace Ty
/-- what is done with a node when numbers are collected -/
def colF (op : Int) (t : Ty) (k : Nat) (l : List Int) : List Int := if t.op = op ∧ (op ≠ 1 ∨ (k : Int) ≤ t.n) then addI l (if op = 1 then t.n - k else t.n) else l
def ColC (op : Int) (t : Ty) : Prop := ∀ (v : Value) (k : Nat) (base : Nat) (lv : Value) (l : List Int) (w : World), V w t v → OI base lv l w → base ≤ w.heap.size → k + nodes t ≤ 1000000 → l.length + nodes t ≤ 100000 →
  Calls Try.prog 61 #[v, .int .i64 op, .int .i64 k, lv] w (AddP base (wlk (colF op) t k l) w)
theorem wlk_len {f : Ty → Nat → List Int → List Int} (hf : ∀ t k l, (f t k l).length ≤ l.length + 1) : ∀ {t : Ty}, Good t → ∀ (k : Nat) (l : List Int), (wlk f t k l).length ≤ l.length + nodes t := by
  intro t hg
  induction hg with
  | var op n _ _ _ => intro k st; rw [wlk_leaf, nodes, nodess]; exact hf _ _ _
  | con s _ _ => intro k st; rw [wlk_leaf, nodes, nodess]; exact hf _ _ _
  | node op x y h hx hy ihx ihy =>
    intro k st
    rw [wlk_node, nodes_node]
    have h1 := hf (.mk op 0 [] [x, y]) k st
    have h2 := ihx k (f (.mk op 0 [] [x, y]) k st)
    have h3 := ihy (k + undN op) (wlk f x k (f (.mk op 0 [] [x, y]) k st))
    omega
theorem colF_len (op : Int) (t : Ty) (k : Nat) (l : List Int) : (colF op t k l).length ≤ l.length + 1 := by
  unfold colF
  split
  · exact addI_len _ _
  · omega

set_option maxHeartbeats 4000000 in
theorem und_first (op nn : Int) (na : ByteArray) (base : Option Addr) (la cap : Nat) (w : World) : Calls Try.prog 100 #[.agg #[.int .i64 op, .int .i64 nn, .string na, .slice base la cap], .int .i64 0] w fun e w' => e = .returned (.int .i64 0) ∧ Below w.heap.size w w' := by
  obtain ⟨b0, b1, b2, b3⟩ := box4 w (.int .i64 op) (.int .i64 nn) (.string na) (.slice base la cap)
  cases h4 : (op == 4) with
  | false =>
    go_enter Try.func100, Try.ntmps100
    go_wp2_with fail
    go_ret
    exact ⟨rfl, (Below.refl _ _).alloc (Nat.le_refl _) _⟩
  | true =>
    go_enter Try.func100, Try.ntmps100
    go_wp2_with fail
    go_ret
    exact ⟨rfl, (Below.refl _ _).alloc (Nat.le_refl _) _⟩
set_option maxHeartbeats 4000000 in
theorem und_second (op nn : Int) (na : ByteArray) (base : Option Addr) (la cap : Nat) (w : World) : Calls Try.prog 100 #[.agg #[.int .i64 op, .int .i64 nn, .string na, .slice base la cap], .int .i64 1] w fun e w' => e = .returned (.int .i64 (undN op)) ∧ Below w.heap.size w w' := by
  obtain ⟨b0, b1, b2, b3⟩ := box4 w (.int .i64 op) (.int .i64 nn) (.string na) (.slice base la cap)
  by_cases h4 : op = 4
  · have HU : Hid (undN op = 1) := Lib.hid (if_pos h4)
    have q : (op == 4) = true := by simpa using h4
    clear h4
    go_enter Try.func100, Try.ntmps100
    go_wp2_with fail
    go_ret
    exact ⟨ret_int (by rw [HU.out]; rfl), (Below.refl _ _).alloc (Nat.le_refl _) _⟩
  · have HU : Hid (undN op = 0) := Lib.hid (if_neg h4)
    have q : (op == 4) = false := by simpa using h4
    clear h4
    go_enter Try.func100, Try.ntmps100
    go_wp2_with fail
    go_ret
    exact ⟨ret_int (by rw [HU.out]; rfl), (Below.refl _ _).alloc (Nat.le_refl _) _⟩

/-- the world in which a node's numbers are collected -/
structure CSt (w : World) (v0 v1 v2 v3 : Value) (base : Nat) (lv : Value) (l : List Int) (W : World) : Prop where
  below : Below w.heap.size w W
  box : B4 W w.heap.size v0 v1 v2 v3
  oi : OI base lv l W
theorem CSt.next {w W W' : World} {v0 v1 v2 v3 : Value} {base : Nat} {lv : Value} {l : List Int} (h : CSt w v0 v1 v2 v3 base lv l W) (hb : Below W.heap.size W W') : CSt w v0 v1 v2 v3 base lv l W' :=
  ⟨h.below.trans (hb.mono h.below.size), h.box.next hb, h.oi.next hb⟩

set_option maxHeartbeats 8000000 in
theorem col_other (n : Int) (s : List UInt8) (op : Int) (kind : Int) (hne : op ≠ kind) (v : Value) (k base : Nat) (lv : Value) (l : List Int) (w : World) (hv : V w (.mk op n s []) v) (ho : OI base lv l w) :
    Calls Try.prog 61 #[v, .int .i64 kind, .int .i64 k, lv] w (AddP base l w) := by
  obtain ⟨b, c, ev, _, _⟩ := hv
  have hb2 : Below w.heap.size w (w.alloc (Obj.cells #[.int .i64 op, .int .i64 n, .string ⟨s.toArray⟩, .slice b 0 c] 24)) := (Below.refl _ _).alloc (Nat.le_refl _) _
  have ev' : v = .agg #[.int .i64 op, .int .i64 n, .string ⟨s.toArray⟩, .slice b 0 c] := ev
  subst ev'
  clear ev
  obtain ⟨c0, c1, c2, c3⟩ := (two_B4 (W := w) (v0 := .int .i64 op) (v1 := .int .i64 n) (v2 := .string ⟨s.toArray⟩) (v3 := .slice b 0 c)).cells
  have HB := Lib.hid hb2
  have HO := Lib.hid (ho.next hb2)
  clear hb2 ho
  have q1 : (op == kind) = false := by simpa using hne
  clear hne
  go_enter Try.func61, Try.ntmps61
  go_wp2_with fail
  refine wp_loop_rounds 1 ?_
  rw [rounds_succ]
  go_wp2_with fail
  go_ret
  exact ⟨_, rfl, HO.out, HB.out⟩

set_option maxHeartbeats 8000000 in
theorem col_kind (n : Int) (s : List UInt8) (op : Int) (hop : op ≠ 1) (v : Value) (k base : Nat) (lv : Value) (l : List Int) (w : World) (hv : V w (.mk op n s []) v) (ho : OI base lv l w) (hbase : base ≤ w.heap.size) (hc : l.length ≤ 100000) :
    Calls Try.prog 61 #[v, .int .i64 op, .int .i64 k, lv] w (AddP base (addI l n) w) := by
  obtain ⟨b, c, ev, _, _⟩ := hv
  have hb2 : Below w.heap.size w (w.alloc (Obj.cells #[.int .i64 op, .int .i64 n, .string ⟨s.toArray⟩, .slice b 0 c] 24)) := (Below.refl _ _).alloc (Nat.le_refl _) _
  have ev' : v = .agg #[.int .i64 op, .int .i64 n, .string ⟨s.toArray⟩, .slice b 0 c] := ev
  subst ev'
  clear ev
  obtain ⟨c0, c1, c2, c3⟩ := (two_B4 (W := w) (v0 := .int .i64 op) (v1 := .int .i64 n) (v2 := .string ⟨s.toArray⟩) (v3 := .slice b 0 c)).cells
  have HB := Lib.hid hb2
  have HO := Lib.hid (ho.next hb2)
  clear hb2 ho
  have q1 : (op == op) = true := by simp
  have q2 : (op == 1) = false := by simpa using hop
  have q3 : (op != 1) = true := by simpa using hop
  clear hop
  go_enter Try.func61, Try.ntmps61
  go_wp2_with fail
  refine (add_any base lv l _ _ HO.out hc (Nat.le_trans hbase HB.out.size)).mono ?_
  rintro e w3 ⟨lv3, rfl, ho3, hb3⟩
  have HO3 := Lib.hid ho3
  have HB3 := Lib.hid (HB.out.trans (hb3.mono HB.out.size))
  clear ho3 hb3
  go_wp2_with fail
  go_ret
  exact ⟨_, rfl, HO3.out, HB3.out⟩

set_option maxHeartbeats 8000000 in
theorem col_bound (n : Int) (s : List UInt8) (v : Value) (k base : Nat) (lv : Value) (l : List Int) (w : World) (hv : V w (.mk 1 n s []) v) (ho : OI base lv l w) (hlt : n < (k : Int)) :
    Calls Try.prog 61 #[v, .int .i64 1, .int .i64 k, lv] w (AddP base l w) := by
  obtain ⟨b, c, ev, _, _⟩ := hv
  have hb2 : Below w.heap.size w (w.alloc (Obj.cells #[.int .i64 1, .int .i64 n, .string ⟨s.toArray⟩, .slice b 0 c] 24)) := (Below.refl _ _).alloc (Nat.le_refl _) _
  have ev' : v = .agg #[.int .i64 1, .int .i64 n, .string ⟨s.toArray⟩, .slice b 0 c] := ev
  subst ev'
  clear ev
  obtain ⟨c0, c1, c2, c3⟩ := (two_B4 (W := w) (v0 := .int .i64 1) (v1 := .int .i64 n) (v2 := .string ⟨s.toArray⟩) (v3 := .slice b 0 c)).cells
  have HB := Lib.hid hb2
  have HO := Lib.hid (ho.next hb2)
  clear hb2 ho
  have q1 : decide ((k : Int) ≤ n) = false := decide_eq_false (by omega)
  clear hlt
  go_enter Try.func61, Try.ntmps61
  go_wp2_with fail
  refine wp_loop_rounds 1 ?_
  rw [rounds_succ]
  go_wp2_with fail
  go_ret
  exact ⟨_, rfl, HO.out, HB.out⟩

set_option maxHeartbeats 8000000 in
theorem col_free (n : Int) (s : List UInt8) (hn : 0 ≤ n ∧ n ≤ 9999) (v : Value) (k base : Nat) (lv : Value) (l : List Int) (w : World) (hv : V w (.mk 1 n s []) v) (ho : OI base lv l w) (hbase : base ≤ w.heap.size) (hk : k ≤ 1000000) (hc : l.length ≤ 100000) (hle : (k : Int) ≤ n) :
    Calls Try.prog 61 #[v, .int .i64 1, .int .i64 k, lv] w (AddP base (addI l (n - k)) w) := by
  obtain ⟨b, c, ev, _, _⟩ := hv
  have hb2 : Below w.heap.size w (w.alloc (Obj.cells #[.int .i64 1, .int .i64 n, .string ⟨s.toArray⟩, .slice b 0 c] 24)) := (Below.refl _ _).alloc (Nat.le_refl _) _
  have ev' : v = .agg #[.int .i64 1, .int .i64 n, .string ⟨s.toArray⟩, .slice b 0 c] := ev
  subst ev'
  clear ev
  obtain ⟨c0, c1, c2, c3⟩ := (two_B4 (W := w) (v0 := .int .i64 1) (v1 := .int .i64 n) (v2 := .string ⟨s.toArray⟩) (v3 := .slice b 0 c)).cells
  have HB := Lib.hid hb2
  have HO := Lib.hid (ho.next hb2)
  clear hb2 ho
  have q1 : decide ((k : Int) ≤ n) = true := decide_eq_true (by omega)
  go_enter Try.func61, Try.ntmps61
  go_wp2_with fail
  refine (add_any base lv l _ _ HO.out hc (Nat.le_trans hbase HB.out.size)).mono ?_
  rintro e w3 ⟨lv3, rfl, ho3, hb3⟩
  have HO3 := Lib.hid ho3
  have HB3 := Lib.hid (HB.out.trans (hb3.mono HB.out.size))
  clear ho3 hb3
  go_wp2_with fail
  go_ret
  exact ⟨_, rfl, HO3.out, HB3.out⟩

set_option maxHeartbeats 16000000 in
theorem col_node (kind op : Int) (x y : Ty) (hkind : kind = 1 ∨ kind = 6 ∨ kind = 7) (hop : op = 3 ∨ op = 4 ∨ op = 5) (hgx : Good x) (hx : ColC kind x) (hy : ColC kind y) : ColC kind (.mk op 0 [] [x, y]) := by
  intro v k base lv l w hv ho hbase hk hc
  obtain ⟨b, c, ev, _, hl, h4⟩ := hv
  rcases h4 with h4 | ⟨g, o, rfl, hrow⟩
  · cases h4
  have ev' : v = .agg #[.int .i64 op, .int .i64 0, .string ⟨#[]⟩, .slice (some ⟨g, o, none⟩) 2 c] := ev
  clear ev hl
  subst ev'
  obtain ⟨hrx, hry, _⟩ := hrow
  rw [wlk_node, show colF kind (.mk op 0 [] [x, y]) k l = l from if_neg (fun h => by have : op = kind := h.1; omega)]
  have hb2 : Below w.heap.size w (w.alloc (Obj.cells #[.int .i64 op, .int .i64 0, .string ⟨#[]⟩, .slice (some ⟨g, o, none⟩) 2 c] 24)) := (Below.refl _ _).alloc (Nat.le_refl _) _
  have HN : Hid (CSt w (.int .i64 op) (.int .i64 0) (.string ⟨#[]⟩) (.slice (some ⟨g, o, none⟩) 2 c) base lv l _) := Lib.hid ⟨hb2, two_B4, ho.next hb2⟩
  have qk : (op == kind) = false := by simp; omega
  have HX := Lib.hid hx
  have HY := Lib.hid hy
  rw [nodes_node] at hk hc
  have hcy := wlk_len (colF_len kind) hgx k l
  have hk1 : k + nodes x ≤ 1000000 := by omega
  have hk2 : k + undN op + nodes y ≤ 1000000 := by have := undN_le op; have := nodes_pos x; omega
  have hc1 : l.length + nodes x ≤ 100000 := by omega
  have hc2 : (wlk (colF kind) x k l).length + nodes y ≤ 100000 := by omega
  have hz1 : IntKind.i64.wrap (k : Int) = k := IntWalk.i64_in _ (by omega)
  obtain ⟨l2, hl2⟩ : ∃ s, s = wlk (colF kind) x k l := ⟨_, rfl⟩
  rw [← hl2] at hc2 ⊢
  obtain ⟨l3, hl3⟩ : ∃ s, s = wlk (colF kind) y (k + undN op) l2 := ⟨_, rfl⟩
  rw [← hl3]
  have HL2 := Lib.hid hl2
  have HL3 := Lib.hid hl3
  clear hb2 ho hx hy hk hc hcy hl2 hl3 hkind hop hgx
  obtain ⟨q0, q1, q2, q3⟩ := HN.out.box.cells
  go_enter Try.func61, Try.ntmps61
  go_upto_region 1 with fail
  obtain ⟨w2, hw2⟩ : ∃ W, W = w.alloc (Obj.cells #[.int .i64 op, .int .i64 0, .string ⟨#[]⟩, .slice (some ⟨g, o, none⟩) 2 c] 24) := ⟨_, rfl⟩
  rw [← hw2] at HN q0 q1 q2 q3 ⊢
  clear hw2
  obtain ⟨xb, xc, x0, x1, x2, x3, hvx⟩ := at_v hrx
  obtain ⟨yb, yc, y0, y1, y2, y3, hvy⟩ := at_v hry
  have HVX := Lib.hid hvx
  have HVY := Lib.hid hvy
  have YC := Lib.hid (And.intro y0 (And.intro y1 (And.intro y2 y3)))
  clear hvx hvy hrx hry y0 y1 y2 y3
  have x0 := keeps HN.out.below _ _ x0
  have x1 := keeps HN.out.below _ _ x1
  have x2 := keeps HN.out.below _ _ x2
  have x3 := keeps HN.out.below _ _ x3
  go_wp2_with fail
  refine wp_loop_rounds 3 ?_
  rw [rounds_succ]
  go_wp2_with fail
  obtain ⟨W4, hW4⟩ : ∃ W4, W4 = w2.alloc (Obj.cells #[.int .i64 x.op, .int .i64 x.n, .string x.name, .slice xb x.args.length xc] 24) := ⟨_, rfl⟩
  have ht9 : B4 W4 w2.heap.size (.int .i64 x.op) (.int .i64 x.n) (.string x.name) (.slice xb x.args.length xc) := by rw [hW4]; exact heap_alloc_new _ _
  have hb9 : Below w2.heap.size w2 W4 := by rw [hW4]; exact (Below.refl _ _).alloc (Nat.le_refl _) _
  rw [← hW4]
  clear hW4 x0 x1 x2 x3 q0 q1 q2 q3
  have HN4 := Lib.hid ((HN.out.next hb9).next (drew_below _))
  obtain ⟨D4, hD4⟩ : ∃ D4, D4 = w2.heap.size := ⟨_, rfl⟩
  rw [← hD4] at ht9
  have HT4 := Lib.hid (show B4 W4.drew D4 _ _ _ _ from ht9)
  rw [← hD4]
  clear hD4 hb9 ht9
  obtain ⟨q0, q1, q2, q3⟩ := HN4.out.box.cells
  obtain ⟨t0, t1, t2, t3⟩ := HT4.out.cells
  have HC4 := Lib.hid (fun (W : World) (hN : CSt w (.int .i64 op) (.int .i64 0) (.string ⟨#[]⟩) (.slice (some ⟨g, o, none⟩) 2 c) base lv l W) => HX.out _ k base lv l W (HVX.out.next hN.below) hN.oi (Nat.le_trans hbase hN.below.size) hk1 hc1)
  rw [← HL2.out] at HC4
  have hz0 : IntKind.i64.wrap ((k : Int) + 0) = k := by rw [Int.add_zero]; exact IntWalk.i64_in _ (by omega)
  go_region_held3 (fun W => W.cell? ⟨w.heap.size, 0, none⟩ = some (.int .i64 op) ∧ W.cell? ⟨w.heap.size, 1, none⟩ = some (.int .i64 0) ∧ W.cell? ⟨w.heap.size, 2, none⟩ = some (.string ⟨#[]⟩) ∧ W.cell? ⟨w.heap.size, 3, none⟩ = some (.slice (some ⟨g, o, none⟩) 2 c) ∧ W.cell? ⟨D4, 0, none⟩ = some (.int .i64 x.op) ∧ W.cell? ⟨D4, 1, none⟩ = some (.int .i64 x.n) ∧ W.cell? ⟨D4, 2, none⟩ = some (.string x.name) ∧ W.cell? ⟨D4, 3, none⟩ = some (.slice xb x.args.length xc))
    (first | (with_reducible exact ⟨q0, q1, q2, q3, t0, t1, t2, t3⟩) | (with_reducible exact ⟨u0, u1, u2, u3, u5, u6, u7, u8⟩) | (with_reducible exact ⟨z0, z1, z2, z3, z5, z6, z7, z8⟩))
    (first
    | (go_at_call 100; refine (und_first _ _ _ _ _ _ _).mono ?_; rintro e w4a ⟨rfl, hb5⟩; have HN4B := Lib.hid (HN4.out.next hb5); have HT4B := Lib.hid (HT4.out.next hb5); clear hb5; obtain ⟨u0, u1, u2, u3⟩ := HN4B.out.box.cells; obtain ⟨u5, u6, u7, u8⟩ := HT4B.out.cells)
    | (go_at_call 61; refine (HC4.out _ HN4B.out).mono ?_; rintro e w4b ⟨lv2, rfl, ho6, hb6⟩; have HN4P := Lib.hid (show CSt w _ _ _ _ base lv2 l2 w4b from ⟨HN4B.out.below.trans (hb6.mono HN4B.out.below.size), HN4B.out.box.next hb6, ho6⟩); have HT4P := Lib.hid (HT4B.out.next hb6); clear ho6 hb6; obtain ⟨z0, z1, z2, z3⟩ := HN4P.out.box.cells; obtain ⟨z5, z6, z7, z8⟩ := HT4P.out.cells))
  rename_i hS
  clear hS u0 u1 u2 u3 u5 u6 u7 u8 z0 z1 z2 z3 z5 z6 z7 z8 q0 q1 q2 q3 t0 t1 t2 t3 HN4 HN4B HT4 HT4B HT4P HC4
  clear hz0
  obtain ⟨y0, y1, y2, y3⟩ := YC.out
  have x0 := keeps HN4P.out.below _ _ y0
  have x1 := keeps HN4P.out.below _ _ y1
  have x2 := keeps HN4P.out.below _ _ y2
  have x3 := keeps HN4P.out.below _ _ y3
  clear y0 y1 y2 y3
  obtain ⟨q0, q1, q2, q3⟩ := HN4P.out.box.cells
  go_wp2_with fail
  rw [rounds_succ]
  go_wp2_with fail
  obtain ⟨W6, hW6⟩ : ∃ W6, W6 = w4b.alloc (Obj.cells #[.int .i64 y.op, .int .i64 y.n, .string y.name, .slice yb y.args.length yc] 24) := ⟨_, rfl⟩
  have ht9 : B4 W6 w4b.heap.size (.int .i64 y.op) (.int .i64 y.n) (.string y.name) (.slice yb y.args.length yc) := by rw [hW6]; exact heap_alloc_new _ _
  have hb9 : Below w4b.heap.size w4b W6 := by rw [hW6]; exact (Below.refl _ _).alloc (Nat.le_refl _) _
  rw [← hW6]
  clear hW6 x0 x1 x2 x3 q0 q1 q2 q3
  have HN6 := Lib.hid ((HN4P.out.next hb9).next (drew_below _))
  obtain ⟨D6, hD6⟩ : ∃ D6, D6 = w4b.heap.size := ⟨_, rfl⟩
  rw [← hD6] at ht9
  have HT6 := Lib.hid (show B4 W6.drew D6 _ _ _ _ from ht9)
  rw [← hD6]
  clear hD6 hb9 ht9
  obtain ⟨q0, q1, q2, q3⟩ := HN6.out.box.cells
  obtain ⟨t0, t1, t2, t3⟩ := HT6.out.cells
  have HC6 := Lib.hid (fun (W : World) (hN : CSt w (.int .i64 op) (.int .i64 0) (.string ⟨#[]⟩) (.slice (some ⟨g, o, none⟩) 2 c) base lv2 l2 W) => HY.out _ (k + undN op) base lv2 l2 W (HVY.out.next hN.below) hN.oi (Nat.le_trans hbase hN.below.size) hk2 hc2)
  rw [← HL3.out] at HC6
  have hz0 : IntKind.i64.wrap ((k : Int) + (undN op : Nat)) = ((k + undN op : Nat) : Int) := by rw [IntWalk.i64_in _ (by omega)]; omega
  go_region_held3 (fun W => W.cell? ⟨w.heap.size, 0, none⟩ = some (.int .i64 op) ∧ W.cell? ⟨w.heap.size, 1, none⟩ = some (.int .i64 0) ∧ W.cell? ⟨w.heap.size, 2, none⟩ = some (.string ⟨#[]⟩) ∧ W.cell? ⟨w.heap.size, 3, none⟩ = some (.slice (some ⟨g, o, none⟩) 2 c) ∧ W.cell? ⟨D6, 0, none⟩ = some (.int .i64 y.op) ∧ W.cell? ⟨D6, 1, none⟩ = some (.int .i64 y.n) ∧ W.cell? ⟨D6, 2, none⟩ = some (.string y.name) ∧ W.cell? ⟨D6, 3, none⟩ = some (.slice yb y.args.length yc))
    (first | (with_reducible exact ⟨q0, q1, q2, q3, t0, t1, t2, t3⟩) | (with_reducible exact ⟨u0, u1, u2, u3, u5, u6, u7, u8⟩) | (with_reducible exact ⟨z0, z1, z2, z3, z5, z6, z7, z8⟩))
    (first
    | (go_at_call 100; refine (und_second _ _ _ _ _ _ _).mono ?_; rintro e w6a ⟨rfl, hb5⟩; have HN6B := Lib.hid (HN6.out.next hb5); have HT6B := Lib.hid (HT6.out.next hb5); clear hb5; obtain ⟨u0, u1, u2, u3⟩ := HN6B.out.box.cells; obtain ⟨u5, u6, u7, u8⟩ := HT6B.out.cells)
    | (go_at_call 61; refine (HC6.out _ HN6B.out).mono ?_; rintro e w6b ⟨lv3, rfl, ho6, hb6⟩; have HN6P := Lib.hid (show CSt w _ _ _ _ base lv3 l3 w6b from ⟨HN6B.out.below.trans (hb6.mono HN6B.out.below.size), HN6B.out.box.next hb6, ho6⟩); have HT6P := Lib.hid (HT6B.out.next hb6); clear ho6 hb6; obtain ⟨z0, z1, z2, z3⟩ := HN6P.out.box.cells; obtain ⟨z5, z6, z7, z8⟩ := HT6P.out.cells))
  rename_i hS
  clear hS u0 u1 u2 u3 u5 u6 u7 u8 z0 z1 z2 z3 z5 z6 z7 z8 q0 q1 q2 q3 t0 t1 t2 t3 HN6 HN6B HT6 HT6B HT6P HC6
  go_wp2_with fail
  rw [rounds_succ]
  go_wp2_with fail
  go_ret
  exact ⟨_, rfl, HN6P.out.oi, HN6P.out.below⟩

theorem col_leaf (kind : Int) (hkind : kind = 1 ∨ kind = 6 ∨ kind = 7) (op n : Int) (s : List UInt8) (hg : Good (.mk op n s [])) : ColC kind (.mk op n s []) := by
  intro v k base lv l w hv ho hbase hk hc
  rw [wlk_leaf]
  have hn := nodes_pos (.mk op n s [])
  by_cases h1 : op = kind
  · subst h1
    by_cases h2 : op = 1
    · subst h2
      have hb : 0 ≤ n ∧ n ≤ 9999 := by
        cases hg with
        | var op n h1 h2 h3 => exact ⟨h2, h3⟩
      by_cases h3 : (k : Int) ≤ n
      · rw [show colF 1 (.mk 1 n s []) k l = addI l (n - k) from by unfold colF; rw [if_pos ⟨rfl, .inr h3⟩, if_pos rfl]; rfl]
        exact col_free n s hb v k base lv l w hv ho hbase (by omega) (by omega) h3
      · rw [show colF 1 (.mk 1 n s []) k l = l from if_neg (fun h => by rcases h.2 with h | h; exact absurd rfl h; exact h3 h)]
        exact col_bound n s v k base lv l w hv ho (by omega)
    · rw [show colF op (.mk op n s []) k l = addI l n from by unfold colF; rw [if_pos ⟨rfl, .inl h2⟩, if_neg h2]; rfl]
      exact col_kind n s op h2 v k base lv l w hv ho hbase (by omega)
  · rw [show colF kind (.mk op n s []) k l = l from if_neg (fun h => h1 h.1)]
    exact col_other n s op kind h1 v k base lv l w hv ho
theorem col_any (kind : Int) (hkind : kind = 1 ∨ kind = 6 ∨ kind = 7) : ∀ t : Ty, Good t → ColC kind t := by
  intro t hg
  induction hg with
  | var op n h1 h2 h3 => exact col_leaf kind hkind op n [] (.var op n h1 h2 h3)
  | con s h1 h2 => exact col_leaf kind hkind 2 0 s (.con s h1 h2)
  | node op x y h hx hy ihx ihy => exact col_node kind op x y hkind h hx ihx ihy

end Ty
end Go.Proofs.Ytkedhnahgpmkaaa
