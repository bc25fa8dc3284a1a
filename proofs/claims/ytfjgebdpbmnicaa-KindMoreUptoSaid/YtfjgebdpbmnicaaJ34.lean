/- What the walker's variable returns. Conditions: the walker's lists lie in memory. -/
import Derived.Test.YtfjgebdpbmnicaaJ33
import Derived.IntWalk
namespace Go.Proofs.Ytfjgebdpbmnicaa
open Go.RowKit

namespace Ty
/-- a walker's box, a type's and the result's -/
structure Va3 (w W : World) (a0 a1 a2 a3 b0 b1 b2 b3 : Value) : Prop where
  below : Below w.heap.size w W
  wk : W4 W w.heap.size a0 a1 a2 a3
  t : B4 W (w.heap.size + 1) b0 b1 b2 b3
  r : B4 W (w.heap.size + 2) (.int .i64 0) (.int .i64 0) (.string ⟨#[]⟩) (.slice none 0 0)
theorem Va3.new (w : World) (a0 a1 a2 a3 b0 b1 b2 b3 : Value) : Va3 w (((w.alloc (Obj.cells #[a0, a1, a2, a3] 61)).alloc (Obj.cells #[b0, b1, b2, b3] 36)).alloc (Obj.cells #[.int .i64 0, .int .i64 0, .string ⟨#[]⟩, .slice none 0 0] 36)) a0 a1 a2 a3 b0 b1 b2 b3 := by
  have h := Mu3.new w a0 a1 a2 a3 b0 b1 b2 b3 (.int .i64 0) (.int .i64 0) (.string ⟨#[]⟩) (.slice none 0 0)
  exact ⟨h.below, h.wk, h.t, h.k⟩
theorem Va3.next {w W W' : World} {a0 a1 a2 a3 b0 b1 b2 b3 : Value} (h : Va3 w W a0 a1 a2 a3 b0 b1 b2 b3) (hb : Below W.heap.size W W') : Va3 w W' a0 a1 a2 a3 b0 b1 b2 b3 :=
  ⟨h.below.trans (hb.mono h.below.size), h.wk.next hb, h.t.next hb, h.r.next hb⟩
theorem Va3.drew {w W : World} {a0 a1 a2 a3 b0 b1 b2 b3 : Value} (h : Va3 w W a0 a1 a2 a3 b0 b1 b2 b3) : Va3 w W.drew a0 a1 a2 a3 b0 b1 b2 b3 := ⟨h.below.drew, h.wk, h.t, h.r⟩
theorem var_none {K : KW} {ctx : List Ty} {op n : Int} (h1 : ¬ (op = 1 ∧ n.toNat < ctx.length)) (h6 : ¬ (op = 6 ∧ n.toNat < K.metas.length)) (h7 : ¬ (op = 7 ∧ n.toNat < K.rigids.length)) : varT K ctx op n = .bad 6 := by
  unfold varT
  rw [if_neg h1, if_neg h6, if_neg h7]
theorem var_meta {K : KW} {ctx : List Ty} {m : Nat} (h : m < K.metas.length) : varT K ctx 6 m = .ok (K.metas[m]'h) := by
  unfold varT
  rw [if_neg (by omega), if_pos ⟨rfl, by simpa using h⟩]
  simp [h]
theorem var_rigid {K : KW} {ctx : List Ty} {m : Nat} (h : m < K.rigids.length) : varT K ctx 7 m = .ok (K.rigids[m]'h) := by
  unfold varT
  rw [if_neg (by omega), if_neg (by omega), if_pos ⟨rfl, by simpa using h⟩]
  simp [h]
theorem var_var {K : KW} {ctx : List Ty} {m : Nat} (h : ctx.length - 1 - m < ctx.length) (hm : m < ctx.length) : varT K ctx 1 m = shiftR (ctx[ctx.length - 1 - m]'h) (m + 1) := by
  unfold varT
  rw [if_pos ⟨rfl, by simpa using hm⟩]
  have e : (m : Int).toNat = m := by simp
  rw [e, List.getElem?_eq_getElem h]

set_option maxHeartbeats 8000000 in
theorem variable_none {ok : Nat → Prop} (K : KW) (ctx : List Ty) (op : Int) (m : Nat) (hop : op = 1 ∨ op = 6 ∨ op = 7) (ptr : Value) (mb rb xb : Option Addr) (mc rc xc : Nat) (w : World)
    (h1 : op = 1 → ctx.length ≤ m) (h6 : op = 6 → K.metas.length ≤ m) (h7 : op = 7 → K.rigids.length ≤ m) (tb : Option Addr) (tc : Nat) :
    Calls Try.prog 50 #[.agg #[ptr, .slice mb K.metas.length mc, .slice rb K.rigids.length rc, .slice xb ctx.length xc], .agg #[.int .i64 op, .int .i64 m, .string ⟨#[]⟩, .slice tb 0 tc]] w (KndO ok (varT K ctx op m) w) := by
  have HR := Lib.hid (var_none (K := K) (ctx := ctx) (op := op) (n := m) (fun ⟨a, b⟩ => by have := h1 a; simp at b; omega) (fun ⟨a, b⟩ => by have := h6 a; simp at b; omega) (fun ⟨a, b⟩ => by have := h7 a; simp at b; omega))
  generalize varT K ctx op m = r at *
  generalize ctx.length = l1 at *
  generalize K.metas.length = l2 at *
  generalize K.rigids.length = l3 at *
  have HM := Lib.hid (Va3.new w ptr (.slice mb l2 mc) (.slice rb l3 rc) (.slice xb l1 xc) (.int .i64 op) (.int .i64 m) (.string ⟨#[]⟩) (.slice tb 0 tc))
  have fin : ∀ (W : World), Va3 w W ptr (.slice mb l2 mc) (.slice rb l3 rc) (.slice xb l1 xc) (.int .i64 op) (.int .i64 m) (.string ⟨#[]⟩) (.slice tb 0 tc) → Calls Try.prog 71 #[.agg #[.int .i64 0, .int .i64 0, .string ⟨#[]⟩, .slice none 0 0], .int .i64 6] W fun e w' => Below W.heap.size W w' ∧ e = failP 6 := fun W h => (must_bad _ _ _ _ 6 (by decide) W).mono fun e w' ⟨a, b⟩ => ⟨b, a⟩
  have HFIN := Lib.hid fin
  clear fin
  rcases hop with rfl | rfl | rfl
  · have hle : l1 ≤ m := h1 rfl
    have hd : ¬ ((m : Int) < (l1 : Int)) := by omega
    clear h1 h6 h7
    go_enter Try.func50, Try.ntmps50
    go_upto_region 1 with fail
    obtain ⟨W1, hW1⟩ : ∃ W1, W1 = ((w.alloc (Obj.cells #[ptr, .slice mb l2 mc, .slice rb l3 rc, .slice xb l1 xc] 61)).alloc (Obj.cells #[.int .i64 1, .int .i64 m, .string ⟨#[]⟩, .slice tb 0 tc] 36)).alloc (Obj.cells #[.int .i64 0, .int .i64 0, .string ⟨#[]⟩, .slice none 0 0] 36) := ⟨_, rfl⟩
    rw [← hW1] at HM ⊢
    clear hW1
    obtain ⟨d0, d1, d2, d3⟩ := HM.out.wk.cells
    obtain ⟨e0, e1, e2, e3⟩ := HM.out.t.cells
    go_wp2_with fail
    refine (HFIN.out _ HM.out).mono ?_
    rintro e w4 ⟨hb, rfl⟩
    exact ⟨rfl, knd_fail HR.out (by decide) (HM.out.below.trans (hb.mono HM.out.below.size))⟩
  · have hle : l2 ≤ m := h6 rfl
    have hd : ¬ ((m : Int) < (l2 : Int)) := by omega
    clear h1 h6 h7
    go_enter Try.func50, Try.ntmps50
    go_upto_region 1 with fail
    obtain ⟨W1, hW1⟩ : ∃ W1, W1 = ((w.alloc (Obj.cells #[ptr, .slice mb l2 mc, .slice rb l3 rc, .slice xb l1 xc] 61)).alloc (Obj.cells #[.int .i64 6, .int .i64 m, .string ⟨#[]⟩, .slice tb 0 tc] 36)).alloc (Obj.cells #[.int .i64 0, .int .i64 0, .string ⟨#[]⟩, .slice none 0 0] 36) := ⟨_, rfl⟩
    rw [← hW1] at HM ⊢
    clear hW1
    obtain ⟨d0, d1, d2, d3⟩ := HM.out.wk.cells
    obtain ⟨e0, e1, e2, e3⟩ := HM.out.t.cells
    go_wp2_with fail
    refine (HFIN.out _ HM.out).mono ?_
    rintro e w4 ⟨hb, rfl⟩
    exact ⟨rfl, knd_fail HR.out (by decide) (HM.out.below.trans (hb.mono HM.out.below.size))⟩
  · have hle : l3 ≤ m := h7 rfl
    have hd : ¬ ((m : Int) < (l3 : Int)) := by omega
    clear h1 h6 h7
    go_enter Try.func50, Try.ntmps50
    go_upto_region 1 with fail
    obtain ⟨W1, hW1⟩ : ∃ W1, W1 = ((w.alloc (Obj.cells #[ptr, .slice mb l2 mc, .slice rb l3 rc, .slice xb l1 xc] 61)).alloc (Obj.cells #[.int .i64 7, .int .i64 m, .string ⟨#[]⟩, .slice tb 0 tc] 36)).alloc (Obj.cells #[.int .i64 0, .int .i64 0, .string ⟨#[]⟩, .slice none 0 0] 36) := ⟨_, rfl⟩
    rw [← hW1] at HM ⊢
    clear hW1
    obtain ⟨d0, d1, d2, d3⟩ := HM.out.wk.cells
    obtain ⟨e0, e1, e2, e3⟩ := HM.out.t.cells
    go_wp2_with fail
    refine (HFIN.out _ HM.out).mono ?_
    rintro e w4 ⟨hb, rfl⟩
    exact ⟨rfl, knd_fail HR.out (by decide) (HM.out.below.trans (hb.mono HM.out.below.size))⟩

set_option maxHeartbeats 8000000 in
theorem variable_meta {ok : Nat → Prop} (K : KW) (ctx : List Ty) (m : Nat) (hm : m < K.metas.length) (hgk : Good (K.metas[m]'hm)) (ptr : Value) (mb rb xb : Option Addr) (mc rc xc : Nat) (w : World) (hok : ∀ g, ok g → g < w.heap.size)
    (hcell : ∃ g o, mb = some ⟨g, o, none⟩ ∧ AtO ok w g (o + m * 10) (K.metas[m]'hm)) (tb : Option Addr) (tc : Nat) :
    Calls Try.prog 50 #[.agg #[ptr, .slice mb K.metas.length mc, .slice rb K.rigids.length rc, .slice xb ctx.length xc], .agg #[.int .i64 6, .int .i64 m, .string ⟨#[]⟩, .slice tb 0 tc]] w (KndO ok (varT K ctx 6 m) w) := by
  have HR := Lib.hid (var_meta (K := K) (ctx := ctx) hm)
  have HG := Lib.hid hgk
  have HOK := Lib.hid hok
  obtain ⟨g, o, rfl, hat⟩ := hcell
  obtain ⟨kb, kc, k0, k1, k2, k3, hvk⟩ := ato_v hat
  have HVK := Lib.hid hvk
  generalize varT K ctx 6 m = r at *
  obtain ⟨k, hk⟩ : ∃ k, k = K.metas[m]'hm := ⟨_, rfl⟩
  rw [← hk] at HR HG k0 k1 k2 k3 HVK
  clear hk hat hvk hgk hok
  generalize ctx.length = l1 at *
  generalize K.metas.length = l2 at *
  generalize K.rigids.length = l3 at *
  have HM := Lib.hid (Va3.new w ptr (.slice (some ⟨g, o, none⟩) l2 mc) (.slice rb l3 rc) (.slice xb l1 xc) (.int .i64 6) (.int .i64 m) (.string ⟨#[]⟩) (.slice tb 0 tc))
  have hd : decide ((m : Int) < (l2 : Int)) = true := decide_eq_true (by omega)
  go_enter Try.func50, Try.ntmps50
  go_upto_region 1 with fail
  obtain ⟨W1, hW1⟩ : ∃ W1, W1 = ((w.alloc (Obj.cells #[ptr, .slice (some ⟨g, o, none⟩) l2 mc, .slice rb l3 rc, .slice xb l1 xc] 61)).alloc (Obj.cells #[.int .i64 6, .int .i64 m, .string ⟨#[]⟩, .slice tb 0 tc] 36)).alloc (Obj.cells #[.int .i64 0, .int .i64 0, .string ⟨#[]⟩, .slice none 0 0] 36) := ⟨_, rfl⟩
  rw [← hW1] at HM ⊢
  clear hW1
  obtain ⟨d0, d1, d2, d3⟩ := HM.out.wk.cells
  obtain ⟨e0, e1, e2, e3⟩ := HM.out.t.cells
  have k0 := keeps HM.out.below _ _ k0
  have k1 := keeps HM.out.below _ _ k1
  have k2 := keeps HM.out.below _ _ k2
  have k3 := keeps HM.out.below _ _ k3
  obtain ⟨z0, z1, z2, z3⟩ := HM.out.r.cells
  have f0 := HM.out.r.frozen 0
  have f1 := HM.out.r.frozen 1
  have f2 := HM.out.r.frozen 2
  have f3 := HM.out.r.frozen 3
  go_wp2_with fail
  refine bodyPost_ret (results_ty (a := 4) (by kernel_rfl) (B := w.heap.size + 2) (by rfl) (put4_cells HM.out.r _ _ _ _).cells.1 (put4_cells HM.out.r _ _ _ _).cells.2.1 (put4_cells HM.out.r _ _ _ _).cells.2.2.1 (put4_cells HM.out.r _ _ _ _).cells.2.2.2) rfl ?_
  have hok := HOK.out
  refine ⟨below_put4 HM.out.below (by omega) _ _ _ _, .inr ⟨k, _, HR.out, HG.out, rfl, ?_⟩⟩
  exact (HVK.out.next HM.out.below).keep (fun g hg => .inl hg) (fun p v hp hc => put4_keep _ _ _ _ p v hc (by have := hok _ hp; omega))

set_option maxHeartbeats 8000000 in
theorem variable_rigid {ok : Nat → Prop} (K : KW) (ctx : List Ty) (m : Nat) (hm : m < K.rigids.length) (hgk : Good (K.rigids[m]'hm)) (ptr : Value) (mb rb xb : Option Addr) (mc rc xc : Nat) (w : World) (hok : ∀ g, ok g → g < w.heap.size)
    (hcell : ∃ g o, rb = some ⟨g, o, none⟩ ∧ AtO ok w g (o + m * 5) (K.rigids[m]'hm)) (tb : Option Addr) (tc : Nat) :
    Calls Try.prog 50 #[.agg #[ptr, .slice mb K.metas.length mc, .slice rb K.rigids.length rc, .slice xb ctx.length xc], .agg #[.int .i64 7, .int .i64 m, .string ⟨#[]⟩, .slice tb 0 tc]] w (KndO ok (varT K ctx 7 m) w) := by
  have HR := Lib.hid (var_rigid (K := K) (ctx := ctx) hm)
  have HG := Lib.hid hgk
  have HOK := Lib.hid hok
  obtain ⟨g, o, rfl, hat⟩ := hcell
  obtain ⟨kb, kc, k0, k1, k2, k3, hvk⟩ := ato_v hat
  have HVK := Lib.hid hvk
  generalize varT K ctx 7 m = r at *
  obtain ⟨k, hk⟩ : ∃ k, k = K.rigids[m]'hm := ⟨_, rfl⟩
  rw [← hk] at HR HG k0 k1 k2 k3 HVK
  clear hk hat hvk hgk hok
  generalize ctx.length = l1 at *
  generalize K.metas.length = l2 at *
  generalize K.rigids.length = l3 at *
  have HM := Lib.hid (Va3.new w ptr (.slice mb l2 mc) (.slice (some ⟨g, o, none⟩) l3 rc) (.slice xb l1 xc) (.int .i64 7) (.int .i64 m) (.string ⟨#[]⟩) (.slice tb 0 tc))
  have hd : decide ((m : Int) < (l3 : Int)) = true := decide_eq_true (by omega)
  go_enter Try.func50, Try.ntmps50
  go_upto_region 1 with fail
  obtain ⟨W1, hW1⟩ : ∃ W1, W1 = ((w.alloc (Obj.cells #[ptr, .slice mb l2 mc, .slice (some ⟨g, o, none⟩) l3 rc, .slice xb l1 xc] 61)).alloc (Obj.cells #[.int .i64 7, .int .i64 m, .string ⟨#[]⟩, .slice tb 0 tc] 36)).alloc (Obj.cells #[.int .i64 0, .int .i64 0, .string ⟨#[]⟩, .slice none 0 0] 36) := ⟨_, rfl⟩
  rw [← hW1] at HM ⊢
  clear hW1
  obtain ⟨d0, d1, d2, d3⟩ := HM.out.wk.cells
  obtain ⟨e0, e1, e2, e3⟩ := HM.out.t.cells
  have k0 := keeps HM.out.below _ _ k0
  have k1 := keeps HM.out.below _ _ k1
  have k2 := keeps HM.out.below _ _ k2
  have k3 := keeps HM.out.below _ _ k3
  obtain ⟨z0, z1, z2, z3⟩ := HM.out.r.cells
  have f0 := HM.out.r.frozen 0
  have f1 := HM.out.r.frozen 1
  have f2 := HM.out.r.frozen 2
  have f3 := HM.out.r.frozen 3
  go_wp2_with fail
  refine bodyPost_ret (results_ty (a := 4) (by kernel_rfl) (B := w.heap.size + 2) (by rfl) (put4_cells HM.out.r _ _ _ _).cells.1 (put4_cells HM.out.r _ _ _ _).cells.2.1 (put4_cells HM.out.r _ _ _ _).cells.2.2.1 (put4_cells HM.out.r _ _ _ _).cells.2.2.2) rfl ?_
  have hok := HOK.out
  refine ⟨below_put4 HM.out.below (by omega) _ _ _ _, .inr ⟨k, _, HR.out, HG.out, rfl, ?_⟩⟩
  exact (HVK.out.next HM.out.below).keep (fun g hg => .inl hg) (fun p v hp hc => put4_keep _ _ _ _ p v hc (by have := hok _ hp; omega))

theorem va_keep {W : World} {B : Nat} {p0 p1 p2 p3 p4 p5 : Addr} {c0 c1 c2 c3 c4 c5 : Value} (h0 : W.cell? p0 = some c0) (h1 : W.cell? p1 = some c1) (h2 : W.cell? p2 = some c2) (h3 : W.cell? p3 = some c3) (h4 : W.cell? p4 = some c4) (h5 : W.cell? p5 = some c5) (v0 v1 v2 v3 : Value) (hne : p0.block ≠ B ∧ p1.block ≠ B ∧ p2.block ≠ B ∧ p3.block ≠ B ∧ p4.block ≠ B ∧ p5.block ≠ B) :
    ((((W.setCell ⟨B, 0, none⟩ v0).setCell ⟨B, 1, none⟩ v1).setCell ⟨B, 2, none⟩ v2).setCell ⟨B, 3, none⟩ v3).cell? p0 = some c0 ∧ ((((W.setCell ⟨B, 0, none⟩ v0).setCell ⟨B, 1, none⟩ v1).setCell ⟨B, 2, none⟩ v2).setCell ⟨B, 3, none⟩ v3).cell? p1 = some c1 ∧ ((((W.setCell ⟨B, 0, none⟩ v0).setCell ⟨B, 1, none⟩ v1).setCell ⟨B, 2, none⟩ v2).setCell ⟨B, 3, none⟩ v3).cell? p2 = some c2 ∧ ((((W.setCell ⟨B, 0, none⟩ v0).setCell ⟨B, 1, none⟩ v1).setCell ⟨B, 2, none⟩ v2).setCell ⟨B, 3, none⟩ v3).cell? p3 = some c3 ∧ ((((W.setCell ⟨B, 0, none⟩ v0).setCell ⟨B, 1, none⟩ v1).setCell ⟨B, 2, none⟩ v2).setCell ⟨B, 3, none⟩ v3).cell? p4 = some c4 ∧ ((((W.setCell ⟨B, 0, none⟩ v0).setCell ⟨B, 1, none⟩ v1).setCell ⟨B, 2, none⟩ v2).setCell ⟨B, 3, none⟩ v3).cell? p5 = some c5 := by
  obtain ⟨n0, n1, n2, n3, n4, n5⟩ := hne
  exact ⟨an_one v0 v1 v2 v3 h0 n0, an_one v0 v1 v2 v3 h1 n1, an_one v0 v1 v2 v3 h2 n2, an_one v0 v1 v2 v3 h3 n3, an_one v0 v1 v2 v3 h4 n4, an_one v0 v1 v2 v3 h5 n5⟩
set_option maxHeartbeats 8000000 in
theorem variable_var {ok : Nat → Prop} (K : KW) (ctx : List Ty) (m j : Nat) (hm9 : m ≤ 9999) (hc9 : ctx.length ≤ 1000000) (hj : ctx.length = m + 1 + j) (ptr : Value) (mb rb xb : Option Addr) (mc rc xc : Nat) (w : World)
    (hsl : Sl w xb ctx) (tb : Option Addr) (tc : Nat) :
    Calls Try.prog 50 #[.agg #[ptr, .slice mb K.metas.length mc, .slice rb K.rigids.length rc, .slice xb ctx.length xc], .agg #[.int .i64 1, .int .i64 m, .string ⟨#[]⟩, .slice tb 0 tc]] w (KndO ok (varT K ctx 1 m) w) := by
  have hjl : j < ctx.length := by omega
  have hvv := var_var (K := K) (ctx := ctx) (m := m) (by omega) (by omega)
  have hk0 : ctx[ctx.length - 1 - m]'(by omega) = ctx[j]'hjl := by congr 1; omega
  rw [hk0] at hvv
  have HR := Lib.hid hvv
  rcases hsl.2 with h0 | ⟨g, o, rfl, hrow⟩
  · rw [h0] at hj; simp at hj; omega
  obtain ⟨kb, kc, k0, k1, k2, k3, hvk⟩ := at_v (row_at hjl hrow)
  have HVK := Lib.hid hvk
  generalize varT K ctx 1 m = r at *
  obtain ⟨k, hk⟩ : ∃ k, k = ctx[j]'hjl := ⟨_, rfl⟩
  rw [← hk] at HR k0 k1 k2 k3 HVK
  have hlt : m < ctx.length := by omega
  clear hk hvk hvv hk0 hsl hrow
  generalize ctx.length = l1 at *
  generalize K.metas.length = l2 at *
  generalize K.rigids.length = l3 at *
  have HM := Lib.hid (Va3.new w ptr (.slice mb l2 mc) (.slice rb l3 rc) (.slice (some ⟨g, o, none⟩) l1 xc) (.int .i64 1) (.int .i64 m) (.string ⟨#[]⟩) (.slice tb 0 tc))
  have hidx : (l1 : Int) - 1 - m = j := by omega
  have hw1 : IntKind.i64.wrap ((l1 : Int) - 1) = (l1 : Int) - 1 := IntWalk.i64_in _ (by omega)
  have hw2 : IntKind.i64.wrap ((l1 : Int) - 1 - m) = j := by rw [hidx]; exact IntWalk.i64_in _ (by omega)
  have hw3 : IntKind.i64.wrap ((m : Int) + 1) = (m : Int) + 1 := IntWalk.i64_in _ (by omega)
  have hj0 : (0 : Int) ≤ j := by omega
  have hj1 : (j : Int) < l1 := by omega
  clear hj hidx hc9 hm9
  have HGW := Lib.hid (World.block_lt_of_cell? w _ k0)
  go_enter Try.func50, Try.ntmps50
  go_upto_region 1 with fail
  obtain ⟨W1, hW1⟩ : ∃ W1, W1 = ((w.alloc (Obj.cells #[ptr, .slice mb l2 mc, .slice rb l3 rc, .slice (some ⟨g, o, none⟩) l1 xc] 61)).alloc (Obj.cells #[.int .i64 1, .int .i64 m, .string ⟨#[]⟩, .slice tb 0 tc] 36)).alloc (Obj.cells #[.int .i64 0, .int .i64 0, .string ⟨#[]⟩, .slice none 0 0] 36) := ⟨_, rfl⟩
  rw [← hW1] at HM ⊢
  clear hW1
  obtain ⟨d0, d1, d2, d3⟩ := HM.out.wk.cells
  obtain ⟨e0, e1, e2, e3⟩ := HM.out.t.cells
  go_upto_region 2 with fail
  have k0 := keeps HM.out.below _ _ k0
  have k1 := keeps HM.out.below _ _ k1
  have k2 := keeps HM.out.below _ _ k2
  have k3 := keeps HM.out.below _ _ k3
  have hdr := drew_below W1
  have HD := Lib.hid HM.out.drew
  have k0 := keeps hdr _ _ k0
  have k1 := keeps hdr _ _ k1
  have k2 := keeps hdr _ _ k2
  have k3 := keeps hdr _ _ k3
  clear d0 d1 d2 d3 e0 e1 e2 e3
  obtain ⟨_, _, _, d3⟩ := HD.out.wk.cells
  obtain ⟨_, e1, _, _⟩ := HD.out.t.cells
  have HNE : Hid (w.heap.size ≠ w.heap.size + 2 ∧ w.heap.size + 1 ≠ w.heap.size + 2 ∧ g ≠ w.heap.size + 2 ∧ g ≠ w.heap.size + 2 ∧ g ≠ w.heap.size + 2 ∧ g ≠ w.heap.size + 2) := Lib.hid (by have := HGW.out; simp only at this; omega)
  go_region_held2 (fun W => W.cell? ⟨w.heap.size, 3, none⟩ = some (.slice (some ⟨g, o, none⟩) l1 xc) ∧ W.cell? ⟨w.heap.size + 1, 1, none⟩ = some (.int .i64 m) ∧ W.cell? ⟨g, o + j * 4, none⟩ = some (.int .i64 k.op) ∧ W.cell? ⟨g, o + j * 4 + 1, none⟩ = some (.int .i64 k.n) ∧ W.cell? ⟨g, o + j * 4 + 2, none⟩ = some (.string k.name) ∧ W.cell? ⟨g, o + j * 4 + 3, none⟩ = some (.slice kb k.args.length kc))
    (first | (with_reducible exact ⟨d3, e1, k0, k1, k2, k3⟩) | (with_reducible exact ⟨u3, u4, u5, u6, u7, u8⟩) | (with_reducible exact ⟨x3, x4, x5, x6, x7, x8⟩) | (with_reducible exact va_keep x3 x4 x5 x6 x7 x8 _ _ _ _ HNE.out))
    (first
    | (go_at_call 32; refine (shift_o k (m + 1) _ _ (HVK.out.next HD.out.below)).mono ?_; rintro e w2 ⟨kk, n, v2, hr, rfl, hvo, hb2⟩; have HR2 := Lib.hid hr; have HV2 := Lib.hid hvo; have HM2 := Lib.hid (HD.out.next hb2); have HZ2 := Lib.hid hb2.size; have u3 := keeps hb2 _ _ d3; have u4 := keeps hb2 _ _ e1; have u5 := keeps hb2 _ _ k0; have u6 := keeps hb2 _ _ k1; have u7 := keeps hb2 _ _ k2; have u8 := keeps hb2 _ _ k3; clear hr hvo hb2)
    | (go_at_call 71; refine (mustl_any HR2.out HV2.out (fun k' h => good_shift h)).mono ?_; rintro e w3 ⟨hb3, hor⟩; rcases hor with ⟨c, hr, hc, rfl⟩ | ⟨k3', v3, hr, hg3, rfl, hv3⟩; exact ⟨rfl, knd_fail (HR.out.trans hr) hc (HM2.out.below.trans (hb3.mono HM2.out.below.size))⟩; have HR3 := Lib.hid hr; have HG3 := Lib.hid hg3; have HV3 := Lib.hid hv3; have HM3 := Lib.hid (HM2.out.next hb3); have x3 := keeps hb3 _ _ u3; have x4 := keeps hb3 _ _ u4; have x5 := keeps hb3 _ _ u5; have x6 := keeps hb3 _ _ u6; have x7 := keeps hb3 _ _ u7; have x8 := keeps hb3 _ _ u8; clear hr hg3 hv3 hb3; obtain ⟨b3, c3, ev3, _, _⟩ := HV3.out; subst ev3; obtain ⟨t0, t1, t2, t3⟩ := HM3.out.r.cells; have h0 := HM3.out.r.frozen 0; have h1 := HM3.out.r.frozen 1; have h2 := HM3.out.r.frozen 2; have h3 := HM3.out.r.frozen 3))
  rename_i hS
  clear hS
  go_wp2_with fail
  refine bodyPost_ret (results_ty (a := 4) (by kernel_rfl) (B := w.heap.size + 2) (by rfl) (put4_cells HM3.out.r _ _ _ _).cells.1 (put4_cells HM3.out.r _ _ _ _).cells.2.1 (put4_cells HM3.out.r _ _ _ _).cells.2.2.1 (put4_cells HM3.out.r _ _ _ _).cells.2.2.2) rfl ?_
  have hz := lt_of_block HD.out.r
  have hz2 := HZ2.out
  refine ⟨below_put4 HM3.out.below (by omega) _ _ _ _, .inr ⟨k3', _, HR.out.trans HR3.out, HG3.out, rfl, ?_⟩⟩
  exact HV3.out.keep (fun q hq => by rcases hq with hq | hq <;> exact .inr (by omega)) (fun p v hp hc => put4_keep _ _ _ _ p v hc (by rcases hp with hp | hp <;> omega))
end Ty
end Go.Proofs.Ytfjgebdpbmnicaa
