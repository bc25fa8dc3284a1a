/- What the kit's pair returns for a type of a function, and for another. Conditions: the type lies in memory and is well formed. -/
import Derived.Test.YtkedhnahgpmkaaaTyPIsFun
import Derived.Deep.RegionHeld3
namespace Go.Proofs.Ytkedhnahgpmkaaa
open Go.RowKit

namespace Ty
theorem pr_one {W : World} {B : Nat} {p : Addr} {c : Value} (v0 v1 v2 v3 : Value) (h : W.drew.cell? p = some c) (hn : p.block ≠ B) : ((((W.setCell ⟨B, 0, none⟩ v0).setCell ⟨B, 1, none⟩ v1).setCell ⟨B, 2, none⟩ v2).setCell ⟨B, 3, none⟩ v3).drew.cell? p = some c := by
  have h' : W.cell? p = some c := by rw [← h]; rfl
  have h2 := put4_keep (B := B) v0 v1 v2 v3 p c h' hn
  unfold put4 at h2
  rw [← h2]
  rfl
theorem pr_put {W : World} {B : Nat} {p0 p1 p2 p3 p4 p5 p6 p7 p8 p9 : Addr} {c0 c1 c2 c3 c4 c5 c6 c7 c8 c9 : Value} (v0 v1 v2 v3 : Value) (h : W.drew.cell? p0 = some c0 ∧ W.drew.cell? p1 = some c1 ∧ W.drew.cell? p2 = some c2 ∧ W.drew.cell? p3 = some c3 ∧ W.drew.cell? p4 = some c4 ∧ W.drew.cell? p5 = some c5 ∧ W.drew.cell? p6 = some c6 ∧ W.drew.cell? p7 = some c7 ∧ W.drew.cell? p8 = some c8 ∧ W.drew.cell? p9 = some c9) (hne : p0.block ≠ B ∧ p1.block ≠ B ∧ p2.block ≠ B ∧ p3.block ≠ B ∧ p4.block ≠ B ∧ p5.block ≠ B ∧ p6.block ≠ B ∧ p7.block ≠ B ∧ p8.block ≠ B ∧ p9.block ≠ B) : ((((W.setCell ⟨B, 0, none⟩ v0).setCell ⟨B, 1, none⟩ v1).setCell ⟨B, 2, none⟩ v2).setCell ⟨B, 3, none⟩ v3).drew.cell? p0 = some c0 ∧ ((((W.setCell ⟨B, 0, none⟩ v0).setCell ⟨B, 1, none⟩ v1).setCell ⟨B, 2, none⟩ v2).setCell ⟨B, 3, none⟩ v3).drew.cell? p1 = some c1 ∧ ((((W.setCell ⟨B, 0, none⟩ v0).setCell ⟨B, 1, none⟩ v1).setCell ⟨B, 2, none⟩ v2).setCell ⟨B, 3, none⟩ v3).drew.cell? p2 = some c2 ∧ ((((W.setCell ⟨B, 0, none⟩ v0).setCell ⟨B, 1, none⟩ v1).setCell ⟨B, 2, none⟩ v2).setCell ⟨B, 3, none⟩ v3).drew.cell? p3 = some c3 ∧ ((((W.setCell ⟨B, 0, none⟩ v0).setCell ⟨B, 1, none⟩ v1).setCell ⟨B, 2, none⟩ v2).setCell ⟨B, 3, none⟩ v3).drew.cell? p4 = some c4 ∧ ((((W.setCell ⟨B, 0, none⟩ v0).setCell ⟨B, 1, none⟩ v1).setCell ⟨B, 2, none⟩ v2).setCell ⟨B, 3, none⟩ v3).drew.cell? p5 = some c5 ∧ ((((W.setCell ⟨B, 0, none⟩ v0).setCell ⟨B, 1, none⟩ v1).setCell ⟨B, 2, none⟩ v2).setCell ⟨B, 3, none⟩ v3).drew.cell? p6 = some c6 ∧ ((((W.setCell ⟨B, 0, none⟩ v0).setCell ⟨B, 1, none⟩ v1).setCell ⟨B, 2, none⟩ v2).setCell ⟨B, 3, none⟩ v3).drew.cell? p7 = some c7 ∧ ((((W.setCell ⟨B, 0, none⟩ v0).setCell ⟨B, 1, none⟩ v1).setCell ⟨B, 2, none⟩ v2).setCell ⟨B, 3, none⟩ v3).drew.cell? p8 = some c8 ∧ ((((W.setCell ⟨B, 0, none⟩ v0).setCell ⟨B, 1, none⟩ v1).setCell ⟨B, 2, none⟩ v2).setCell ⟨B, 3, none⟩ v3).drew.cell? p9 = some c9 := by
  obtain ⟨h0, h1, h2, h3, h4, h5, h6, h7, h8, h9⟩ := h
  obtain ⟨n0, n1, n2, n3, n4, n5, n6, n7, n8, n9⟩ := hne
  exact ⟨pr_one v0 v1 v2 v3 h0 n0, pr_one v0 v1 v2 v3 h1 n1, pr_one v0 v1 v2 v3 h2 n2, pr_one v0 v1 v2 v3 h3 n3, pr_one v0 v1 v2 v3 h4 n4, pr_one v0 v1 v2 v3 h5 n5, pr_one v0 v1 v2 v3 h6 n6, pr_one v0 v1 v2 v3 h7 n7, pr_one v0 v1 v2 v3 h8 n8, pr_one v0 v1 v2 v3 h9 n9⟩
theorem results_cct {fn : Func} {a b d : Tmp} (hfn : fn.results = #[.cell a 24, .cell b 24, .tmp d]) {tmps : Array Value} {w : World} {A B : Nat} {v0 v1 v2 v3 u0 u1 u2 u3 y : Value} (h : tmps.getD a undef = .pointer (some ⟨A, 0, none⟩)) (hu : tmps.getD b undef = .pointer (some ⟨B, 0, none⟩)) (hy : tmps.getD d undef = y)
    (ha : B4 w A v0 v1 v2 v3) (hb : B4 w B u0 u1 u2 u3) :
    (results fn tmps).run Try.prog w = .ok (.tuple #[.agg #[v0, v1, v2, v3], .agg #[u0, u1, u2, u3], y]) w := by
  have h' : tmps[a]?.getD undef = .pointer (some ⟨A, 0, none⟩) := by rw [← h]; simp
  have hu' : tmps[b]?.getD undef = .pointer (some ⟨B, 0, none⟩) := by rw [← hu]; simp
  have hy' : tmps[d]?.getD undef = y := by rw [← hy]; simp
  obtain ⟨c0, c1, c2, c3⟩ := ha.cells
  obtain ⟨d0, d1, d2, d3⟩ := hb.cells
  simp [results, hfn, h', hu', hy', c0, c1, c2, c3, d0, d1, d2, d3, go_sem]
/-- a type's box, and two results' -/
structure Pr3 (w W : World) (a0 a1 a2 a3 : Value) : Prop where
  below : Below w.heap.size w W
  t : B4 W w.heap.size a0 a1 a2 a3
  r : B4 W (w.heap.size + 1) (.int .i64 0) (.int .i64 0) (.string ⟨#[]⟩) (.slice none 0 0)
  s : B4 W (w.heap.size + 2) (.int .i64 0) (.int .i64 0) (.string ⟨#[]⟩) (.slice none 0 0)
theorem Pr3.new (w : World) (a0 a1 a2 a3 : Value) : Pr3 w (((w.alloc (Obj.cells #[a0, a1, a2, a3] 24)).alloc (Obj.cells #[.int .i64 0, .int .i64 0, .string ⟨#[]⟩, .slice none 0 0] 24)).alloc (Obj.cells #[.int .i64 0, .int .i64 0, .string ⟨#[]⟩, .slice none 0 0] 24)) a0 a1 a2 a3 := by
  have h := Three.new w a0 a1 a2 a3 (.int .i64 0) (.int .i64 0) (.string ⟨#[]⟩) (.slice none 0 0)
  exact ⟨h.below, h.ba, h.bb, h.br⟩
theorem Pr3.next {w W W' : World} {a0 a1 a2 a3 : Value} (h : Pr3 w W a0 a1 a2 a3) (hb : Below W.heap.size W W') : Pr3 w W' a0 a1 a2 a3 := ⟨h.below.trans (hb.mono h.below.size), h.t.next hb, h.r.next hb, h.s.next hb⟩
/-- nothing of the kind -/
def PairNo (w : World) (e : Ending) (w' : World) : Prop := e = .returned (.tuple #[zeroV, zeroV, .bool false]) ∧ Below w.heap.size w w'
/-- an argument and a result -/
def PairYes (a r : Ty) (w0 w : World) (e : Ending) (w' : World) : Prop := ∃ va vr, e = .returned (.tuple #[va, vr, .bool true]) ∧ V w0 a va ∧ V w0 r vr ∧ Below w.heap.size w w'
theorem pr3_none {w W : World} {a0 a1 a2 a3 : Value} (h : Pr3 w W a0 a1 a2 a3) : B4 (put4 (put4 W (w.heap.size + 1) (.int .i64 0) (.int .i64 0) (.string ⟨#[]⟩) (.slice none 0 0)) (w.heap.size + 2) (.int .i64 0) (.int .i64 0) (.string ⟨#[]⟩) (.slice none 0 0)) (w.heap.size + 1) (.int .i64 0) (.int .i64 0) (.string ⟨#[]⟩) (.slice none 0 0) ∧ B4 (put4 (put4 W (w.heap.size + 1) (.int .i64 0) (.int .i64 0) (.string ⟨#[]⟩) (.slice none 0 0)) (w.heap.size + 2) (.int .i64 0) (.int .i64 0) (.string ⟨#[]⟩) (.slice none 0 0)) (w.heap.size + 2) (.int .i64 0) (.int .i64 0) (.string ⟨#[]⟩) (.slice none 0 0) ∧ Below w.heap.size w (put4 (put4 W (w.heap.size + 1) (.int .i64 0) (.int .i64 0) (.string ⟨#[]⟩) (.slice none 0 0)) (w.heap.size + 2) (.int .i64 0) (.int .i64 0) (.string ⟨#[]⟩) (.slice none 0 0)) :=
  ⟨(put4_other (by omega) _ _ _ _).trans (put4_cells h.r _ _ _ _), put4_cells ((put4_other (by omega) _ _ _ _).trans h.s) _ _ _ _, below_put4 (below_put4 h.below (by omega) _ _ _ _) (by omega) _ _ _ _⟩

theorem pr3_two {w W : World} {a0 a1 a2 a3 : Value} (h : Pr3 w W a0 a1 a2 a3) (v0 v1 v2 v3 u0 u1 u2 u3 : Value) : B4 (put4 (put4 W (w.heap.size + 1) v0 v1 v2 v3) (w.heap.size + 2) u0 u1 u2 u3).drew (w.heap.size + 1) v0 v1 v2 v3 ∧ B4 (put4 (put4 W (w.heap.size + 1) v0 v1 v2 v3) (w.heap.size + 2) u0 u1 u2 u3).drew (w.heap.size + 2) u0 u1 u2 u3 ∧ Below w.heap.size w (put4 (put4 W (w.heap.size + 1) v0 v1 v2 v3) (w.heap.size + 2) u0 u1 u2 u3).drew := by
  have k1 : B4 (put4 (put4 W (w.heap.size + 1) v0 v1 v2 v3) (w.heap.size + 2) u0 u1 u2 u3) (w.heap.size + 1) v0 v1 v2 v3 := (put4_other (by omega) _ _ _ _).trans (put4_cells h.r _ _ _ _)
  have k0 : B4 (put4 W (w.heap.size + 1) v0 v1 v2 v3) (w.heap.size + 2) (.int .i64 0) (.int .i64 0) (.string ⟨#[]⟩) (.slice none 0 0) := (put4_other (by omega) _ _ _ _).trans h.s
  have k2 := put4_cells k0 u0 u1 u2 u3
  have k3 := below_put4 (B := w.heap.size + 2) (below_put4 (B := w.heap.size + 1) h.below (by omega) v0 v1 v2 v3) (by omega) u0 u1 u2 u3
  clear k0
  generalize put4 (put4 W (w.heap.size + 1) v0 v1 v2 v3) (w.heap.size + 2) u0 u1 u2 u3 = V at *
  exact ⟨k1.next (Below.refl _ _).drew, k2.next (Below.refl _ _).drew, k3.drew⟩
theorem pr3_put {w W : World} {a0 a1 a2 a3 : Value} (h : Pr3 w W a0 a1 a2 a3) (v0 v1 v2 v3 u0 u1 u2 u3 : Value) : B4 (put4 (put4 W (w.heap.size + 1) v0 v1 v2 v3) (w.heap.size + 2) u0 u1 u2 u3) (w.heap.size + 1) v0 v1 v2 v3 ∧ B4 (put4 (put4 W (w.heap.size + 1) v0 v1 v2 v3) (w.heap.size + 2) u0 u1 u2 u3) (w.heap.size + 2) u0 u1 u2 u3 ∧ Below w.heap.size w (put4 (put4 W (w.heap.size + 1) v0 v1 v2 v3) (w.heap.size + 2) u0 u1 u2 u3) := by
  have k1 : B4 (put4 (put4 W (w.heap.size + 1) v0 v1 v2 v3) (w.heap.size + 2) u0 u1 u2 u3) (w.heap.size + 1) v0 v1 v2 v3 := (put4_other (by omega) _ _ _ _).trans (put4_cells h.r _ _ _ _)
  have k0 : B4 (put4 W (w.heap.size + 1) v0 v1 v2 v3) (w.heap.size + 2) (.int .i64 0) (.int .i64 0) (.string ⟨#[]⟩) (.slice none 0 0) := (put4_other (by omega) _ _ _ _).trans h.s
  have k2 := put4_cells k0 u0 u1 u2 u3
  have k3 := below_put4 (B := w.heap.size + 2) (below_put4 (B := w.heap.size + 1) h.below (by omega) v0 v1 v2 v3) (by omega) u0 u1 u2 u3
  exact ⟨k1, k2, k3⟩

set_option maxHeartbeats 8000000 in
theorem pair_no (t : Ty) (hg : Good t) (hf : isFun t = false) (v : Value) (w : World) (hv : V w t v) : Calls Try.prog 125 #[v, .string ⟨#[45, 62]⟩] w (PairNo w) := by
  obtain ⟨b, c, ev, _, hsl⟩ := hv
  subst ev
  have HP := Lib.hid (Pr3.new w (.int .i64 t.op) (.int .i64 t.n) (.string t.name) (.slice b t.args.length c))
  go_enter Try.func125, Try.ntmps125
  go_upto_region 1 with fail
  obtain ⟨W1, hW1⟩ : ∃ W1, W1 = ((w.alloc (Obj.cells #[.int .i64 t.op, .int .i64 t.n, .string t.name, .slice b t.args.length c] 24)).alloc (Obj.cells #[.int .i64 0, .int .i64 0, .string ⟨#[]⟩, .slice none 0 0] 24)).alloc (Obj.cells #[.int .i64 0, .int .i64 0, .string ⟨#[]⟩, .slice none 0 0] 24) := ⟨_, rfl⟩
  rw [← hW1] at HP ⊢
  clear hW1
  obtain ⟨b0, _, _, b3⟩ := HP.out.t.cells
  by_cases h3 : t.op = 3
  · cases hg with
    | var op n h1 h2 h4 => exact absurd h3 (show op ≠ 3 by omega)
    | con s h1 h2 => exact absurd h3 (show (2 : Int) ≠ 3 by decide)
    | node op f x hop hf1 hx =>
      have e3 : op = 3 := h3
      subst e3
      rcases hsl.2 with h0 | ⟨g, o, hbg, hrow⟩
      · cases h0
      subst hbg
      obtain ⟨hrf, hrx, _⟩ := hrow
      obtain ⟨fb, fc, f0, f1, f2, f3, hvf⟩ := at_v hrf
      have F0 := keeps HP.out.below _ _ f0
      have F3 := keeps HP.out.below _ _ f3
      clear f0 f1 f2 f3 hrx h3 hop
      replace b0 : W1.cell? ⟨w.heap.size, 0, none⟩ = some (.int .i64 3) := b0
      replace b3 : W1.cell? ⟨w.heap.size, 3, none⟩ = some (.slice (some ⟨g, o, none⟩) 2 c) := b3
      by_cases hf3 : f.op = 3
      · cases hf1 with
        | var op n h1 h2 h4 => exact absurd hf3 (show op ≠ 3 by omega)
        | con s h1 h2 => exact absurd hf3 (show (2 : Int) ≠ 3 by decide)
        | node op2 k a hop2 hk ha =>
          have e3 : op2 = 3 := hf3
          subst e3
          obtain ⟨b2, c2, e2, _, hsl2⟩ := hvf
          simp only [Value.agg.injEq, Array.mk.injEq, List.cons.injEq, Value.slice.injEq, true_and, and_true] at e2
          obtain ⟨e2, -⟩ := e2
          subst e2
          rcases hsl2.2 with h0 | ⟨g2, o2, hbg, hrow2⟩
          · cases h0
          subst hbg
          obtain ⟨hrk, _, _⟩ := hrow2
          obtain ⟨kb, kc, k0, k1, k2, k3, _⟩ := at_v hrk
          have K0 := keeps HP.out.below _ _ k0
          have K1 := keeps HP.out.below _ _ k1
          have K2 := keeps HP.out.below _ _ k2
          have K3 := keeps HP.out.below _ _ k3
          replace F0 : W1.cell? ⟨g, o, none⟩ = some (.int .i64 3) := F0
          replace F3 : W1.cell? ⟨g, o + 3, none⟩ = some (.slice (some ⟨g2, o2, none⟩) 2 fc) := F3
          rw [isFun_eq, ← name_is] at hf
          generalize k.op = ko at *
          generalize k.name = kn at *
          generalize k.n = kx at *
          generalize k.args.length = kl at *
          clear k0 k1 k2 k3 hf3 hop2 hrk hsl2 hrf hsl
          go_upto_region 4 with fail
          obtain ⟨W2, hW2⟩ : ∃ W2, W2 = W1.alloc (Obj.cells #[.int .i64 ko, .int .i64 kx, .string kn, .slice kb kl kc] 24) := ⟨_, rfl⟩
          obtain ⟨B7, hB7⟩ : ∃ B7, B7 = W1.heap.size := ⟨_, rfl⟩
          have ht2 : B4 W2 B7 (.int .i64 ko) (.int .i64 kx) (.string kn) (.slice kb kl kc) := by rw [hW2, hB7]; exact heap_alloc_new _ _
          have HP2 : Hid (Pr3 w W2 _ _ _ _) := Lib.hid (HP.out.next (by rw [hW2]; exact (Below.refl _ _).alloc (Nat.le_refl _) _))
          rw [← hW2, ← hB7]
          obtain ⟨m0, m1, m2, m3⟩ := ht2.cells
          obtain ⟨r0, r1, r2, r3⟩ := HP2.out.r.cells
          obtain ⟨s0, s1, s2, s3⟩ := HP2.out.s.cells
          have x0 := HP2.out.r.frozen 0
          have x1 := HP2.out.r.frozen 1
          have x2 := HP2.out.r.frozen 2
          have x3 := HP2.out.r.frozen 3
          have y0 := HP2.out.s.frozen 0
          have y1 := HP2.out.s.frozen 1
          have y2 := HP2.out.s.frozen 2
          have y3 := HP2.out.s.frozen 3
          clear hW2 hB7 ht2 b0 b3 K0 K1 K2 K3 F0 F3 HP
          cases q1 : (ko == 2) with
          | false =>
            have q1' : (ko != 2) = true := by simpa using q1
            clear q1 hf
            go_wp2_with fail
            obtain ⟨n1, n2, n3⟩ := pr3_none HP2.out
            refine bodyPost_ret (results_cct (a := 4) (b := 5) (d := 6) (by kernel_rfl) (by rfl) (by rfl) (by rfl) n1 n2) rfl ?_
            exact ⟨rfl, n3⟩
          | true =>
            have q1' : (ko != 2) = false := by simpa using q1
            rw [q1, Bool.true_and] at hf
            have hf' : (kn.toList == [45, 62]) = false := by rwa [show (⟨#[45, 62]⟩ : ByteArray).toList = [45, 62] from by rw [Lib.toList_data]] at hf
            clear q1 hf
            go_wp2_with fail
            obtain ⟨n1, n2, n3⟩ := pr3_none HP2.out
            refine bodyPost_ret (results_cct (a := 4) (b := 5) (d := 6) (by kernel_rfl) (by rfl) (by rfl) (by rfl) n1 n2) rfl ?_
            exact ⟨rfl, n3⟩
      · generalize f.op = fo at *
        have q1 : (fo != 3) = true := by simpa using hf3
        obtain ⟨r0, r1, r2, r3⟩ := HP.out.r.cells
        obtain ⟨s0, s1, s2, s3⟩ := HP.out.s.cells
        have x0 := HP.out.r.frozen 0
        have x1 := HP.out.r.frozen 1
        have x2 := HP.out.r.frozen 2
        have x3 := HP.out.r.frozen 3
        have y0 := HP.out.s.frozen 0
        have y1 := HP.out.s.frozen 1
        have y2 := HP.out.s.frozen 2
        have y3 := HP.out.s.frozen 3
        clear hf3 hvf hrf hsl hf
        go_wp2_with fail
        obtain ⟨n1, n2, n3⟩ := pr3_none HP.out
        refine bodyPost_ret (results_cct (a := 4) (b := 5) (d := 6) (by kernel_rfl) (by rfl) (by rfl) (by rfl) n1 n2) rfl ?_
        exact ⟨rfl, n3⟩
  · generalize t.op = to at *
    have q1 : (to != 3) = true := by simpa using h3
    obtain ⟨r0, r1, r2, r3⟩ := HP.out.r.cells
    obtain ⟨s0, s1, s2, s3⟩ := HP.out.s.cells
    have x0 := HP.out.r.frozen 0
    have x1 := HP.out.r.frozen 1
    have x2 := HP.out.r.frozen 2
    have x3 := HP.out.r.frozen 3
    have y0 := HP.out.s.frozen 0
    have y1 := HP.out.s.frozen 1
    have y2 := HP.out.s.frozen 2
    have y3 := HP.out.s.frozen 3
    clear h3 hsl hf
    go_wp2_with fail
    obtain ⟨n1, n2, n3⟩ := pr3_none HP.out
    refine bodyPost_ret (results_cct (a := 4) (b := 5) (d := 6) (by kernel_rfl) (by rfl) (by rfl) (by rfl) n1 n2) rfl ?_
    exact ⟨rfl, n3⟩

set_option maxHeartbeats 8000000 in
theorem pair_yes (k a x : Ty) (hf : isFun (.mk 3 0 [] [.mk 3 0 [] [k, a], x]) = true) (v : Value) (w0 w : World) (hv : V w0 (.mk 3 0 [] [.mk 3 0 [] [k, a], x]) v) (hb0 : Below w0.heap.size w0 w) : Calls Try.prog 125 #[v, .string ⟨#[45, 62]⟩] w (PairYes a x w0 w) := by
  obtain ⟨b, c, ev, _, hsl⟩ := hv
  subst ev
  have HP := Lib.hid (Pr3.new w (.int .i64 3) (.int .i64 0) (.string ⟨#[]⟩) (.slice b 2 c))
  go_enter Try.func125, Try.ntmps125
  go_upto_region 1 with fail
  obtain ⟨W1, hW1⟩ : ∃ W1, W1 = ((w.alloc (Obj.cells #[.int .i64 3, .int .i64 0, .string ⟨#[]⟩, .slice b 2 c] 24)).alloc (Obj.cells #[.int .i64 0, .int .i64 0, .string ⟨#[]⟩, .slice none 0 0] 24)).alloc (Obj.cells #[.int .i64 0, .int .i64 0, .string ⟨#[]⟩, .slice none 0 0] 24) := ⟨_, rfl⟩
  rw [← hW1] at HP
  replace hW1 := hW1.symm
  change ((w.alloc (Obj.cells #[.int .i64 (Ty.mk 3 0 [] [.mk 3 0 [] [k, a], x]).op, .int .i64 (Ty.mk 3 0 [] [.mk 3 0 [] [k, a], x]).n, .string (Ty.mk 3 0 [] [.mk 3 0 [] [k, a], x]).name, .slice b (Ty.mk 3 0 [] [.mk 3 0 [] [k, a], x]).args.length c] 24)).alloc (Obj.cells #[.int .i64 0, .int .i64 0, .string ⟨#[]⟩, .slice none 0 0] 24)).alloc (Obj.cells #[.int .i64 0, .int .i64 0, .string ⟨#[]⟩, .slice none 0 0] 24) = W1 at hW1
  rw [hW1]
  clear hW1
  obtain ⟨b0, _, _, b3⟩ := HP.out.t.cells
  rcases hsl.2 with h0 | ⟨g, o, hbg, hrow⟩
  · cases h0
  subst hbg
  have hg1 := row_lt hrow (by simp [args])
  obtain ⟨hrf, hrx, _⟩ := hrow
  obtain ⟨fb, fc, f0, f1, f2, f3, hvf⟩ := at_v hrf
  obtain ⟨xb, xc, x0, x1, x2, x3, hvx⟩ := at_v hrx
  have F0 := keeps HP.out.below _ _ (keeps hb0 _ _ f0)
  have F3 := keeps HP.out.below _ _ (keeps hb0 _ _ f3)
  obtain ⟨b2, c2, e2, _, hsl2⟩ := hvf
  simp only [Value.agg.injEq, Array.mk.injEq, List.cons.injEq, Value.slice.injEq, true_and, and_true] at e2
  obtain ⟨e2, -⟩ := e2
  subst e2
  rcases hsl2.2 with h0 | ⟨g2, o2, hbg, hrow2⟩
  · cases h0
  subst hbg
  have hg2 := row_lt hrow2 (by simp [args])
  obtain ⟨hrk, hra, _⟩ := hrow2
  obtain ⟨kb, kc, k0, k1, k2, k3, _⟩ := at_v hrk
  obtain ⟨ab, ac, a0, a1, a2, a3, hva⟩ := at_v hra
  have K0 := keeps HP.out.below _ _ (keeps hb0 _ _ k0)
  have K1 := keeps HP.out.below _ _ (keeps hb0 _ _ k1)
  have K2 := keeps HP.out.below _ _ (keeps hb0 _ _ k2)
  have K3 := keeps HP.out.below _ _ (keeps hb0 _ _ k3)
  replace F0 : W1.cell? ⟨g, o, none⟩ = some (.int .i64 3) := F0
  replace F3 : W1.cell? ⟨g, o + 3, none⟩ = some (.slice (some ⟨g2, o2, none⟩) 2 fc) := F3
  rw [isFun_eq, ← name_is, Bool.and_eq_true] at hf
  obtain ⟨q1, q2⟩ := hf
  have HVA := Lib.hid hva
  have HVX := Lib.hid hvx
  have HG : Hid (g < w.heap.size ∧ g2 < w.heap.size) := Lib.hid ⟨Nat.lt_of_lt_of_le hg1 hb0.size, Nat.lt_of_lt_of_le hg2 hb0.size⟩
  have X := Lib.hid (show w.cell? ⟨g, o + 4, none⟩ = _ ∧ w.cell? ⟨g, o + 4 + 1, none⟩ = _ ∧ w.cell? ⟨g, o + 4 + 2, none⟩ = _ ∧ w.cell? ⟨g, o + 4 + 3, none⟩ = _ from ⟨keeps hb0 _ _ x0, keeps hb0 _ _ x1, keeps hb0 _ _ x2, keeps hb0 _ _ x3⟩)
  have A := Lib.hid (show w.cell? ⟨g2, o2 + 4, none⟩ = _ ∧ w.cell? ⟨g2, o2 + 4 + 1, none⟩ = _ ∧ w.cell? ⟨g2, o2 + 4 + 2, none⟩ = _ ∧ w.cell? ⟨g2, o2 + 4 + 3, none⟩ = _ from ⟨keeps hb0 _ _ a0, keeps hb0 _ _ a1, keeps hb0 _ _ a2, keeps hb0 _ _ a3⟩)
  generalize k.op = ko at *
  generalize k.name = kn at *
  generalize k.n = kx at *
  generalize k.args.length = kl at *
  clear k0 k1 k2 k3 f0 f1 f2 f3 x0 x1 x2 x3 a0 a1 a2 a3 hrk hra hsl2 hrf hrx hsl hva hvx
  go_upto_region 4 with fail
  obtain ⟨W2, hW2⟩ : ∃ W2, W2 = W1.alloc (Obj.cells #[.int .i64 ko, .int .i64 kx, .string kn, .slice kb kl kc] 24) := ⟨_, rfl⟩
  obtain ⟨B7, hB7⟩ : ∃ B7, B7 = W1.heap.size := ⟨_, rfl⟩
  have ht2 : B4 W2 B7 (.int .i64 ko) (.int .i64 kx) (.string kn) (.slice kb kl kc) := by rw [hW2, hB7]; exact heap_alloc_new _ _
  have HP2 : Hid (Pr3 w W2 _ _ _ _) := Lib.hid (HP.out.next (by rw [hW2]; exact (Below.refl _ _).alloc (Nat.le_refl _) _))
  have F32 : W2.cell? ⟨g, o + 3, none⟩ = some (.slice (some ⟨g2, o2, none⟩) 2 fc) := keeps (by rw [hW2]; exact (Below.refl _ _).alloc (Nat.le_refl _) _ : Below W1.heap.size W1 W2) _ _ F3
  rw [← hW2, ← hB7]
  clear hW2 hB7 b0 b3 K0 K1 K2 K3 F0 F3 HP hg1 hg2
  obtain ⟨m0, m1, m2, m3⟩ := ht2.cells
  have q1' : (ko != 2) = false := by simpa using q1
  have q2' : (kn.toList == [45, 62]) = true := by rwa [show (⟨#[45, 62]⟩ : ByteArray).toList = [45, 62] from by rw [Lib.toList_data]] at q2
  clear q1 q2
  go_upto_region 6 with fail
  clear m0 m1 m2 m3 q1' q2' ht2
  have hbd : Below W2.heap.size W2 W2.drew := (Below.refl _ _).drew
  have b3 := keeps hbd _ _ HP2.out.t.cells.2.2.2
  have F3 := keeps hbd _ _ F32
  have A0 := keeps HP2.out.below.drew _ _ A.out.1
  have A1 := keeps HP2.out.below.drew _ _ A.out.2.1
  have A2 := keeps HP2.out.below.drew _ _ A.out.2.2.1
  have A3 := keeps HP2.out.below.drew _ _ A.out.2.2.2
  have R0 := keeps HP2.out.below.drew _ _ X.out.1
  have R1 := keeps HP2.out.below.drew _ _ X.out.2.1
  have R2 := keeps HP2.out.below.drew _ _ X.out.2.2.1
  have R3 := keeps HP2.out.below.drew _ _ X.out.2.2.2
  obtain ⟨r0, r1, r2, r3⟩ := HP2.out.r.cells
  obtain ⟨s0, s1, s2, s3⟩ := HP2.out.s.cells
  have x0 := HP2.out.r.frozen 0
  have x1 := HP2.out.r.frozen 1
  have x2 := HP2.out.r.frozen 2
  have x3 := HP2.out.r.frozen 3
  have y0 := HP2.out.s.frozen 0
  have y1 := HP2.out.s.frozen 1
  have y2 := HP2.out.s.frozen 2
  have y3 := HP2.out.s.frozen 3
  have hne1 : w.heap.size ≠ w.heap.size + 1 ∧ g ≠ w.heap.size + 1 ∧ g2 ≠ w.heap.size + 1 := by have := HG.out; omega
  have hne2 : w.heap.size ≠ w.heap.size + 2 ∧ g ≠ w.heap.size + 2 ∧ g2 ≠ w.heap.size + 2 := by have := HG.out; omega
  clear hbd F32
  go_region_held3 (fun W => W.cell? ⟨w.heap.size, 3, none⟩ = some (.slice (some ⟨g, o, none⟩) 2 c) ∧ W.cell? ⟨g, o + 3, none⟩ = some (.slice (some ⟨g2, o2, none⟩) 2 fc) ∧ W.cell? ⟨g2, o2 + 4, none⟩ = some (.int .i64 a.op) ∧ W.cell? ⟨g2, o2 + 4 + 1, none⟩ = some (.int .i64 a.n) ∧ W.cell? ⟨g2, o2 + 4 + 2, none⟩ = some (.string a.name) ∧ W.cell? ⟨g2, o2 + 4 + 3, none⟩ = some (.slice ab a.args.length ac) ∧ W.cell? ⟨g, o + 4, none⟩ = some (.int .i64 x.op) ∧ W.cell? ⟨g, o + 4 + 1, none⟩ = some (.int .i64 x.n) ∧ W.cell? ⟨g, o + 4 + 2, none⟩ = some (.string x.name) ∧ W.cell? ⟨g, o + 4 + 3, none⟩ = some (.slice xb x.args.length xc))
    (first | (with_reducible exact ⟨b3, F3, A0, A1, A2, A3, R0, R1, R2, R3⟩) | (with_reducible assumption) | ((with_reducible refine pr_put (B := w.heap.size + 1) _ _ _ _ ?_ ⟨hne1.1, hne1.2.1, hne1.2.2, hne1.2.2, hne1.2.2, hne1.2.2, hne1.2.1, hne1.2.1, hne1.2.1, hne1.2.1⟩); assumption) | ((with_reducible refine pr_put (B := w.heap.size + 2) _ _ _ _ ?_ ⟨hne2.1, hne2.2.1, hne2.2.2, hne2.2.2, hne2.2.2, hne2.2.2, hne2.2.1, hne2.2.1, hne2.2.1, hne2.2.1⟩); assumption))
    (fail)
  all_goals
    go_wp2_with fail
    obtain ⟨n1, n2, n3⟩ := pr3_two HP2.out (.int .i64 a.op) (.int .i64 a.n) (.string a.name) (.slice ab a.args.length ac) (.int .i64 x.op) (.int .i64 x.n) (.string x.name) (.slice xb x.args.length xc)
    refine bodyPost_ret (results_cct (a := 4) (b := 5) (d := 6) (by kernel_rfl) (by rfl) (by rfl) (by rfl) n1 n2) rfl ?_
    exact ⟨_, _, rfl, HVA.out, HVX.out, n3⟩


set_option maxHeartbeats 8000000 in
theorem split_no (t : Ty) (hg : Good t) (hf : isFun t = false) (v : Value) (w : World) (hv : V w t v) : Calls Try.prog 108 #[v] w (PairNo w) := by
  have hc := fun (W : World) (hb : Below w.heap.size w W) => pair_no t hg hf v W (hv.next hb)
  have HC := Lib.hid hc
  obtain ⟨b, c, ev, _, _⟩ := hv
  subst ev
  have HP := Lib.hid (Pr3.new w (.int .i64 t.op) (.int .i64 t.n) (.string t.name) (.slice b t.args.length c))
  clear hc hf
  go_enter Try.func108, Try.ntmps108
  go_upto_region 1 with fail
  obtain ⟨W1, hW1⟩ : ∃ W1, W1 = ((w.alloc (Obj.cells #[.int .i64 t.op, .int .i64 t.n, .string t.name, .slice b t.args.length c] 24)).alloc (Obj.cells #[.int .i64 0, .int .i64 0, .string ⟨#[]⟩, .slice none 0 0] 24)).alloc (Obj.cells #[.int .i64 0, .int .i64 0, .string ⟨#[]⟩, .slice none 0 0] 24) := ⟨_, rfl⟩
  rw [← hW1] at HP ⊢
  clear hW1
  obtain ⟨b0, b1, b2, b3⟩ := HP.out.t.cells
  go_wp2_with fail
  refine (HC.out W1 HP.out.below).mono ?_
  rintro e w2 ⟨rfl, hb⟩
  have HP2 := Lib.hid (HP.out.next hb)
  clear hb b0 b1 b2 b3 HP HC
  obtain ⟨r0, r1, r2, r3⟩ := HP2.out.r.cells
  obtain ⟨s0, s1, s2, s3⟩ := HP2.out.s.cells
  have x0 := HP2.out.r.frozen 0
  have x1 := HP2.out.r.frozen 1
  have x2 := HP2.out.r.frozen 2
  have x3 := HP2.out.r.frozen 3
  have y0 := HP2.out.s.frozen 0
  have y1 := HP2.out.s.frozen 1
  have y2 := HP2.out.s.frozen 2
  have y3 := HP2.out.s.frozen 3
  go_wp2_with fail
  obtain ⟨n1, n2, n3⟩ := pr3_none HP2.out
  refine bodyPost_ret (results_cct (a := 2) (b := 3) (d := 4) (by kernel_rfl) (by rfl) (by rfl) (by rfl) n1 n2) rfl ?_
  exact ⟨rfl, n3⟩

set_option maxHeartbeats 8000000 in
theorem split_yes (k a x : Ty) (hf : isFun (.mk 3 0 [] [.mk 3 0 [] [k, a], x]) = true) (v : Value) (w0 w : World) (hv : V w0 (.mk 3 0 [] [.mk 3 0 [] [k, a], x]) v) (hb0 : Below w0.heap.size w0 w) : Calls Try.prog 108 #[v] w (PairYes a x w0 w) := by
  have hc := fun (W : World) (hb : Below w.heap.size w W) => pair_yes k a x hf v w0 W hv (hb0.trans (hb.mono hb0.size))
  have HC := Lib.hid hc
  obtain ⟨t, ht⟩ : ∃ t : Ty, t = .mk 3 0 [] [.mk 3 0 [] [k, a], x] := ⟨_, rfl⟩
  rw [← ht] at hv
  obtain ⟨b, c, ev, _, _⟩ := hv
  subst ev
  have HP := Lib.hid (Pr3.new w (.int .i64 t.op) (.int .i64 t.n) (.string t.name) (.slice b t.args.length c))
  clear hc hf ht hb0
  go_enter Try.func108, Try.ntmps108
  go_upto_region 1 with fail
  obtain ⟨W1, hW1⟩ : ∃ W1, W1 = ((w.alloc (Obj.cells #[.int .i64 t.op, .int .i64 t.n, .string t.name, .slice b t.args.length c] 24)).alloc (Obj.cells #[.int .i64 0, .int .i64 0, .string ⟨#[]⟩, .slice none 0 0] 24)).alloc (Obj.cells #[.int .i64 0, .int .i64 0, .string ⟨#[]⟩, .slice none 0 0] 24) := ⟨_, rfl⟩
  rw [← hW1] at HP ⊢
  clear hW1
  obtain ⟨b0, b1, b2, b3⟩ := HP.out.t.cells
  go_wp2_with fail
  refine (HC.out W1 HP.out.below).mono ?_
  rintro e w2 ⟨va, vr, rfl, hva, hvr, hb⟩
  have HVA := Lib.hid hva
  have HVX := Lib.hid hvr
  obtain ⟨ab, ac, rfl, _, _⟩ := hva
  obtain ⟨xb, xc, rfl, _, _⟩ := hvr
  have HP2 := Lib.hid (HP.out.next hb)
  clear hb b0 b1 b2 b3 HP HC
  obtain ⟨r0, r1, r2, r3⟩ := HP2.out.r.cells
  obtain ⟨s0, s1, s2, s3⟩ := HP2.out.s.cells
  have x0 := HP2.out.r.frozen 0
  have x1 := HP2.out.r.frozen 1
  have x2 := HP2.out.r.frozen 2
  have x3 := HP2.out.r.frozen 3
  have y0 := HP2.out.s.frozen 0
  have y1 := HP2.out.s.frozen 1
  have y2 := HP2.out.s.frozen 2
  have y3 := HP2.out.s.frozen 3
  go_wp2_with fail
  obtain ⟨n1, n2, n3⟩ := pr3_put HP2.out (.int .i64 a.op) (.int .i64 a.n) (.string a.name) (.slice ab a.args.length ac) (.int .i64 x.op) (.int .i64 x.n) (.string x.name) (.slice xb x.args.length xc)
  refine bodyPost_ret (results_cct (a := 2) (b := 3) (d := 4) (by kernel_rfl) (by rfl) (by rfl) (by rfl) n1 n2) rfl ?_
  exact ⟨_, _, rfl, HVA.out, HVX.out, n3⟩

set_option maxHeartbeats 8000000 in
theorem rsplit_no (t : Ty) (hg : Good t) (hf : isFun t = false) (v : Value) (w : World) (hv : V w t v) : Calls Try.prog 75 #[v] w (PairNo w) := by
  have hc := fun (W : World) (hb : Below w.heap.size w W) => split_no t hg hf v W (hv.next hb)
  have HC := Lib.hid hc
  obtain ⟨b, c, ev, _, _⟩ := hv
  subst ev
  have HP := Lib.hid (Pr3.new w (.int .i64 t.op) (.int .i64 t.n) (.string t.name) (.slice b t.args.length c))
  clear hc hf
  go_enter Try.func75, Try.ntmps75
  go_upto_region 1 with fail
  obtain ⟨W1, hW1⟩ : ∃ W1, W1 = ((w.alloc (Obj.cells #[.int .i64 t.op, .int .i64 t.n, .string t.name, .slice b t.args.length c] 24)).alloc (Obj.cells #[.int .i64 0, .int .i64 0, .string ⟨#[]⟩, .slice none 0 0] 24)).alloc (Obj.cells #[.int .i64 0, .int .i64 0, .string ⟨#[]⟩, .slice none 0 0] 24) := ⟨_, rfl⟩
  rw [← hW1] at HP ⊢
  clear hW1
  obtain ⟨b0, b1, b2, b3⟩ := HP.out.t.cells
  go_wp2_with fail
  refine (HC.out W1 HP.out.below).mono ?_
  rintro e w2 ⟨rfl, hb⟩
  have HP2 := Lib.hid (HP.out.next hb)
  clear hb b0 b1 b2 b3 HP HC
  obtain ⟨r0, r1, r2, r3⟩ := HP2.out.r.cells
  obtain ⟨s0, s1, s2, s3⟩ := HP2.out.s.cells
  have x0 := HP2.out.r.frozen 0
  have x1 := HP2.out.r.frozen 1
  have x2 := HP2.out.r.frozen 2
  have x3 := HP2.out.r.frozen 3
  have y0 := HP2.out.s.frozen 0
  have y1 := HP2.out.s.frozen 1
  have y2 := HP2.out.s.frozen 2
  have y3 := HP2.out.s.frozen 3
  go_wp2_with fail
  obtain ⟨n1, n2, n3⟩ := pr3_none HP2.out
  refine bodyPost_ret (results_cct (a := 2) (b := 3) (d := 4) (by kernel_rfl) (by rfl) (by rfl) (by rfl) n1 n2) rfl ?_
  exact ⟨rfl, n3⟩

set_option maxHeartbeats 8000000 in
theorem rsplit_yes (k a x : Ty) (hf : isFun (.mk 3 0 [] [.mk 3 0 [] [k, a], x]) = true) (v : Value) (w0 w : World) (hv : V w0 (.mk 3 0 [] [.mk 3 0 [] [k, a], x]) v) (hb0 : Below w0.heap.size w0 w) : Calls Try.prog 75 #[v] w (PairYes a x w0 w) := by
  have hc := fun (W : World) (hb : Below w.heap.size w W) => split_yes k a x hf v w0 W hv (hb0.trans (hb.mono hb0.size))
  have HC := Lib.hid hc
  obtain ⟨t, ht⟩ : ∃ t : Ty, t = .mk 3 0 [] [.mk 3 0 [] [k, a], x] := ⟨_, rfl⟩
  rw [← ht] at hv
  obtain ⟨b, c, ev, _, _⟩ := hv
  subst ev
  have HP := Lib.hid (Pr3.new w (.int .i64 t.op) (.int .i64 t.n) (.string t.name) (.slice b t.args.length c))
  clear hc hf ht hb0
  go_enter Try.func75, Try.ntmps75
  go_upto_region 1 with fail
  obtain ⟨W1, hW1⟩ : ∃ W1, W1 = ((w.alloc (Obj.cells #[.int .i64 t.op, .int .i64 t.n, .string t.name, .slice b t.args.length c] 24)).alloc (Obj.cells #[.int .i64 0, .int .i64 0, .string ⟨#[]⟩, .slice none 0 0] 24)).alloc (Obj.cells #[.int .i64 0, .int .i64 0, .string ⟨#[]⟩, .slice none 0 0] 24) := ⟨_, rfl⟩
  rw [← hW1] at HP ⊢
  clear hW1
  obtain ⟨b0, b1, b2, b3⟩ := HP.out.t.cells
  go_wp2_with fail
  refine (HC.out W1 HP.out.below).mono ?_
  rintro e w2 ⟨va, vr, rfl, hva, hvr, hb⟩
  have HVA := Lib.hid hva
  have HVX := Lib.hid hvr
  obtain ⟨ab, ac, rfl, _, _⟩ := hva
  obtain ⟨xb, xc, rfl, _, _⟩ := hvr
  have HP2 := Lib.hid (HP.out.next hb)
  clear hb b0 b1 b2 b3 HP HC
  obtain ⟨r0, r1, r2, r3⟩ := HP2.out.r.cells
  obtain ⟨s0, s1, s2, s3⟩ := HP2.out.s.cells
  have x0 := HP2.out.r.frozen 0
  have x1 := HP2.out.r.frozen 1
  have x2 := HP2.out.r.frozen 2
  have x3 := HP2.out.r.frozen 3
  have y0 := HP2.out.s.frozen 0
  have y1 := HP2.out.s.frozen 1
  have y2 := HP2.out.s.frozen 2
  have y3 := HP2.out.s.frozen 3
  go_wp2_with fail
  obtain ⟨n1, n2, n3⟩ := pr3_put HP2.out (.int .i64 a.op) (.int .i64 a.n) (.string a.name) (.slice ab a.args.length ac) (.int .i64 x.op) (.int .i64 x.n) (.string x.name) (.slice xb x.args.length xc)
  refine bodyPost_ret (results_cct (a := 2) (b := 3) (d := 4) (by kernel_rfl) (by rfl) (by rfl) (by rfl) n1 n2) rfl ?_
  exact ⟨_, _, rfl, HVA.out, HVX.out, n3⟩

end Ty
end Go.Proofs.Ytkedhnahgpmkaaa
