/- What must does when the kind of a type is known, and when there is none. Conditions: what kind does with the type. -/
import Derived.Test.YtfjgebdpbmnicaaJ26
import Derived.Test.YtfjgebdpbmnicaaJ24
import Derived.Test.YtfjgebdpbmnicaaJ31
import Derived.Deep.RegionHeld2
import Derived.Test.YtfjgebdpbmnicaaJ19
import Derived.Test.YtfjgebdpbmnicaaJ09
namespace Go.Proofs.Ytfjgebdpbmnicaa
open Go.RowKit

namespace Ty
/-- a walker's value -/
def Wk (w : World) (K : KW) (ctx : List Ty) (v : Value) : Prop := ∃ E mb mc rb rc xb xc, v = .agg #[.pointer (some ⟨E, 0, none⟩), .slice mb K.metas.length mc, .slice rb K.rigids.length rc, .slice xb ctx.length xc] ∧
  EnvAt w E K.env ∧ SlG 10 At w mb K.metas ∧ SlG 5 At w rb K.rigids ∧ Sl w xb ctx
theorem Wk.next {w w' : World} (hb : Below w.heap.size w w') {K : KW} {ctx : List Ty} {v : Value} (h : Wk w K ctx v) : Wk w' K ctx v := by
  obtain ⟨E, mb, mc, rb, rc, xb, xc, h0, h1, h2, h3, h4⟩ := h
  exact ⟨E, mb, mc, rb, rc, xb, xc, h0, h1.next hb, SlG.next (R := At) (fun _ _ h _ _ _ => At.next h) hb h2, SlG.next (R := At) (fun _ _ h _ _ _ => At.next h) hb h3, h4.next hb⟩
/-- a box with a walker -/
abbrev W4 (w : World) (m : Nat) (v0 v1 v2 v3 : Value) : Prop := w.heap[m]? = some (Obj.cells #[v0, v1, v2, v3] 61)
theorem W4.cells {w : World} {m : Nat} {v0 v1 v2 v3 : Value} (h : W4 w m v0 v1 v2 v3) : w.cell? ⟨m, 0, none⟩ = some v0 ∧ w.cell? ⟨m, 1, none⟩ = some v1 ∧ w.cell? ⟨m, 2, none⟩ = some v2 ∧ w.cell? ⟨m, 3, none⟩ = some v3 :=
  ⟨cell_of_row w m 0 _ 61 (0, 0) h, cell_of_row w m 1 _ 61 (0, 0) h, cell_of_row w m 2 _ 61 (0, 0) h, cell_of_row w m 3 _ 61 (0, 0) h⟩
theorem W4.frozen {w : World} {m : Nat} {v0 v1 v2 v3 : Value} (h : W4 w m v0 v1 v2 v3) (i : Nat) : w.frozen? ⟨m, i, none⟩ = false := by
  unfold World.frozen?
  rw [show w.heap[m]? = _ from h]
  simp
theorem W4.next {w w' : World} {m : Nat} {v0 v1 v2 v3 : Value} (h : W4 w m v0 v1 v2 v3) (hb : Below w.heap.size w w') : W4 w' m v0 v1 v2 v3 := (hb.block m (lt_of_block h)).trans h
/-- what leaves with an error -/
def failP (c : Int) : Ending := .panicked [{ v := failV c, recovered := false }]
theorem results_nil {fn : Func} (hfn : fn.results = #[]) {tmps : Array Value} {w : World} : (results fn tmps).run Try.prog w = .ok (.tuple #[]) w := by
  simp [results, hfn, go_sem]
/-- a kind is returned, or an error leaves -/
def KndO (ok : Nat → Prop) (r : Res) (w : World) (e : Ending) (w' : World) : Prop := Below w.heap.size w w' ∧ ((∃ c, r = .bad c ∧ c ≠ 0 ∧ e = failP c) ∨ ∃ k v, r = .ok k ∧ Good k ∧ e = .returned v ∧ VO (fun g => ok g ∨ w.heap.size ≤ g) w' k v)
/-- nothing is returned, or an error leaves -/
def MusO (r : Res) (w : World) (e : Ending) (w' : World) : Prop := Below w.heap.size w w' ∧ ((∃ c, r = .bad c ∧ c ≠ 0 ∧ e = failP c) ∨ ∃ k, r = .ok k ∧ e = .returned (.tuple #[]))
theorem knd_fail {ok : Nat → Prop} {r : Res} {c : Int} (hr : r = .bad c) (hc : c ≠ 0) {w w' : World} (hb : Below w.heap.size w w') : KndO ok r w (failP c) w' := ⟨hb, .inl ⟨c, hr, hc, rfl⟩⟩
theorem mus_fail {r : Res} {c : Int} (hr : r = .bad c) (hc : c ≠ 0) {w w' : World} (hb : Below w.heap.size w w') : MusO r w (failP c) w' := ⟨hb, .inl ⟨c, hr, hc, rfl⟩⟩
theorem must_bad' {r n : Res} {c : Int} {k : Ty} (hr : r = .bad c) : mustT r k n = .bad c := by rw [hr]; rfl
theorem must_no {r n : Res} {k k' : Ty} (hr : r = .ok k') (hs : same k' k = false) : mustT r k n = .bad 23 := by rw [hr]; exact if_neg (by rw [hs]; decide)
theorem must_yes {r n : Res} {k k' : Ty} (hr : r = .ok k') (hs : same k' k = true) : mustT r k n = n := by rw [hr]; exact if_pos hs
/-- three boxes: a walker's and two types' -/
structure Mu3 (w W : World) (a0 a1 a2 a3 b0 b1 b2 b3 c0 c1 c2 c3 : Value) : Prop where
  below : Below w.heap.size w W
  wk : W4 W w.heap.size a0 a1 a2 a3
  t : B4 W (w.heap.size + 1) b0 b1 b2 b3
  k : B4 W (w.heap.size + 2) c0 c1 c2 c3
theorem Mu3.new (w : World) (a0 a1 a2 a3 b0 b1 b2 b3 c0 c1 c2 c3 : Value) : Mu3 w (((w.alloc (Obj.cells #[a0, a1, a2, a3] 61)).alloc (Obj.cells #[b0, b1, b2, b3] 36)).alloc (Obj.cells #[c0, c1, c2, c3] 36)) a0 a1 a2 a3 b0 b1 b2 b3 c0 c1 c2 c3 := by
  have e1 : (w.alloc (Obj.cells #[a0, a1, a2, a3] 61)).heap.size = w.heap.size + 1 := by simp
  have e2 : ((w.alloc (Obj.cells #[a0, a1, a2, a3] 61)).alloc (Obj.cells #[b0, b1, b2, b3] 36)).heap.size = w.heap.size + 2 := by simp
  refine ⟨(below_two w _ _).alloc (by simp; omega) _, ?_, ?_, ?_⟩
  · exact (Below.heap_alloc _ _ _ (by rw [e2]; omega)).trans ((Below.heap_alloc _ _ _ (by rw [e1]; omega)).trans (heap_alloc_new w _))
  · have := heap_alloc_new (w.alloc (Obj.cells #[a0, a1, a2, a3] 61)) (Obj.cells #[b0, b1, b2, b3] 36)
    rw [e1] at this
    exact (Below.heap_alloc _ _ _ (by rw [e2]; omega)).trans this
  · have := heap_alloc_new ((w.alloc (Obj.cells #[a0, a1, a2, a3] 61)).alloc (Obj.cells #[b0, b1, b2, b3] 36)) (Obj.cells #[c0, c1, c2, c3] 36)
    rw [e2] at this
    exact this
theorem Mu3.next {w W W' : World} {a0 a1 a2 a3 b0 b1 b2 b3 c0 c1 c2 c3 : Value} (h : Mu3 w W a0 a1 a2 a3 b0 b1 b2 b3 c0 c1 c2 c3) (hb : Below W.heap.size W W') : Mu3 w W' a0 a1 a2 a3 b0 b1 b2 b3 c0 c1 c2 c3 :=
  ⟨h.below.trans (hb.mono h.below.size), h.wk.next hb, h.t.next hb, h.k.next hb⟩
theorem Mu3.drew {w W : World} {a0 a1 a2 a3 b0 b1 b2 b3 c0 c1 c2 c3 : Value} (h : Mu3 w W a0 a1 a2 a3 b0 b1 b2 b3 c0 c1 c2 c3) : Mu3 w W.drew a0 a1 a2 a3 b0 b1 b2 b3 c0 c1 c2 c3 := ⟨h.below.drew, h.wk, h.t, h.k⟩

set_option maxHeartbeats 4000000 in
theorem kmust_any {ok : Nat → Prop} (a0 a1 a2 a3 b0 b1 b2 b3 : Value) (r : Res) (k : Ty) (kv : Value) (w : World) (hk : V w k kv)
    (hc : ∀ W, Below w.heap.size w W → Calls Try.prog 18 #[.agg #[a0, a1, a2, a3], .agg #[b0, b1, b2, b3], .int .i64 0] W (KndO ok r W)) :
    Calls Try.prog 46 #[.agg #[a0, a1, a2, a3], .agg #[b0, b1, b2, b3], kv] w (MusO (mustT r k (.ok zeroT)) w) := by
  have HKV := Lib.hid hk
  have HC := Lib.hid hc
  obtain ⟨b, c, ev, _, _⟩ := hk
  subst ev
  have HM := Lib.hid (Mu3.new w a0 a1 a2 a3 b0 b1 b2 b3 (.int .i64 k.op) (.int .i64 k.n) (.string k.name) (.slice b k.args.length c))
  clear hc
  go_enter Try.func46, Try.ntmps46
  go_upto_region 1 with fail
  obtain ⟨W1, hW1⟩ : ∃ W1, W1 = ((w.alloc (Obj.cells #[a0, a1, a2, a3] 61)).alloc (Obj.cells #[b0, b1, b2, b3] 36)).alloc (Obj.cells #[.int .i64 k.op, .int .i64 k.n, .string k.name, .slice b k.args.length c] 36) := ⟨_, rfl⟩
  rw [← hW1] at HM ⊢
  clear hW1
  have HD := Lib.hid HM.out.drew
  obtain ⟨d0, d1, d2, d3⟩ := HD.out.wk.cells
  obtain ⟨d4, d5, d6, d7⟩ := HD.out.t.cells
  obtain ⟨d8, d9, dA, dB⟩ := HD.out.k.cells
  go_region_held2 (fun W => W.cell? ⟨w.heap.size, 0, none⟩ = some a0 ∧ W.cell? ⟨w.heap.size, 1, none⟩ = some a1 ∧ W.cell? ⟨w.heap.size, 2, none⟩ = some a2 ∧ W.cell? ⟨w.heap.size, 3, none⟩ = some a3 ∧ W.cell? ⟨w.heap.size + 1, 0, none⟩ = some b0 ∧ W.cell? ⟨w.heap.size + 1, 1, none⟩ = some b1 ∧ W.cell? ⟨w.heap.size + 1, 2, none⟩ = some b2 ∧ W.cell? ⟨w.heap.size + 1, 3, none⟩ = some b3 ∧ W.cell? ⟨w.heap.size + 2, 0, none⟩ = some (.int .i64 k.op) ∧ W.cell? ⟨w.heap.size + 2, 1, none⟩ = some (.int .i64 k.n) ∧ W.cell? ⟨w.heap.size + 2, 2, none⟩ = some (.string k.name) ∧ W.cell? ⟨w.heap.size + 2, 3, none⟩ = some (.slice b k.args.length c))
    (first | (with_reducible exact ⟨d0, d1, d2, d3, d4, d5, d6, d7, d8, d9, dA, dB⟩) | (with_reducible exact ⟨u0, u1, u2, u3, u4, u5, u6, u7, u8, u9, uA, uB⟩) | (with_reducible exact ⟨x0, x1, x2, x3, x4, x5, x6, x7, x8, x9, xA, xB⟩))
    (first
    | (go_at_call 18; refine (HC.out _ HD.out.below).mono ?_; rintro e w2 ⟨hb2, hor⟩; rcases hor with ⟨n, hr, hn, rfl⟩ | ⟨k', v2, hr, hgk, rfl, hv2⟩; exact ⟨rfl, mus_fail (must_bad' hr) hn (HD.out.below.trans (hb2.mono HD.out.below.size))⟩; have HV2 := Lib.hid hv2.weak; have HRR := Lib.hid hr; have HM2 := Lib.hid (HD.out.next hb2); clear hb2 hv2 hr hgk; obtain ⟨u0, u1, u2, u3⟩ := HM2.out.wk.cells; obtain ⟨u4, u5, u6, u7⟩ := HM2.out.t.cells; obtain ⟨u8, u9, uA, uB⟩ := HM2.out.k.cells)
    | (go_at_call 68; refine (Same_any k' k _ _ _ HV2.out (HKV.out.next HM2.out.below)).mono ?_; rintro e w3 ⟨rfl, hb3⟩; have HM3 := Lib.hid (HM2.out.next hb3); clear hb3; obtain ⟨x0, x1, x2, x3⟩ := HM3.out.wk.cells; obtain ⟨x4, x5, x6, x7⟩ := HM3.out.t.cells; obtain ⟨x8, x9, xA, xB⟩ := HM3.out.k.cells))
  rename_i hS
  clear hS d0 d1 d2 d3 d4 d5 d6 d7 d8 d9 dA dB u0 u1 u2 u3 u4 u5 u6 u7 u8 u9 uA uB x0 x1 x2 x3 x4 x5 x6 x7 x8 x9 xA xB
  cases hs : same k' k with
  | true =>
    have HS := Lib.hid (must_yes (n := .ok zeroT) HRR.out hs)
    clear hs
    go_wp2_with fail
    refine bodyPost_ret (results_nil (by kernel_rfl)) rfl ?_
    unfold MusO
    exact ⟨HM3.out.below, .inr ⟨zeroT, HS.out, rfl⟩⟩
  | false =>
    have HS := Lib.hid (must_no (n := .ok zeroT) HRR.out hs)
    clear hs
    go_wp2_with fail
    refine (with_any 23 _).mono ?_
    rintro e w4 ⟨rfl, rfl⟩
    exact ⟨rfl, mus_fail HS.out (by decide) HM3.out.below⟩
end Ty
end Go.Proofs.Ytfjgebdpbmnicaa

/- What applied returns. Conditions: what kind does with the argument. -/
namespace Go.Proofs.Ytfjgebdpbmnicaa
open Go.RowKit

namespace Ty
theorem good_full {t k : Ty} (h : fullT t = .ok k) : Good k := by
  unfold fullT at h
  split at h
  · rename_i hp
    injection h with h
    rw [← h]
    exact Good.of hp
  · cases h
theorem good_put {l : List Ty} {b k : Ty} (h : putR l b = .ok k) : Good k := by
  unfold putR at h
  split at h
  · exact good_full h
  · cases h
theorem good_shift {t k : Ty} {d : Int} (h : shiftR t d = .ok k) : Good k := by
  unfold shiftR at h
  split at h
  · split at h
    · exact good_full h
    · cases h
  · cases h
/-- leave.Must, whatever the error -/
theorem mustl_any {ok : Nat → Prop} {r : Res} {k : Ty} {n : Int} {v : Value} {W : World} (hr : r.is k n) (hv : VO ok W k v) (hg : ∀ k', r = .ok k' → Good k') : Calls Try.prog 71 #[v, .int .i64 n] W (KndO ok r W) := by
  cases r with
  | ok k' =>
    obtain ⟨rfl, rfl⟩ := hr
    exact (must_ok k v W hv.weak).mono fun e w' ⟨h1, h2⟩ => ⟨h2, .inr ⟨k, v, rfl, hg k rfl, h1, (hv.next h2).keep (fun g hg => .inl hg) (fun _ _ _ h => h)⟩⟩
  | bad c =>
    obtain ⟨rfl, rfl, hc⟩ := hr
    obtain ⟨b, cc, ev, _, _⟩ := hv
    subst ev
    exact (must_bad _ _ _ _ n hc W).mono fun e w' ⟨h1, h2⟩ => ⟨h2, .inl ⟨n, rfl, hc, h1⟩⟩
/-- four boxes: a walker's, two types' and the result's -/
structure Ap4 (w W : World) (a0 a1 a2 a3 b0 b1 b2 b3 c0 c1 c2 c3 : Value) : Prop where
  below : Below w.heap.size w W
  wk : W4 W w.heap.size a0 a1 a2 a3
  f : B4 W (w.heap.size + 1) b0 b1 b2 b3
  x : B4 W (w.heap.size + 2) c0 c1 c2 c3
  r : B4 W (w.heap.size + 3) (.int .i64 0) (.int .i64 0) (.string ⟨#[]⟩) (.slice none 0 0)
theorem Ap4.new (w : World) (a0 a1 a2 a3 b0 b1 b2 b3 c0 c1 c2 c3 : Value) : Ap4 w ((((w.alloc (Obj.cells #[a0, a1, a2, a3] 61)).alloc (Obj.cells #[b0, b1, b2, b3] 36)).alloc (Obj.cells #[c0, c1, c2, c3] 36)).alloc (Obj.cells #[.int .i64 0, .int .i64 0, .string ⟨#[]⟩, .slice none 0 0] 36)) a0 a1 a2 a3 b0 b1 b2 b3 c0 c1 c2 c3 := by
  have h := Mu3.new w a0 a1 a2 a3 b0 b1 b2 b3 c0 c1 c2 c3
  have e3 : (((w.alloc (Obj.cells #[a0, a1, a2, a3] 61)).alloc (Obj.cells #[b0, b1, b2, b3] 36)).alloc (Obj.cells #[c0, c1, c2, c3] 36)).heap.size = w.heap.size + 3 := by simp
  have hb := (Below.refl _ (((w.alloc (Obj.cells #[a0, a1, a2, a3] 61)).alloc (Obj.cells #[b0, b1, b2, b3] 36)).alloc (Obj.cells #[c0, c1, c2, c3] 36))).alloc (Nat.le_refl _) (Obj.cells #[.int .i64 0, .int .i64 0, .string ⟨#[]⟩, .slice none 0 0] 36)
  have hn := heap_alloc_new (((w.alloc (Obj.cells #[a0, a1, a2, a3] 61)).alloc (Obj.cells #[b0, b1, b2, b3] 36)).alloc (Obj.cells #[c0, c1, c2, c3] 36)) (Obj.cells #[.int .i64 0, .int .i64 0, .string ⟨#[]⟩, .slice none 0 0] 36)
  rw [e3] at hn
  have h2 := h.next hb
  exact ⟨h2.below, h2.wk, h2.t, h2.k, hn⟩
theorem Ap4.next {w W W' : World} {a0 a1 a2 a3 b0 b1 b2 b3 c0 c1 c2 c3 : Value} (h : Ap4 w W a0 a1 a2 a3 b0 b1 b2 b3 c0 c1 c2 c3) (hb : Below W.heap.size W W') : Ap4 w W' a0 a1 a2 a3 b0 b1 b2 b3 c0 c1 c2 c3 :=
  ⟨h.below.trans (hb.mono h.below.size), h.wk.next hb, h.f.next hb, h.x.next hb, h.r.next hb⟩
theorem Ap4.drew {w W : World} {a0 a1 a2 a3 b0 b1 b2 b3 c0 c1 c2 c3 : Value} (h : Ap4 w W a0 a1 a2 a3 b0 b1 b2 b3 c0 c1 c2 c3) : Ap4 w W.drew a0 a1 a2 a3 b0 b1 b2 b3 c0 c1 c2 c3 := ⟨h.below.drew, h.wk, h.f, h.x, h.r⟩
theorem must_zero {r n : Res} {c : Int} {k : Ty} (h : mustT r k (.ok zeroT) = .bad c) : mustT r k n = .bad c := by
  cases r with
  | bad e => exact h
  | ok k' =>
    unfold mustT at h ⊢
    simp only at h ⊢
    by_cases hs : same k' k = true
    · rw [if_pos hs] at h; cases h
    · rw [if_neg hs] at h ⊢; exact h
theorem must_next {r n : Res} {k k' : Ty} (h : mustT r k (.ok zeroT) = .ok k') : mustT r k n = n := by
  cases r with
  | bad e => cases h
  | ok k2 =>
    unfold mustT at h ⊢
    simp only at h ⊢
    by_cases hs : same k2 k = true
    · rw [if_pos hs]
    · rw [if_neg hs] at h; cases h
theorem app_none {f x : Ty} {rx : Res} (h : wantT f = none) : appliedT (.ok f) x rx = .bad 23 := by unfold appliedT; simp only [h]
theorem app_some {f x k : Ty} {rx : Res} (h : wantT f = some k) : appliedT (.ok f) x rx = mustT rx k (if f.op = 4 then putR [x] (f.args[1]?.getD zeroT) else .ok (f.args[1]?.getD zeroT)) := by unfold appliedT; simp only [h]

set_option maxHeartbeats 8000000 in
theorem applied_none {ok : Nat → Prop} (a0 a1 a2 a3 c0 c1 c2 c3 : Value) (f x : Ty) (rx : Res) (hg : Good f) (hw : wantT f = none) (fv : Value) (w : World) (hf : V w f fv) :
    Calls Try.prog 47 #[.agg #[a0, a1, a2, a3], fv, .agg #[c0, c1, c2, c3]] w (KndO ok (appliedT (.ok f) x rx) w) := by
  have HW := Lib.hid (fun W (hb : Below w.heap.size w W) => want_any f hg fv W (hf.next hb))
  have HA := Lib.hid (app_none (x := x) (rx := rx) hw)
  have HN := Lib.hid hw
  obtain ⟨b, c, ev, _, _⟩ := hf
  subst ev
  have HM := Lib.hid (Ap4.new w a0 a1 a2 a3 (.int .i64 f.op) (.int .i64 f.n) (.string f.name) (.slice b f.args.length c) c0 c1 c2 c3)
  clear hw
  go_enter Try.func47, Try.ntmps47
  go_upto_region 1 with fail
  obtain ⟨W1, hW1⟩ : ∃ W1, W1 = (((w.alloc (Obj.cells #[a0, a1, a2, a3] 61)).alloc (Obj.cells #[.int .i64 f.op, .int .i64 f.n, .string f.name, .slice b f.args.length c] 36)).alloc (Obj.cells #[c0, c1, c2, c3] 36)).alloc (Obj.cells #[.int .i64 0, .int .i64 0, .string ⟨#[]⟩, .slice none 0 0] 36) := ⟨_, rfl⟩
  rw [← hW1] at HM ⊢
  clear hW1
  obtain ⟨d0, d1, d2, d3⟩ := HM.out.f.cells
  go_wp2_with fail
  refine (HW.out _ HM.out.below).mono ?_
  unfold WantP
  rintro e w2 ⟨hb2, ⟨_, rfl⟩ | ⟨k, g, o, l, hk, _, _⟩⟩
  · have HB2 := Lib.hid (HM.out.below.trans (hb2.mono HM.out.below.size))
    clear hb2
    go_wp2_with fail
    refine (with_any 23 _).mono ?_
    rintro e w4 ⟨rfl, rfl⟩
    exact ⟨rfl, knd_fail HA.out (by decide) HB2.out⟩
  · rw [HN.out] at hk
    cases hk
theorem sl_one {W : World} {x : Ty} {b : Option Addr} {c : Nat} (hv : V W x (.agg #[.int .i64 x.op, .int .i64 x.n, .string x.name, .slice b x.args.length c])) : Sl (W.alloc (Obj.cells #[.int .i64 x.op, .int .i64 x.n, .string x.name, .slice b x.args.length c] 36)) (some ⟨W.heap.size, 0, none⟩) [x] :=
  ⟨by show 1 ≤ maxLen; decide, .inr ⟨W.heap.size, 0, rfl, at_box (heap_alloc_new _ _) (hv.next ((Below.refl _ _).alloc (Nat.le_refl _) _)), trivial⟩⟩
theorem want_form {f k : Ty} (hg : Good f) (hw : wantT f = some k) : ∃ op a b, f = .mk op 0 [] [a, b] ∧ Good b ∧ (op = 4 ∨ op ≠ 4) := by
  cases hg with
  | var op n h1 h2 h3 =>
    have e : wantT (.mk op n [] []) = none := by
      unfold wantT
      rw [if_neg (show ¬ (Ty.mk op n [] []).op = 4 from by show ¬ op = 4; omega), isAppl_no (t := .mk op n [] []) (show op ≠ 3 by omega)]
      rfl
    rw [e] at hw
    cases hw
  | con s h1 h2 =>
    have e : wantT (.mk 2 0 s []) = none := by
      unfold wantT
      rw [if_neg (show ¬ (Ty.mk 2 0 s []).op = 4 from by show ¬ (2 : Int) = 4; decide), isAppl_no (t := .mk 2 0 s []) (show (2 : Int) ≠ 3 by decide)]
      rfl
    rw [e] at hw
    cases hw
  | node op x y hop hx hy => exact ⟨op, x, y, rfl, hy, by omega⟩
theorem rs_keep {W : World} {B : Nat} {p0 p1 p2 p3 p4 p5 p6 p7 p8 : Addr} {c0 c1 c2 c3 c4 c5 c6 c7 c8 : Value} (h0 : W.cell? p0 = some c0) (h1 : W.cell? p1 = some c1) (h2 : W.cell? p2 = some c2) (h3 : W.cell? p3 = some c3) (h4 : W.cell? p4 = some c4) (h5 : W.cell? p5 = some c5) (h6 : W.cell? p6 = some c6) (h7 : W.cell? p7 = some c7) (h8 : W.cell? p8 = some c8) (v0 v1 v2 v3 : Value) (hne : p0.block ≠ B ∧ p1.block ≠ B ∧ p2.block ≠ B ∧ p3.block ≠ B ∧ p4.block ≠ B ∧ p5.block ≠ B ∧ p6.block ≠ B ∧ p7.block ≠ B ∧ p8.block ≠ B) :
    ((((W.setCell ⟨B, 0, none⟩ v0).setCell ⟨B, 1, none⟩ v1).setCell ⟨B, 2, none⟩ v2).setCell ⟨B, 3, none⟩ v3).cell? p0 = some c0 ∧ ((((W.setCell ⟨B, 0, none⟩ v0).setCell ⟨B, 1, none⟩ v1).setCell ⟨B, 2, none⟩ v2).setCell ⟨B, 3, none⟩ v3).cell? p1 = some c1 ∧ ((((W.setCell ⟨B, 0, none⟩ v0).setCell ⟨B, 1, none⟩ v1).setCell ⟨B, 2, none⟩ v2).setCell ⟨B, 3, none⟩ v3).cell? p2 = some c2 ∧ ((((W.setCell ⟨B, 0, none⟩ v0).setCell ⟨B, 1, none⟩ v1).setCell ⟨B, 2, none⟩ v2).setCell ⟨B, 3, none⟩ v3).cell? p3 = some c3 ∧ ((((W.setCell ⟨B, 0, none⟩ v0).setCell ⟨B, 1, none⟩ v1).setCell ⟨B, 2, none⟩ v2).setCell ⟨B, 3, none⟩ v3).cell? p4 = some c4 ∧ ((((W.setCell ⟨B, 0, none⟩ v0).setCell ⟨B, 1, none⟩ v1).setCell ⟨B, 2, none⟩ v2).setCell ⟨B, 3, none⟩ v3).cell? p5 = some c5 ∧ ((((W.setCell ⟨B, 0, none⟩ v0).setCell ⟨B, 1, none⟩ v1).setCell ⟨B, 2, none⟩ v2).setCell ⟨B, 3, none⟩ v3).cell? p6 = some c6 ∧ ((((W.setCell ⟨B, 0, none⟩ v0).setCell ⟨B, 1, none⟩ v1).setCell ⟨B, 2, none⟩ v2).setCell ⟨B, 3, none⟩ v3).cell? p7 = some c7 ∧ ((((W.setCell ⟨B, 0, none⟩ v0).setCell ⟨B, 1, none⟩ v1).setCell ⟨B, 2, none⟩ v2).setCell ⟨B, 3, none⟩ v3).cell? p8 = some c8 := by
  obtain ⟨n0, n1, n2, n3, n4, n5, n6, n7, n8⟩ := hne
  exact ⟨an_one v0 v1 v2 v3 h0 n0, an_one v0 v1 v2 v3 h1 n1, an_one v0 v1 v2 v3 h2 n2, an_one v0 v1 v2 v3 h3 n3, an_one v0 v1 v2 v3 h4 n4, an_one v0 v1 v2 v3 h5 n5, an_one v0 v1 v2 v3 h6 n6, an_one v0 v1 v2 v3 h7 n7, an_one v0 v1 v2 v3 h8 n8⟩
theorem ato_v {ok : Nat → Prop} {w : World} {b o : Nat} {t : Ty} (h : AtO ok w b o t) : ∃ base cap, w.cell? ⟨b, o, none⟩ = some (.int .i64 t.op) ∧ w.cell? ⟨b, o + 1, none⟩ = some (.int .i64 t.n) ∧ w.cell? ⟨b, o + 2, none⟩ = some (.string t.name) ∧ w.cell? ⟨b, o + 3, none⟩ = some (.slice base t.args.length cap) ∧ VO ok w t (.agg #[.int .i64 t.op, .int .i64 t.n, .string t.name, .slice base t.args.length cap]) := by
  obtain ⟨h0, h1, h2, hs, base, cap, h3, hl⟩ := atO_iff.mp h
  exact ⟨base, cap, h0, h1, h2, h3, base, cap, rfl, hs, hl⟩
/-- what is left of something applied, behind the argument's kind -/
def afterT (op : Int) (b x : Ty) : Res := if op = 4 then putR [x] b else .ok b

set_option maxHeartbeats 8000000 in
theorem applied_some {ok okx : Nat → Prop} (a0 a1 a2 a3 : Value) (op : Int) (a b x k : Ty) (rx : Res) (hgf : Good (.mk op 0 [] [a, b])) (hgb : Good b) (hw : wantT (.mk op 0 [] [a, b]) = some k) (fv xv : Value) (w : World) (hf : VO ok w (.mk op 0 [] [a, b]) fv) (hx : V w x xv)
    (hc : ∀ W, Below w.heap.size w W → Calls Try.prog 18 #[.agg #[a0, a1, a2, a3], xv, .int .i64 0] W (KndO okx rx W)) :
    Calls Try.prog 47 #[.agg #[a0, a1, a2, a3], fv, xv] w (KndO ok (mustT rx k (afterT op b x)) w) := by
  have HW := Lib.hid (fun W (hb : Below w.heap.size w W) => want_any _ hgf fv W (hf.weak.next hb))
  have HN := Lib.hid hw
  have HVX := Lib.hid hx
  have HGB := Lib.hid hgb
  obtain ⟨fb, fc, ev, _, hl, h4⟩ := hf
  rcases h4 with h4 | ⟨gf, ff, rfl, hokf, hrow⟩
  · cases h4
  obtain ⟨hra, hrb, _⟩ := hrow
  obtain ⟨bb, bc, y0, y1, y2, y3, hvob⟩ := ato_v hrb
  have HVOB := Lib.hid hvob
  have hvb := hvob.weak
  have HVB := Lib.hid hvb
  have Y0 := Lib.hid y0
  have Y1 := Lib.hid y1
  have Y2 := Lib.hid y2
  have Y3 := Lib.hid y3
  replace ev : fv = .agg #[.int .i64 op, .int .i64 0, .string ⟨#[]⟩, .slice (some ⟨gf, ff, none⟩) 2 fc] := ev
  obtain ⟨xb, xc, ex, _, _⟩ := hx
  subst ev
  subst ex
  have HC := Lib.hid hc
  have HM := Lib.hid (Ap4.new w a0 a1 a2 a3 (.int .i64 op) (.int .i64 0) (.string ⟨#[]⟩) (.slice (some ⟨gf, ff, none⟩) 2 fc) (.int .i64 x.op) (.int .i64 x.n) (.string x.name) (.slice xb x.args.length xc))
  clear hw hc hra hrb hvb hvob hokf y0 y1 y2 y3 hl hgf hgb
  go_enter Try.func47, Try.ntmps47
  go_upto_region 1 with fail
  obtain ⟨W1, hW1⟩ : ∃ W1, W1 = (((w.alloc (Obj.cells #[a0, a1, a2, a3] 61)).alloc (Obj.cells #[.int .i64 op, .int .i64 0, .string ⟨#[]⟩, .slice (some ⟨gf, ff, none⟩) 2 fc] 36)).alloc (Obj.cells #[.int .i64 x.op, .int .i64 x.n, .string x.name, .slice xb x.args.length xc] 36)).alloc (Obj.cells #[.int .i64 0, .int .i64 0, .string ⟨#[]⟩, .slice none 0 0] 36) := ⟨_, rfl⟩
  rw [← hW1] at HM ⊢
  clear hW1
  obtain ⟨d0, d1, d2, d3⟩ := HM.out.f.cells
  go_wp2_with fail
  refine (HW.out _ HM.out.below).mono ?_
  unfold WantP
  rintro e w2 ⟨hb2, ⟨hno, _⟩ | ⟨k9, g, o, l, hk, rfl, hrow⟩⟩
  · rw [HN.out] at hno
    cases hno
  rw [HN.out] at hk
  injection hk with hk
  subst hk
  have HM2 := Lib.hid (HM.out.next hb2)
  obtain ⟨kb, kc, k0, k1, k2, k3, hvk⟩ := at_v (hrow.next hb2).1
  have HVK := Lib.hid hvk
  clear hb2 hrow hvk HM d0 d1 d2 d3
  go_upto_region 4 with fail
  have HD := Lib.hid HM2.out.drew
  have hdr := drew_below w2
  have k0 := keeps hdr _ _ k0
  have k1 := keeps hdr _ _ k1
  have k2 := keeps hdr _ _ k2
  have k3 := keeps hdr _ _ k3
  obtain ⟨d0, d1, d2, d3⟩ := HD.out.wk.cells
  obtain ⟨d8, d9, dA, dB⟩ := HD.out.x.cells
  go_region_held2 (fun W => W.cell? ⟨w.heap.size, 0, none⟩ = some a0 ∧ W.cell? ⟨w.heap.size, 1, none⟩ = some a1 ∧ W.cell? ⟨w.heap.size, 2, none⟩ = some a2 ∧ W.cell? ⟨w.heap.size, 3, none⟩ = some a3 ∧ W.cell? ⟨w.heap.size + 2, 0, none⟩ = some (.int .i64 x.op) ∧ W.cell? ⟨w.heap.size + 2, 1, none⟩ = some (.int .i64 x.n) ∧ W.cell? ⟨w.heap.size + 2, 2, none⟩ = some (.string x.name) ∧ W.cell? ⟨w.heap.size + 2, 3, none⟩ = some (.slice xb x.args.length xc) ∧ W.cell? ⟨g, o, none⟩ = some (.int .i64 k.op) ∧ W.cell? ⟨g, o + 1, none⟩ = some (.int .i64 k.n) ∧ W.cell? ⟨g, o + 2, none⟩ = some (.string k.name) ∧ W.cell? ⟨g, o + 3, none⟩ = some (.slice kb k.args.length kc))
    (first | (with_reducible exact ⟨d0, d1, d2, d3, d8, d9, dA, dB, k0, k1, k2, k3⟩) | (with_reducible exact ⟨u0, u1, u2, u3, u8, u9, uA, uB, q0, q1, q2, q3⟩))
    (first
    | (go_at_call 46; refine (kmust_any a0 a1 a2 a3 _ _ _ _ rx k _ _ (HVK.out.next hdr) (fun W hb => HC.out W (HD.out.below.trans (hb.mono HD.out.below.size)))).mono ?_; rintro e w3 ⟨hb3, hor⟩; rcases hor with ⟨n, hr, hn, rfl⟩ | ⟨k', hr, rfl⟩; exact ⟨rfl, knd_fail (must_zero hr) hn (HD.out.below.trans (hb3.mono HD.out.below.size))⟩; have HRR := Lib.hid hr; have HM3 := Lib.hid (HD.out.next hb3); obtain ⟨u0, u1, u2, u3⟩ := HM3.out.wk.cells; obtain ⟨u8, u9, uA, uB⟩ := HM3.out.x.cells; have q0 := keeps hb3 _ _ k0; have q1 := keeps hb3 _ _ k1; have q2 := keeps hb3 _ _ k2; have q3 := keeps hb3 _ _ k3; clear hb3 hr))
  rename_i hS
  have HAF := Lib.hid (must_next (n := afterT op b x) HRR.out)
  clear hS d0 d1 d2 d3 d8 d9 dA dB k0 k1 k2 k3 u0 u1 u2 u3 u8 u9 uA uB q0 q1 q2 q3 hdr HD HM2 HVK
  obtain ⟨f0, f1, f2, f3⟩ := HM3.out.f.cells
  have y0 := keeps HM3.out.below _ _ Y0.out
  have y1 := keeps HM3.out.below _ _ Y1.out
  have y2 := keeps HM3.out.below _ _ Y2.out
  have y3 := keeps HM3.out.below _ _ Y3.out
  by_cases h4 : op = 4
  · subst h4
    have HAF4 := Lib.hid (HAF.out.trans (show afterT 4 b x = putR [x] b from if_pos rfl))
    clear HAF
    go_upto_region 6 with fail
    obtain ⟨d8, d9, dA, dB⟩ := HM3.out.x.cells
    have hal : Below w3.heap.size w3 (w3.alloc (Obj.cells #[.int .i64 x.op, .int .i64 x.n, .string x.name, .slice xb x.args.length xc] 36)).drew := ((Below.refl _ _).alloc (Nat.le_refl _) _).drew
    have g3 := keeps hal _ _ f3
    have g8 := keeps hal _ _ d8
    have g9 := keeps hal _ _ d9
    have gA := keeps hal _ _ dA
    have gB := keeps hal _ _ dB
    have z0 := keeps hal _ _ y0
    have z1 := keeps hal _ _ y1
    have z2 := keeps hal _ _ y2
    have z3 := keeps hal _ _ y3
    have HNE : Hid (w.heap.size + 1 ≠ w.heap.size + 3 ∧ w.heap.size + 2 ≠ w.heap.size + 3 ∧ w.heap.size + 2 ≠ w.heap.size + 3 ∧ w.heap.size + 2 ≠ w.heap.size + 3 ∧ w.heap.size + 2 ≠ w.heap.size + 3 ∧ gf ≠ w.heap.size + 3 ∧ gf ≠ w.heap.size + 3 ∧ gf ≠ w.heap.size + 3 ∧ gf ≠ w.heap.size + 3) := Lib.hid (by have := World.block_lt_of_cell? w _ Y0.out; simp only at this; omega)
    have HSL := Lib.hid ((sl_one (HVX.out.next HM3.out.below)).next (drew_below _))
    have HDA := Lib.hid (HM3.out.next hal)
    have HZA := Lib.hid hal.size
    have hdr := drew_below w3
    have f3 := keeps hdr _ _ f3
    have d8 := keeps hdr _ _ d8
    have d9 := keeps hdr _ _ d9
    have dA := keeps hdr _ _ dA
    have dB := keeps hdr _ _ dB
    have y0 := keeps hdr _ _ y0
    have y1 := keeps hdr _ _ y1
    have y2 := keeps hdr _ _ y2
    have y3 := keeps hdr _ _ y3
    clear hal hdr
    go_region_held2 (fun W => W.cell? ⟨w.heap.size + 1, 3, none⟩ = some (.slice (some ⟨gf, ff, none⟩) 2 fc) ∧ W.cell? ⟨w.heap.size + 2, 0, none⟩ = some (.int .i64 x.op) ∧ W.cell? ⟨w.heap.size + 2, 1, none⟩ = some (.int .i64 x.n) ∧ W.cell? ⟨w.heap.size + 2, 2, none⟩ = some (.string x.name) ∧ W.cell? ⟨w.heap.size + 2, 3, none⟩ = some (.slice xb x.args.length xc) ∧ W.cell? ⟨gf, ff + 4, none⟩ = some (.int .i64 b.op) ∧ W.cell? ⟨gf, ff + 4 + 1, none⟩ = some (.int .i64 b.n) ∧ W.cell? ⟨gf, ff + 4 + 2, none⟩ = some (.string b.name) ∧ W.cell? ⟨gf, ff + 4 + 3, none⟩ = some (.slice bb b.args.length bc))
      (first | (with_reducible exact ⟨f3, d8, d9, dA, dB, y0, y1, y2, y3⟩) | (with_reducible exact ⟨g3, g8, g9, gA, gB, z0, z1, z2, z3⟩) | (with_reducible exact ⟨p3, p8, p9, pA, pB, q0, q1, q2, q3⟩) | (with_reducible exact ⟨r3, r8, r9, rA, rB, s0, s1, s2, s3⟩) | (with_reducible exact rs_keep r3 r8 r9 rA rB s0 s1 s2 s3 _ _ _ _ HNE.out))
      (first
      | (go_at_call 72; refine (put_o b [x] _ _ _ _ (HVB.out.next HDA.out.below) HSL.out).mono ?_; rintro e w4 ⟨kk, n, v4, hr, rfl, hvo, hb4⟩; have HR4 := Lib.hid hr; have HV4 := Lib.hid hvo; have HD4 := Lib.hid (HDA.out.next hb4); have HZ4 := Lib.hid hb4.size; have p3 := keeps hb4 _ _ g3; have p8 := keeps hb4 _ _ g8; have p9 := keeps hb4 _ _ g9; have pA := keeps hb4 _ _ gA; have pB := keeps hb4 _ _ gB; have q0 := keeps hb4 _ _ z0; have q1 := keeps hb4 _ _ z1; have q2 := keeps hb4 _ _ z2; have q3 := keeps hb4 _ _ z3; clear hr hvo hb4)
      | (go_at_call 71; refine (mustl_any HR4.out HV4.out (fun k' h => good_put h)).mono ?_; rintro e w5 ⟨hb5, hor⟩; rcases hor with ⟨n, hr, hn, rfl⟩ | ⟨k5, v5, hr, hg5, rfl, hv5⟩; exact ⟨rfl, knd_fail (HAF4.out.trans hr) hn (HD4.out.below.trans (hb5.mono HD4.out.below.size))⟩; have HR5 := Lib.hid hr; have HG5 := Lib.hid hg5; have HV5 := Lib.hid hv5; have HD5 := Lib.hid (HD4.out.next hb5); have r3 := keeps hb5 _ _ p3; have r8 := keeps hb5 _ _ p8; have r9 := keeps hb5 _ _ p9; have rA := keeps hb5 _ _ pA; have rB := keeps hb5 _ _ pB; have s0 := keeps hb5 _ _ q0; have s1 := keeps hb5 _ _ q1; have s2 := keeps hb5 _ _ q2; have s3 := keeps hb5 _ _ q3; clear hb5 hr hg5 hv5; obtain ⟨b5, c5, ev5, _, _⟩ := HV5.out; subst ev5; have HZ5 := Lib.hid (Nat.le_refl w5.heap.size); obtain ⟨t0, t1, t2, t3⟩ := HD5.out.r.cells; have h0 := HD5.out.r.frozen 0; have h1 := HD5.out.r.frozen 1; have h2 := HD5.out.r.frozen 2; have h3 := HD5.out.r.frozen 3))
    rename_i hS
    clear hS
    go_wp2_with fail
    refine bodyPost_ret (results_ty (a := 6) (by kernel_rfl) (B := w.heap.size + 3) (by rfl) (put4_cells HD5.out.r _ _ _ _).cells.1 (put4_cells HD5.out.r _ _ _ _).cells.2.1 (put4_cells HD5.out.r _ _ _ _).cells.2.2.1 (put4_cells HD5.out.r _ _ _ _).cells.2.2.2) rfl ?_
    have hz3 := lt_of_block HM3.out.r
    have hz4 := HZA.out
    have hz5 := HZ4.out
    refine ⟨below_put4 HD5.out.below (by omega) _ _ _ _, .inr ⟨k5, _, HAF4.out.trans HR5.out, HG5.out, rfl, ?_⟩⟩
    exact HV5.out.keep (fun g hg => by rcases hg with hg | hg <;> exact .inr (by omega)) (fun p v hp hc => put4_keep _ _ _ _ p v hc (by rcases hp with hp | hp <;> omega))
  · have HAF3 := Lib.hid (HAF.out.trans (show afterT op b x = .ok b from if_neg h4))
    have q4 : (op == 4) = false := by simpa using h4
    obtain ⟨t0, t1, t2, t3⟩ := HM3.out.r.cells
    have h0 := HM3.out.r.frozen 0
    have h1 := HM3.out.r.frozen 1
    have h2 := HM3.out.r.frozen 2
    have h3 := HM3.out.r.frozen 3
    clear HAF h4
    go_wp2_with fail
    refine bodyPost_ret (results_ty (a := 6) (by kernel_rfl) (B := w.heap.size + 3) (by rfl) (put4_cells HM3.out.r _ _ _ _).cells.1 (put4_cells HM3.out.r _ _ _ _).cells.2.1 (put4_cells HM3.out.r _ _ _ _).cells.2.2.1 (put4_cells HM3.out.r _ _ _ _).cells.2.2.2) rfl ?_
    refine ⟨below_put4 HM3.out.below (by omega) _ _ _ _, .inr ⟨b, _, HAF3.out, HGB.out, rfl, ?_⟩⟩
    exact (HVOB.out.bound.next HM3.out.below).keep (fun g hg => .inl hg.1) (fun p v hp hc => put4_keep _ _ _ _ p v hc (by have := hp.2; omega))
end Ty
end Go.Proofs.Ytfjgebdpbmnicaa
