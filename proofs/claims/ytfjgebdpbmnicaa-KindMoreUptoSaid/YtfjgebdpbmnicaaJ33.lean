/- What the walker's constant returns. Conditions: what find does with the name. -/
import Derived.Test.YtfjgebdpbmnicaaJ32
namespace Go.Proofs.Ytfjgebdpbmnicaa
open Go.RowKit

namespace Ty
theorem con_eq {E : PEnv} {a : Nat} : constantT E [126] a = .bad 22 := by unfold constantT; rw [if_pos rfl]
def conR (r : Res) (a : Nat) (ar : Int) : Res := match r with | .bad e => .bad e | .ok k => if (a : Int) < ar then .bad 22 else .ok k
theorem con_find {E : PEnv} {s : List UInt8} {a : Nat} {r : Res} {ar : Int} (h : s ≠ [126]) (hf : findT E s = (r, ar)) : constantT E s a = conR r a ar := by
  unfold constantT
  rw [if_neg h]
  simp only [hf]
  cases r <;> rfl
/-- a walker's box, and the result's -/
structure Co2 (w W : World) (a0 a1 a2 a3 : Value) : Prop where
  below : Below w.heap.size w W
  wk : W4 W w.heap.size a0 a1 a2 a3
  r : B4 W (w.heap.size + 1) (.int .i64 0) (.int .i64 0) (.string ⟨#[]⟩) (.slice none 0 0)
theorem Co2.new (w : World) (a0 a1 a2 a3 : Value) : Co2 w ((w.alloc (Obj.cells #[a0, a1, a2, a3] 61)).alloc (Obj.cells #[.int .i64 0, .int .i64 0, .string ⟨#[]⟩, .slice none 0 0] 36)) a0 a1 a2 a3 := by
  have e1 : (w.alloc (Obj.cells #[a0, a1, a2, a3] 61)).heap.size = w.heap.size + 1 := by simp
  refine ⟨below_two w _ _, (Below.heap_alloc _ _ _ (by rw [e1]; omega)).trans (heap_alloc_new w _), ?_⟩
  have := heap_alloc_new (w.alloc (Obj.cells #[a0, a1, a2, a3] 61)) (Obj.cells #[.int .i64 0, .int .i64 0, .string ⟨#[]⟩, .slice none 0 0] 36)
  rw [e1] at this
  exact this
theorem Co2.next {w W W' : World} {a0 a1 a2 a3 : Value} (h : Co2 w W a0 a1 a2 a3) (hb : Below W.heap.size W W') : Co2 w W' a0 a1 a2 a3 :=
  ⟨h.below.trans (hb.mono h.below.size), h.wk.next hb, h.r.next hb⟩

set_option maxHeartbeats 8000000 in
theorem constant_any {ok : Nat → Prop} (E : PEnv) (s : List UInt8) (ar : Nat) (ptr a1 a2 a3 : Value) (w : World) (hok : ∀ g, ok g → g < w.heap.size) (hgf : ∀ k a, findT E s = (.ok k, a) → Good k)
    (hf : ∀ W, Below w.heap.size w W → Calls Try.prog 8 #[ptr, .string ⟨s.toArray⟩] W (ConO ok (findT E s) W)) :
    Calls Try.prog 49 #[.agg #[ptr, a1, a2, a3], .string ⟨s.toArray⟩, .int .i64 ar] w (KndO ok (constantT E s ar) w) := by
  have HF := Lib.hid hf
  have HOK := Lib.hid hok
  have HM := Lib.hid (Co2.new w ptr a1 a2 a3)
  clear hf hok
  by_cases hs : s = [126]
  · subst hs
    have HR := Lib.hid (con_eq (E := E) (a := ar))
    clear hgf
    go_enter Try.func49, Try.ntmps49
    go_wp2_with fail
    refine (with_any 22 _).mono ?_
    rintro e w4 ⟨rfl, rfl⟩
    exact ⟨rfl, knd_fail HR.out (by decide) HM.out.below⟩
  · have hq : (s == [126]) = false := by simpa using hs
    obtain ⟨r, a, hra⟩ : ∃ r a, findT E s = (r, a) := ⟨_, _, rfl⟩
    have HR := Lib.hid (con_find (a := ar) hs hra)
    have HG := Lib.hid (fun k (h : r = .ok k) => hgf k a (by rw [hra, h]))
    rw [hra] at HF
    clear hgf hra hs
    go_enter Try.func49, Try.ntmps49
    go_upto_region 1 with fail
    obtain ⟨W1, hW1⟩ : ∃ W1, W1 = (w.alloc (Obj.cells #[ptr, a1, a2, a3] 61)).alloc (Obj.cells #[.int .i64 0, .int .i64 0, .string ⟨#[]⟩, .slice none 0 0] 36) := ⟨_, rfl⟩
    rw [← hW1] at HM ⊢
    clear hW1
    obtain ⟨d0, d1, d2, d3⟩ := HM.out.wk.cells
    go_wp2_with fail
    refine (HF.out _ HM.out.below).mono ?_
    rintro e w2 ⟨k, n, c, hk, rfl, ⟨b, cap, rfl, hs2, hl2⟩, hb2⟩
    have HK := Lib.hid hk
    have hal : Below w2.heap.size w2 (w2.alloc (Obj.cells #[.int .i64 k.op, .int .i64 k.n, .string k.name, .slice b k.args.length cap, .int .i64 a] 51)) := (Below.refl _ _).alloc (Nat.le_refl _) _
    have hbx : B5 (w2.alloc (Obj.cells #[.int .i64 k.op, .int .i64 k.n, .string k.name, .slice b k.args.length cap, .int .i64 a] 51)) w2.heap.size (.int .i64 k.op) (.int .i64 k.n) (.string k.name) (.slice b k.args.length cap) (.int .i64 a) := heap_alloc_new _ _
    have HB3 := Lib.hid hbx
    have HM3 := Lib.hid ((HM.out.next hb2).next hal)
    have HV3 : Hid (VO (fun g => ok g ∨ W1.heap.size ≤ g) (w2.alloc (Obj.cells #[.int .i64 k.op, .int .i64 k.n, .string k.name, .slice b k.args.length cap, .int .i64 a] 51)) k (.agg #[.int .i64 k.op, .int .i64 k.n, .string k.name, .slice b k.args.length cap])) := Lib.hid (VO.next hal ⟨b, cap, rfl, hs2, hl2⟩)
    have HZ1 := Lib.hid (lt_of_block HM.out.r)
    clear hk hal hbx hs2 hl2 hb2 d0 d1 d2 d3 HM HF
    go_upto_region 4 with fail
    obtain ⟨W3, hW3⟩ : ∃ W3, W3 = w2.alloc (Obj.cells #[.int .i64 k.op, .int .i64 k.n, .string k.name, .slice b k.args.length cap, .int .i64 a] 51) := ⟨_, rfl⟩
    rw [← hW3] at HB3 HM3 HV3 ⊢
    clear hW3
    obtain ⟨b0, b1, b2, b3, b4⟩ := HB3.out.cells
    go_wp2_with fail
    refine (mustl_any HK.out HV3.out (fun k' h => HG.out k' h)).mono ?_
    rintro e w4 ⟨hb4, hor⟩
    rcases hor with ⟨c, hr, hc, rfl⟩ | ⟨k4, v4, hr, hg4, rfl, hv4⟩
    · exact ⟨rfl, knd_fail (by rw [HR.out, hr]; rfl) hc (HM3.out.below.trans (hb4.mono HM3.out.below.size))⟩
    subst hr
    have HG4 := Lib.hid hg4
    obtain ⟨q4, c4, rfl, hs4, hl4⟩ := hv4
    have hal : Below w4.heap.size w4 (w4.alloc (Obj.cells #[.int .i64 k4.op, .int .i64 k4.n, .string k4.name, .slice q4 k4.args.length c4] 36)) := (Below.refl _ _).alloc (Nat.le_refl _) _
    have hbx : B4 (w4.alloc (Obj.cells #[.int .i64 k4.op, .int .i64 k4.n, .string k4.name, .slice q4 k4.args.length c4] 36)) w4.heap.size (.int .i64 k4.op) (.int .i64 k4.n) (.string k4.name) (.slice q4 k4.args.length c4) := heap_alloc_new _ _
    have HB5 := Lib.hid hbx
    have HM5 := Lib.hid ((HM3.out.next hb4).next hal)
    have HC5 := Lib.hid ((HB3.out.next hb4).next hal)
    have HV5 : Hid (VO (fun g => (ok g ∨ W1.heap.size ≤ g) ∨ W3.heap.size ≤ g) (w4.alloc (Obj.cells #[.int .i64 k4.op, .int .i64 k4.n, .string k4.name, .slice q4 k4.args.length c4] 36)) k4 (.agg #[.int .i64 k4.op, .int .i64 k4.n, .string k4.name, .slice q4 k4.args.length c4])) := Lib.hid (VO.next hal ⟨q4, c4, rfl, hs4, hl4⟩)
    have HZ3 := Lib.hid (lt_of_block HM3.out.r)
    clear hal hbx hs4 hl4 hb4 hg4 b0 b1 b2 b3 b4 HM3 HB3 HV3
    go_upto_region 5 with fail
    obtain ⟨W5, hW5⟩ : ∃ W5, W5 = w4.alloc (Obj.cells #[.int .i64 k4.op, .int .i64 k4.n, .string k4.name, .slice q4 k4.args.length c4] 36) := ⟨_, rfl⟩
    rw [← hW5] at HB5 HM5 HC5 HV5 ⊢
    clear hW5
    obtain ⟨_, _, _, _, b4⟩ := HC5.out.cells
    obtain ⟨p0, p1, p2, p3⟩ := HB5.out.cells
    obtain ⟨z0, z1, z2, z3⟩ := HM5.out.r.cells
    have f0 := HM5.out.r.frozen 0
    have f1 := HM5.out.r.frozen 1
    have f2 := HM5.out.r.frozen 2
    have f3 := HM5.out.r.frozen 3
    by_cases hlt : (ar : Int) < a
    · have hd : decide ((ar : Int) < a) = true := decide_eq_true hlt
      have HE := Lib.hid (HR.out.trans (if_pos hlt))
      clear hlt
      go_wp2_with fail
      refine (with_any 22 _).mono ?_
      rintro e w6 ⟨rfl, rfl⟩
      exact ⟨rfl, knd_fail HE.out (by decide) HM5.out.below⟩
    · have hd : decide ((ar : Int) < a) = false := decide_eq_false hlt
      have HE := Lib.hid (HR.out.trans (if_neg hlt))
      clear hlt
      go_wp2_with fail
      refine bodyPost_ret (results_ty (a := 6) (by kernel_rfl) (B := w.heap.size + 1) (by rfl) (put4_cells HM5.out.r _ _ _ _).cells.1 (put4_cells HM5.out.r _ _ _ _).cells.2.1 (put4_cells HM5.out.r _ _ _ _).cells.2.2.1 (put4_cells HM5.out.r _ _ _ _).cells.2.2.2) rfl ?_
      have hz1 := HZ1.out
      have hz3 := HZ3.out
      have hok := HOK.out
      refine ⟨below_put4 HM5.out.below (by omega) _ _ _ _, .inr ⟨k4, _, HE.out, HG4.out, rfl, ?_⟩⟩
      exact HV5.out.keep (fun g hg => by rcases hg with (hg | hg) | hg; exact .inl hg; exact .inr (by omega); exact .inr (by omega)) (fun p v hp hc => put4_keep _ _ _ _ p v hc (by rcases hp with (hp | hp) | hp; (have := hok _ hp; omega); omega; omega))
end Ty
end Go.Proofs.Ytfjgebdpbmnicaa
