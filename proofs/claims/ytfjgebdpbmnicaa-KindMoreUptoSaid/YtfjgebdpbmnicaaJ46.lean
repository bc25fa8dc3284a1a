/- What Kind returns. Conditions: what the walker's kind does where all kinds of variables, and the type, are proper. -/
import Derived.Test.YtfjgebdpbmnicaaJ42
import Derived.Test.YtfjgebdpbmnicaaJ45
import Derived.Test.YtfjgebdpbmnicaaJ30
namespace Go.Proofs.Ytfjgebdpbmnicaa
open Go.RowKit

namespace Ty
/-- what a function returns that gives a type and an error's number -/
def TopO (r : Res) (w : World) (e : Ending) (w' : World) : Prop := ∃ k n v, r.is k n ∧ e = .returned (.tuple #[v, .int .i64 n]) ∧ V w' k v ∧ Below w.heap.size w w'
theorem four_boxes (w : World) (o0 o1 o2 o3 : Obj) : ((((w.alloc o0).alloc o1).alloc o2).alloc o3).heap[w.heap.size]? = some o0 ∧ ((((w.alloc o0).alloc o1).alloc o2).alloc o3).heap[w.heap.size + 1]? = some o1 ∧ ((((w.alloc o0).alloc o1).alloc o2).alloc o3).heap[w.heap.size + 2]? = some o2 ∧ ((((w.alloc o0).alloc o1).alloc o2).alloc o3).heap[w.heap.size + 3]? = some o3 ∧ Below w.heap.size w ((((w.alloc o0).alloc o1).alloc o2).alloc o3) ∧ ((((w.alloc o0).alloc o1).alloc o2).alloc o3).heap.size = w.heap.size + 4 := by
  have s1 : (w.alloc o0).heap.size = w.heap.size + 1 := by simp
  have s2 : ((w.alloc o0).alloc o1).heap.size = w.heap.size + 2 := by simp
  have s3 : (((w.alloc o0).alloc o1).alloc o2).heap.size = w.heap.size + 3 := by simp
  refine ⟨?_, ?_, ?_, ?_, ?_, by simp⟩
  · exact (heap_alloc_old _ _ (by simp <;> omega)).trans ((heap_alloc_old _ _ (by simp <;> omega)).trans ((heap_alloc_old _ _ (by simp)).trans (heap_alloc_new _ _)))
  · have h := heap_alloc_new (w.alloc o0) o1
    rw [s1] at h
    exact (heap_alloc_old _ _ (by simp <;> omega)).trans ((heap_alloc_old _ _ (by simp)).trans h)
  · have h := heap_alloc_new ((w.alloc o0).alloc o1) o2
    rw [s2] at h
    exact (heap_alloc_old _ _ (by simp)).trans h
  · have h := heap_alloc_new (((w.alloc o0).alloc o1).alloc o2) o3
    rw [s3] at h
    exact h
  · exact ((((Below.refl w.heap.size w).alloc (Nat.le_refl _) _).alloc (by rw [s1]; omega) _).alloc (by rw [s2]; omega) _).alloc (by rw [s3]; omega) _

set_option maxHeartbeats 8000000 in
theorem kindtop_no (ctx metas rigids : List Ty) (t : Ty) (b0 b1 b2 b3 b4 b5 xb mb rb tb : Option Addr) (l0 l1 l2 l3 l4 l5 c0 c1 c2 c3 c4 c5 xc mc rc tc : Nat) (w : World) (hc : Sl w xb ctx) (hm : SlG 10 MetAt w mb metas) (hr : SlG 5 RigAt w rb rigids) (ht : V w t (.agg #[.int .i64 t.op, .int .i64 t.n, .string t.name, .slice tb t.args.length tc])) (hf : formedB ctx metas rigids = false) :
    Calls Try.prog 6 #[.agg #[.slice b0 l0 c0, .slice b1 l1 c1, .slice b2 l2 c2, .slice b3 l3 c3, .slice b4 l4 c4, .slice b5 l5 c5], .slice mb metas.length mc, .slice rb rigids.length rc, .slice xb ctx.length xc, .agg #[.int .i64 t.op, .int .i64 t.n, .string t.name, .slice tb t.args.length tc]] w (TopO (.bad 2) w) := by
  obtain ⟨_, x1, x2, x3, x4, x5⟩ := four_boxes w (Obj.cells #[.slice b0 l0 c0, .slice b1 l1 c1, .slice b2 l2 c2, .slice b3 l3 c3, .slice b4 l4 c4, .slice b5 l5 c5] 29) (Obj.cells #[.int .i64 t.op, .int .i64 t.n, .string t.name, .slice tb t.args.length tc] 36) (Obj.cells #[.int .i64 0, .int .i64 0, .string ⟨#[]⟩, .slice none 0 0] 36) (Obj.cells #[.pointer (some ⟨w.heap.size, 0, none⟩), .slice mb metas.length mc, .slice rb rigids.length rc, .slice xb ctx.length xc] 61)
  have HF := Lib.hid (fun W (hb : Below w.heap.size w W) => isformed_any w.heap.size ctx metas rigids xb mb rb xc mc rc W (hc.next hb) (SlG.next (R := MetAt) (fun _ _ h _ _ _ => MetAt.next h) hb hm) (SlG.next (R := RigAt) (fun _ _ h _ _ _ => RigAt.next h) hb hr))
  have HP := Lib.hid (fun W (hb : Below w.heap.size w W) => isprop_any t _ W (ht.next hb))
  have HT := Lib.hid (show B4 ((((w.alloc (Obj.cells #[.slice b0 l0 c0, .slice b1 l1 c1, .slice b2 l2 c2, .slice b3 l3 c3, .slice b4 l4 c4, .slice b5 l5 c5] 29)).alloc (Obj.cells #[.int .i64 t.op, .int .i64 t.n, .string t.name, .slice tb t.args.length tc] 36)).alloc (Obj.cells #[.int .i64 0, .int .i64 0, .string ⟨#[]⟩, .slice none 0 0] 36)).alloc (Obj.cells #[.pointer (some ⟨w.heap.size, 0, none⟩), .slice mb metas.length mc, .slice rb rigids.length rc, .slice xb ctx.length xc] 61)) (w.heap.size + 1) (.int .i64 t.op) (.int .i64 t.n) (.string t.name) (.slice tb t.args.length tc) from x1)
  have HR := Lib.hid (show B4 ((((w.alloc (Obj.cells #[.slice b0 l0 c0, .slice b1 l1 c1, .slice b2 l2 c2, .slice b3 l3 c3, .slice b4 l4 c4, .slice b5 l5 c5] 29)).alloc (Obj.cells #[.int .i64 t.op, .int .i64 t.n, .string t.name, .slice tb t.args.length tc] 36)).alloc (Obj.cells #[.int .i64 0, .int .i64 0, .string ⟨#[]⟩, .slice none 0 0] 36)).alloc (Obj.cells #[.pointer (some ⟨w.heap.size, 0, none⟩), .slice mb metas.length mc, .slice rb rigids.length rc, .slice xb ctx.length xc] 61)) (w.heap.size + 2) (.int .i64 0) (.int .i64 0) (.string ⟨#[]⟩) (.slice none 0 0) from x2)
  have HW := Lib.hid (show W4 ((((w.alloc (Obj.cells #[.slice b0 l0 c0, .slice b1 l1 c1, .slice b2 l2 c2, .slice b3 l3 c3, .slice b4 l4 c4, .slice b5 l5 c5] 29)).alloc (Obj.cells #[.int .i64 t.op, .int .i64 t.n, .string t.name, .slice tb t.args.length tc] 36)).alloc (Obj.cells #[.int .i64 0, .int .i64 0, .string ⟨#[]⟩, .slice none 0 0] 36)).alloc (Obj.cells #[.pointer (some ⟨w.heap.size, 0, none⟩), .slice mb metas.length mc, .slice rb rigids.length rc, .slice xb ctx.length xc] 61)) (w.heap.size + 3) (.pointer (some ⟨w.heap.size, 0, none⟩)) (.slice mb metas.length mc) (.slice rb rigids.length rc) (.slice xb ctx.length xc) from x3)
  have HB := Lib.hid x4
  have HS := Lib.hid x5
  clear x1 x2 x3 x4 x5 hc hm hr ht
  rw [hf] at HF
  clear hf HP
  go_enter Try.func6, Try.ntmps6
  go_upto_region 2 with fail
  obtain ⟨W3, hW3⟩ : ∃ W3, W3 = (((w.alloc (Obj.cells #[.slice b0 l0 c0, .slice b1 l1 c1, .slice b2 l2 c2, .slice b3 l3 c3, .slice b4 l4 c4, .slice b5 l5 c5] 29)).alloc (Obj.cells #[.int .i64 t.op, .int .i64 t.n, .string t.name, .slice tb t.args.length tc] 36)).alloc (Obj.cells #[.int .i64 0, .int .i64 0, .string ⟨#[]⟩, .slice none 0 0] 36)).alloc (Obj.cells #[.pointer (some ⟨w.heap.size, 0, none⟩), .slice mb metas.length mc, .slice rb rigids.length rc, .slice xb ctx.length xc] 61) := ⟨_, rfl⟩
  rw [← hW3] at HT HR HW HB HS ⊢
  clear hW3
  obtain ⟨d0, d1, d2, d3⟩ := W4.cells HW.out
  go_wp2_with fail
  refine (HF.out _ HB.out).mono ?_
  rintro e w4 ⟨rfl, hb4⟩
  have HB4 := Lib.hid (HB.out.trans (hb4.mono HB.out.size))
  have HR4 := Lib.hid (B4.next HR.out hb4)
  have HT4 := Lib.hid (B4.next HT.out hb4)
  have HW4 := Lib.hid ((hb4.block _ (lt_of_block HW.out)).trans HW.out)
  clear hb4 d0 d1 d2 d3
  obtain ⟨z0, z1, z2, z3⟩ := B4.cells HR4.out
  have f0 := B4.frozen HR4.out 0
  have f1 := B4.frozen HR4.out 1
  have f2 := B4.frozen HR4.out 2
  have f3 := B4.frozen HR4.out 3
  go_wp2_with fail
  refine bodyPost_ret (results_two (a := 10) (b := 11) (by kernel_rfl) (B := w.heap.size + 2) (o := 0) (by rfl) (by rfl) (put4_cells HR4.out _ _ _ _).cells.1 (put4_cells HR4.out _ _ _ _).cells.2.1 (put4_cells HR4.out _ _ _ _).cells.2.2.1 (put4_cells HR4.out _ _ _ _).cells.2.2.2) rfl ?_
  exact ⟨zeroT, 2, _, ⟨rfl, rfl, by decide⟩, rfl, ⟨none, 0, rfl, Nat.zero_le _, Nat.zero_le _, .inl rfl⟩, below_put4 HB4.out (by omega) _ _ _ _⟩

set_option maxHeartbeats 8000000 in
theorem kindtop_bad (ctx metas rigids : List Ty) (t : Ty) (b0 b1 b2 b3 b4 b5 xb mb rb tb : Option Addr) (l0 l1 l2 l3 l4 l5 c0 c1 c2 c3 c4 c5 xc mc rc tc : Nat) (w : World) (hc : Sl w xb ctx) (hm : SlG 10 MetAt w mb metas) (hr : SlG 5 RigAt w rb rigids) (ht : V w t (.agg #[.int .i64 t.op, .int .i64 t.n, .string t.name, .slice tb t.args.length tc])) (hf : formedB ctx metas rigids = true) (hp : isProper t = false) :
    Calls Try.prog 6 #[.agg #[.slice b0 l0 c0, .slice b1 l1 c1, .slice b2 l2 c2, .slice b3 l3 c3, .slice b4 l4 c4, .slice b5 l5 c5], .slice mb metas.length mc, .slice rb rigids.length rc, .slice xb ctx.length xc, .agg #[.int .i64 t.op, .int .i64 t.n, .string t.name, .slice tb t.args.length tc]] w (TopO (.bad 2) w) := by
  obtain ⟨_, x1, x2, x3, x4, x5⟩ := four_boxes w (Obj.cells #[.slice b0 l0 c0, .slice b1 l1 c1, .slice b2 l2 c2, .slice b3 l3 c3, .slice b4 l4 c4, .slice b5 l5 c5] 29) (Obj.cells #[.int .i64 t.op, .int .i64 t.n, .string t.name, .slice tb t.args.length tc] 36) (Obj.cells #[.int .i64 0, .int .i64 0, .string ⟨#[]⟩, .slice none 0 0] 36) (Obj.cells #[.pointer (some ⟨w.heap.size, 0, none⟩), .slice mb metas.length mc, .slice rb rigids.length rc, .slice xb ctx.length xc] 61)
  have HF := Lib.hid (fun W (hb : Below w.heap.size w W) => isformed_any w.heap.size ctx metas rigids xb mb rb xc mc rc W (hc.next hb) (SlG.next (R := MetAt) (fun _ _ h _ _ _ => MetAt.next h) hb hm) (SlG.next (R := RigAt) (fun _ _ h _ _ _ => RigAt.next h) hb hr))
  have HP := Lib.hid (fun W (hb : Below w.heap.size w W) => isprop_any t _ W (ht.next hb))
  have HT := Lib.hid (show B4 ((((w.alloc (Obj.cells #[.slice b0 l0 c0, .slice b1 l1 c1, .slice b2 l2 c2, .slice b3 l3 c3, .slice b4 l4 c4, .slice b5 l5 c5] 29)).alloc (Obj.cells #[.int .i64 t.op, .int .i64 t.n, .string t.name, .slice tb t.args.length tc] 36)).alloc (Obj.cells #[.int .i64 0, .int .i64 0, .string ⟨#[]⟩, .slice none 0 0] 36)).alloc (Obj.cells #[.pointer (some ⟨w.heap.size, 0, none⟩), .slice mb metas.length mc, .slice rb rigids.length rc, .slice xb ctx.length xc] 61)) (w.heap.size + 1) (.int .i64 t.op) (.int .i64 t.n) (.string t.name) (.slice tb t.args.length tc) from x1)
  have HR := Lib.hid (show B4 ((((w.alloc (Obj.cells #[.slice b0 l0 c0, .slice b1 l1 c1, .slice b2 l2 c2, .slice b3 l3 c3, .slice b4 l4 c4, .slice b5 l5 c5] 29)).alloc (Obj.cells #[.int .i64 t.op, .int .i64 t.n, .string t.name, .slice tb t.args.length tc] 36)).alloc (Obj.cells #[.int .i64 0, .int .i64 0, .string ⟨#[]⟩, .slice none 0 0] 36)).alloc (Obj.cells #[.pointer (some ⟨w.heap.size, 0, none⟩), .slice mb metas.length mc, .slice rb rigids.length rc, .slice xb ctx.length xc] 61)) (w.heap.size + 2) (.int .i64 0) (.int .i64 0) (.string ⟨#[]⟩) (.slice none 0 0) from x2)
  have HW := Lib.hid (show W4 ((((w.alloc (Obj.cells #[.slice b0 l0 c0, .slice b1 l1 c1, .slice b2 l2 c2, .slice b3 l3 c3, .slice b4 l4 c4, .slice b5 l5 c5] 29)).alloc (Obj.cells #[.int .i64 t.op, .int .i64 t.n, .string t.name, .slice tb t.args.length tc] 36)).alloc (Obj.cells #[.int .i64 0, .int .i64 0, .string ⟨#[]⟩, .slice none 0 0] 36)).alloc (Obj.cells #[.pointer (some ⟨w.heap.size, 0, none⟩), .slice mb metas.length mc, .slice rb rigids.length rc, .slice xb ctx.length xc] 61)) (w.heap.size + 3) (.pointer (some ⟨w.heap.size, 0, none⟩)) (.slice mb metas.length mc) (.slice rb rigids.length rc) (.slice xb ctx.length xc) from x3)
  have HB := Lib.hid x4
  have HS := Lib.hid x5
  clear x1 x2 x3 x4 x5 hc hm hr ht
  rw [hf] at HF
  rw [hp] at HP
  clear hf hp
  go_enter Try.func6, Try.ntmps6
  go_upto_region 2 with fail
  obtain ⟨W3, hW3⟩ : ∃ W3, W3 = (((w.alloc (Obj.cells #[.slice b0 l0 c0, .slice b1 l1 c1, .slice b2 l2 c2, .slice b3 l3 c3, .slice b4 l4 c4, .slice b5 l5 c5] 29)).alloc (Obj.cells #[.int .i64 t.op, .int .i64 t.n, .string t.name, .slice tb t.args.length tc] 36)).alloc (Obj.cells #[.int .i64 0, .int .i64 0, .string ⟨#[]⟩, .slice none 0 0] 36)).alloc (Obj.cells #[.pointer (some ⟨w.heap.size, 0, none⟩), .slice mb metas.length mc, .slice rb rigids.length rc, .slice xb ctx.length xc] 61) := ⟨_, rfl⟩
  rw [← hW3] at HT HR HW HB HS ⊢
  clear hW3
  obtain ⟨d0, d1, d2, d3⟩ := W4.cells HW.out
  go_wp2_with fail
  refine (HF.out _ HB.out).mono ?_
  rintro e w4 ⟨rfl, hb4⟩
  have HB4 := Lib.hid (HB.out.trans (hb4.mono HB.out.size))
  have HR4 := Lib.hid (B4.next HR.out hb4)
  have HT4 := Lib.hid (B4.next HT.out hb4)
  have HW4 := Lib.hid ((hb4.block _ (lt_of_block HW.out)).trans HW.out)
  clear hb4 d0 d1 d2 d3
  obtain ⟨d0, d1, d2, d3⟩ := B4.cells HT4.out
  go_wp2_with fail
  refine (HP.out _ HB4.out).mono ?_
  rintro e w5 ⟨rfl, hb5⟩
  have HB5 := Lib.hid (HB4.out.trans (hb5.mono HB4.out.size))
  have HR5 := Lib.hid (B4.next HR4.out hb5)
  clear hb5 d0 d1 d2 d3
  obtain ⟨z0, z1, z2, z3⟩ := B4.cells HR5.out
  have f0 := B4.frozen HR5.out 0
  have f1 := B4.frozen HR5.out 1
  have f2 := B4.frozen HR5.out 2
  have f3 := B4.frozen HR5.out 3
  go_wp2_with fail
  refine bodyPost_ret (results_two (a := 10) (b := 11) (by kernel_rfl) (B := w.heap.size + 2) (o := 0) (by rfl) (by rfl) (put4_cells HR5.out _ _ _ _).cells.1 (put4_cells HR5.out _ _ _ _).cells.2.1 (put4_cells HR5.out _ _ _ _).cells.2.2.1 (put4_cells HR5.out _ _ _ _).cells.2.2.2) rfl ?_
  exact ⟨zeroT, 2, _, ⟨rfl, rfl, by decide⟩, rfl, ⟨none, 0, rfl, Nat.zero_le _, Nat.zero_le _, .inl rfl⟩, below_put4 HB5.out (by omega) _ _ _ _⟩
end Ty
end Go.Proofs.Ytfjgebdpbmnicaa

/- What Constant returns. Conditions: what find does. -/
namespace Go.Proofs.Ytfjgebdpbmnicaa
open Go.RowKit

namespace Ty
theorem two_objs (w : World) (o0 o1 : Obj) : ((w.alloc o0).alloc o1).heap[w.heap.size]? = some o0 ∧ ((w.alloc o0).alloc o1).heap[w.heap.size + 1]? = some o1 ∧ Below w.heap.size w ((w.alloc o0).alloc o1) := by
  have s1 : (w.alloc o0).heap.size = w.heap.size + 1 := by simp
  refine ⟨(heap_alloc_old _ _ (by simp)).trans (heap_alloc_new _ _), ?_, ((Below.refl w.heap.size w).alloc (Nat.le_refl _) _).alloc (by rw [s1]; omega) _⟩
  have h := heap_alloc_new (w.alloc o0) o1
  rw [s1] at h
  exact h
/-- what Constant gives: the kind anew, and the error's number -/
def CstO (r : Res) (w : World) (e : Ending) (w' : World) : Prop := ∃ k n v, r.is k n ∧ e = .returned (.tuple #[v, .int .i64 n]) ∧ V w' (anewV k) v ∧ Below w.heap.size w w'
set_option maxHeartbeats 8000000 in
theorem const_any {ok : Nat → Prop} (r : Res × Int) (s : ByteArray) (b0 b1 b2 b3 b4 b5 : Option Addr) (l0 l1 l2 l3 l4 l5 c0 c1 c2 c3 c4 c5 : Nat) (w : World) (hk : ∀ W, Below w.heap.size w W → W.heap[w.heap.size]? = some (Obj.cells #[.slice b0 l0 c0, .slice b1 l1 c1, .slice b2 l2 c2, .slice b3 l3 c3, .slice b4 l4 c4, .slice b5 l5 c5] 29) → Calls Try.prog 8 #[.pointer (some ⟨w.heap.size, 0, none⟩), .string s] W (ConO ok r W)) :
    Calls Try.prog 4 #[.agg #[.slice b0 l0 c0, .slice b1 l1 c1, .slice b2 l2 c2, .slice b3 l3 c3, .slice b4 l4 c4, .slice b5 l5 c5], .string s] w (CstO r.1 w) := by
  obtain ⟨x0, x1, x2⟩ := two_objs w (Obj.cells #[.slice b0 l0 c0, .slice b1 l1 c1, .slice b2 l2 c2, .slice b3 l3 c3, .slice b4 l4 c4, .slice b5 l5 c5] 29) (Obj.cells #[.int .i64 0, .int .i64 0, .string ⟨#[]⟩, .slice none 0 0] 36)
  have HR := Lib.hid (show B4 ((w.alloc (Obj.cells #[.slice b0 l0 c0, .slice b1 l1 c1, .slice b2 l2 c2, .slice b3 l3 c3, .slice b4 l4 c4, .slice b5 l5 c5] 29)).alloc (Obj.cells #[.int .i64 0, .int .i64 0, .string ⟨#[]⟩, .slice none 0 0] 36)) (w.heap.size + 1) (.int .i64 0) (.int .i64 0) (.string ⟨#[]⟩) (.slice none 0 0) from x1)
  have HE := Lib.hid x0
  have HB := Lib.hid x2
  have HK := Lib.hid hk
  clear x0 x1 x2 hk
  go_enter Try.func4, Try.ntmps4
  go_upto_region 1 with fail
  obtain ⟨W3, hW3⟩ : ∃ W3, W3 = (w.alloc (Obj.cells #[.slice b0 l0 c0, .slice b1 l1 c1, .slice b2 l2 c2, .slice b3 l3 c3, .slice b4 l4 c4, .slice b5 l5 c5] 29)).alloc (Obj.cells #[.int .i64 0, .int .i64 0, .string ⟨#[]⟩, .slice none 0 0] 36) := ⟨_, rfl⟩
  rw [← hW3] at HR HB HE ⊢
  clear hW3
  go_wp2_with fail
  refine (HK.out _ HB.out HE.out).mono ?_
  rintro e w4 ⟨k, n, c, hr, rfl, ⟨b, cap, rfl, h1, h2⟩, hb4⟩
  have hal : Below w4.heap.size w4 (w4.alloc (Obj.cells #[.int .i64 k.op, .int .i64 k.n, .string k.name, .slice b k.args.length cap, .int .i64 r.2] 51)) := (Below.refl _ _).alloc (Nat.le_refl _) _
  have hbx : B5 (w4.alloc (Obj.cells #[.int .i64 k.op, .int .i64 k.n, .string k.name, .slice b k.args.length cap, .int .i64 r.2] 51)) w4.heap.size (.int .i64 k.op) (.int .i64 k.n) (.string k.name) (.slice b k.args.length cap) (.int .i64 r.2) := heap_alloc_new _ _
  have HV := Lib.hid (V.next hal (VO.weak (ok := fun g => ok g ∨ W3.heap.size ≤ g) (show VO _ w4 k (.agg #[.int .i64 k.op, .int .i64 k.n, .string k.name, .slice b k.args.length cap]) from ⟨b, cap, rfl, h1, h2⟩)))
  have HRR := Lib.hid hr
  have HB4 := Lib.hid ((HB.out.trans (hb4.mono HB.out.size)).trans (hal.mono (by have := HB.out.size; have := hb4.size; omega)))
  have HR4 := Lib.hid (B4.next (B4.next HR.out hb4) hal)
  have HX := Lib.hid hbx
  clear hr h1 h2 hb4 hal hbx
  go_upto_region 2 with fail
  obtain ⟨W4, hW4⟩ : ∃ W4, W4 = w4.alloc (Obj.cells #[.int .i64 k.op, .int .i64 k.n, .string k.name, .slice b k.args.length cap, .int .i64 r.2] 51) := ⟨_, rfl⟩
  rw [← hW4] at HV HB4 HR4 HX ⊢
  clear hW4
  obtain ⟨d0, d1, d2, d3, d4⟩ := B5.cells HX.out
  go_wp2_with fail
  refine (anewk_any k _ _ HV.out).mono ?_
  rintro e w5 ⟨v5, rfl, ⟨b9, c9, rfl, hs9, hl9⟩, hb5⟩
  have HB5 := Lib.hid (HB4.out.trans (hb5.mono HB4.out.size))
  have HR5 := Lib.hid (B4.next HR4.out hb5)
  have HZ := Lib.hid (lt_of_block HR4.out)
  have HS9 := Lib.hid hs9
  have HL9 := Lib.hid hl9
  clear hs9 hl9 hb5 d0 d1 d2 d3 d4
  obtain ⟨z0, z1, z2, z3⟩ := B4.cells HR5.out
  have f0 := B4.frozen HR5.out 0
  have f1 := B4.frozen HR5.out 1
  have f2 := B4.frozen HR5.out 2
  have f3 := B4.frozen HR5.out 3
  go_wp2_with fail
  refine bodyPost_ret (results_two (a := 4) (b := 5) (by kernel_rfl) (B := w.heap.size + 1) (o := 0) (by rfl) (by rfl) (put4_cells HR5.out _ _ _ _).cells.1 (put4_cells HR5.out _ _ _ _).cells.2.1 (put4_cells HR5.out _ _ _ _).cells.2.2.1 (put4_cells HR5.out _ _ _ _).cells.2.2.2) rfl ?_
  have hz := HZ.out
  exact ⟨k, n, _, HRR.out, rfl, VO.weak (ok := (W4.heap.size ≤ ·)) ⟨b9, c9, rfl, HS9.out, HL9.out.keep (fun _ h => h) (fun p v hp hc => put4_keep _ _ _ _ p v hc (by have : W4.heap.size ≤ p.block := hp; omega))⟩, below_put4 HB5.out (by omega) _ _ _ _⟩
end Ty
end Go.Proofs.Ytfjgebdpbmnicaa
