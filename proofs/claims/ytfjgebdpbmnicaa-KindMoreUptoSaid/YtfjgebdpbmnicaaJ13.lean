/- What shift returns. Conditions: the type is well formed; the numbers are at most 9999. -/
import Derived.Test.YtfjgebdpbmnicaaJ12
import Derived.Deep.RegionHeld3
namespace Go.Proofs.Ytfjgebdpbmnicaa
open Go.RowKit

namespace Ty
/-- a type that was shifted by d from f on, and whether no variable got a number less than f -/
def shiftT (d f : Int) (t : Ty) : Ty × Bool := reb (shF d f) t 0 true
def ShiftP (d f : Int) (t : Ty) (w : World) (e : Ending) (w' : World) : Prop :=
  ∃ v, e = .returned (.tuple #[v, .bool (shiftT d f t).2]) ∧ VO (w.heap.size ≤ ·) w' (shiftT d f t).1 v ∧ Below w.heap.size w w'

/-- five boxes -/
structure Five (w W : World) (a0 a1 a2 a3 b c v : Value) : Prop where
  below : Below w.heap.size w W
  size : W.heap.size = w.heap.size + 5
  t : B4 W w.heap.size a0 a1 a2 a3
  b : W.heap[w.heap.size + 1]? = some (.cells #[b] 3 (0, 0))
  c : W.heap[w.heap.size + 2]? = some (.cells #[c] 3 (0, 0))
  r : B4 W (w.heap.size + 3) (.int .i64 0) (.int .i64 0) (.string ⟨#[]⟩) (.slice none 0 0)
  v : W.heap[w.heap.size + 4]? = some (.cells #[v] 4 (0, 0))
theorem push_at (w : World) (o : Obj) (n : Nat) (h : w.heap.size = n) : (w.alloc o).heap[n]? = some o := by rw [← h]; exact heap_alloc_new w o
theorem push_old {w : World} {o x : Obj} {n : Nat} (h : w.heap[n]? = some x) : (w.alloc o).heap[n]? = some x := (Below.heap_alloc _ _ _ (lt_of_block h)).trans h
theorem Five.new (w : World) (a0 a1 a2 a3 b c v : Value) : Five w (((((w.alloc (Obj.cells #[a0, a1, a2, a3] 36)).alloc (Obj.cells #[b] 3)).alloc (Obj.cells #[c] 3)).alloc (Obj.cells #[.int .i64 0, .int .i64 0, .string ⟨#[]⟩, .slice none 0 0] 36)).alloc (Obj.cells #[v] 4)) a0 a1 a2 a3 b c v := by
  refine ⟨?_, by simp, ?_, ?_, ?_, ?_, ?_⟩
  · exact (((((Below.refl _ _).alloc (Nat.le_refl _) _).alloc (by simp) _).alloc (by simp; omega) _).alloc (by simp; omega) _).alloc (by simp; omega) _
  · exact push_old (push_old (push_old (push_old (push_at _ _ _ rfl))))
  · exact push_old (push_old (push_old (push_at _ _ _ (by simp))))
  · exact push_old (push_old (push_at _ _ _ (by simp)))
  · exact push_old (push_at _ _ _ (by simp))
  · exact push_at _ _ _ (by simp)

set_option maxHeartbeats 4000000 in
theorem shift_any (t : Ty) (hg : Good t) (hn : nodes t ≤ 1000000) (d f : Int) (hf : 0 ≤ f ∧ f ≤ 9999) (hd : -1000000 ≤ d ∧ d ≤ 1000000) (v : Value) (w : World) (hv : V w t v) : Calls Try.prog 63 #[v, .int .i64 d, .int .i64 f] w (ShiftP d f t w) := by
  have hcall := fun (W : World) (hb : Below w.heap.size w W) (h5 : W.heap.size = w.heap.size + 5) (hi : ShI (w.heap.size + 2) (w.heap.size + 1) (w.heap.size + 4) d f W true) =>
    rep_of (reb_101 (shift_leaf w W.heap.size hf hd (by omega) (by omega)) (fun W1 W2 st h hb2 => ShI.next (base := W.heap.size) h (by omega) (by omega) (by omega) hb2) (fun j hj => by injection hj with hj; omega) hb.size t hg) (fun W1 W2 st h hb2 => ShI.next (base := W.heap.size) h (by omega) (by omega) (by omega) hb2) (fun j hj => by injection hj with hj; omega) v true W hv hb (Nat.le_refl _) hi (by omega)
  obtain ⟨b, c, ev, _, _⟩ := hv
  subst ev
  have H5 := Lib.hid (Five.new w (.int .i64 t.op) (.int .i64 t.n) (.string t.name) (.slice b t.args.length c) (.int .i64 d) (.int .i64 f) (.bool true))
  have HC := Lib.hid hcall
  clear hcall
  unfold ShiftP shiftT
  obtain ⟨r, hr⟩ : ∃ r, r = reb (shF d f) t 0 true := ⟨_, rfl⟩
  rw [← hr] at HC ⊢
  clear hr
  obtain ⟨r, k⟩ := r
  go_enter Try.func63, Try.ntmps63
  go_upto_region 2 with fail
  obtain ⟨W5, hW5⟩ : ∃ W5, W5 = ((((w.alloc (Obj.cells #[.int .i64 t.op, .int .i64 t.n, .string t.name, .slice b t.args.length c] 36)).alloc (Obj.cells #[.int .i64 d] 3)).alloc (Obj.cells #[.int .i64 f] 3)).alloc (Obj.cells #[.int .i64 0, .int .i64 0, .string ⟨#[]⟩, .slice none 0 0] 36)).alloc (Obj.cells #[.bool true] 4) := ⟨_, rfl⟩
  rw [← hW5] at H5 ⊢
  clear hW5
  obtain ⟨c0, c1, c2, c3⟩ := H5.out.t.cells
  go_wp2_with fail
  refine (HC.out W5 H5.out.below H5.out.size ⟨H5.out.c, H5.out.b, H5.out.v⟩).mono ?_
  rintro e w2 ⟨v, rfl, ⟨b9, c9, rfl, hs9, hl9⟩, hgr, hi2⟩
  have HV9 : Hid (VO (W5.heap.size ≤ ·) w2 r _) := Lib.hid ⟨b9, c9, rfl, hs9, hl9⟩
  have HR6 : Hid (B4 w2 (w.heap.size + 3) (.int .i64 0) (.int .i64 0) (.string ⟨#[]⟩) (.slice none 0 0)) := Lib.hid ((hgr.block _ (lt_of_block H5.out.r) (by simp)).trans H5.out.r)
  have HK := Lib.hid hi2.kept
  have HB := Lib.hid ((H5.out.below).grown hgr H5.out.below.size (fun j hj => by injection hj with hj; omega))
  have HSZ : Hid (w.heap.size + 5 ≤ w2.heap.size) := Lib.hid (by have := hgr.size; have := H5.out.size; omega)
  have HS5 := Lib.hid H5.out.size
  simp only at HK HV9 hl9 hs9
  clear hs9 hl9 hgr hi2 H5 HC c0 c1 c2 c3
  go_upto_region 3 with fail
  obtain ⟨W9, hW9⟩ : ∃ W9, W9 = w2.alloc (Obj.cells #[.int .i64 r.op, .int .i64 r.n, .string r.name, .slice b9 r.args.length c9] 36) := ⟨_, rfl⟩
  have ht9 : B4 W9.drew w2.heap.size (.int .i64 r.op) (.int .i64 r.n) (.string r.name) (.slice b9 r.args.length c9) := by rw [hW9]; exact heap_alloc_new _ _
  have hb9 : Below w2.heap.size w2 W9.drew := by rw [hW9]; exact ((Below.refl _ _).alloc (Nat.le_refl _) _).drew
  rw [← hW9]
  clear hW9
  have HR := Lib.hid (HR6.out.next hb9)
  have HV := Lib.hid (HV9.out.next hb9)
  have HBF := Lib.hid (HB.out.trans (hb9.mono HB.out.size))
  have q8 : W9.drew.cell? ⟨w.heap.size + 4, 0, none⟩ = some (.bool k) := keeps hb9 _ _ (one_cell HK.out)
  have hz := HSZ.out
  have hne1 : w2.heap.size ≠ w.heap.size + 3 := by omega
  have hne2 : w.heap.size + 4 ≠ w.heap.size + 3 := by omega
  obtain ⟨t0, t1, t2, t3⟩ := ht9.cells
  have hr9 : B4 W9 (w.heap.size + 3) (.int .i64 0) (.int .i64 0) (.string ⟨#[]⟩) (.slice none 0 0) := HR.out
  obtain ⟨z0, z1, z2, z3⟩ := hr9.cells
  have f0 := hr9.frozen 0
  have f1 := hr9.frozen 1
  have f2 := hr9.frozen 2
  have f3 := hr9.frozen 3
  clear hr9 HR6 HV9 HB HK hb9 ht9
  go_region_held3 (fun W => W.cell? ⟨w2.heap.size, 0, none⟩ = some (.int .i64 r.op) ∧ W.cell? ⟨w2.heap.size, 1, none⟩ = some (.int .i64 r.n) ∧ W.cell? ⟨w2.heap.size, 2, none⟩ = some (.string r.name) ∧ W.cell? ⟨w2.heap.size, 3, none⟩ = some (.slice b9 r.args.length c9) ∧ W.cell? ⟨w.heap.size + 4, 0, none⟩ = some (.bool k))
    (first | (with_reducible exact ⟨t0, t1, t2, t3, q8⟩) | exact ⟨put4_keep _ _ _ _ _ _ t0 hne1, put4_keep _ _ _ _ _ _ t1 hne1, put4_keep _ _ _ _ _ _ t2 hne1, put4_keep _ _ _ _ _ _ t3 hne1, put4_keep _ _ _ _ _ _ q8 hne2⟩)
    (fail)
  rename_i hS
  clear hS
  go_wp2_with fail
  refine bodyPost_ret (results_two (a := 6) (b := 7) (by kernel_rfl) (B := w.heap.size + 3) (by rfl) (by rfl) (put4_cells HR.out _ _ _ _).cells.1 (put4_cells HR.out _ _ _ _).cells.2.1 (put4_cells HR.out _ _ _ _).cells.2.2.1 (put4_cells HR.out _ _ _ _).cells.2.2.2) rfl ?_
  have hs5 := HS5.out
  refine ⟨_, rfl, HV.out.keep (fun g hg => by show w.heap.size ≤ g; have : W5.heap.size ≤ g := hg; omega) (fun p v hp hc => put4_keep _ _ _ _ p v hc (by have : W5.heap.size ≤ p.block := hp; omega)), below_put4 HBF.out (by omega) _ _ _ _⟩

end Ty
end Go.Proofs.Ytfjgebdpbmnicaa
