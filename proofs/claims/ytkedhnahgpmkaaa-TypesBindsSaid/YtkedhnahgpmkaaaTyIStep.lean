/- A list of numbers copied by append to a new empty slice: as a step of a region that draws. Conditions: none. -/
import Derived.Test.YtkedhnahgpmkaaaTyRAdd
import Derived.Test.YtkedhnahgpmkaaaTyRShN
import Derived.Deep.AppendLies
namespace Go.Proofs.Ytkedhnahgpmkaaa
open Go.RowKit

namespace Ty
theorem lsb_next5 {V0 W W' : World} {T : Nat} {r0 r1 r2 r3 : Value}
    (h : Hid (Below V0.heap.size V0 W) ∧ W.cell? ⟨T, 0, none⟩ = some r0 ∧ W.cell? ⟨T, 1, none⟩ = some r1 ∧ W.cell? ⟨T, 2, none⟩ = some r2 ∧ W.cell? ⟨T, 3, none⟩ = some r3) (hb : Below W.heap.size W W') :
    Hid (Below V0.heap.size V0 W') ∧ W'.cell? ⟨T, 0, none⟩ = some r0 ∧ W'.cell? ⟨T, 1, none⟩ = some r1 ∧ W'.cell? ⟨T, 2, none⟩ = some r2 ∧ W'.cell? ⟨T, 3, none⟩ = some r3 := by
  obtain ⟨b, k0, k1, k2, k3⟩ := h
  exact ⟨Lib.hid (b.out.trans (hb.mono b.out.size)), keeps hb _ _ k0, keeps hb _ _ k1, keeps hb _ _ k2, keeps hb _ _ k3⟩
theorem belowb_da (W : World) (o : Obj) : Below W.drew.heap.size W.drew (W.alloc o).drew := (Below.refl _ W.drew).alloc (Nat.le_refl _) o
theorem lsb_put5 {V0 W : World} {T B : Nat} {r0 r1 r2 r3 : Value} (v0 v1 v2 v3 : Value)
    (h : Hid (Below V0.heap.size V0 W) ∧ W.cell? ⟨T, 0, none⟩ = some r0 ∧ W.cell? ⟨T, 1, none⟩ = some r1 ∧ W.cell? ⟨T, 2, none⟩ = some r2 ∧ W.cell? ⟨T, 3, none⟩ = some r3) (hB : V0.heap.size ≤ B) (hT : T ≠ B) :
    Hid (Below V0.heap.size V0 ((((W.setCell ⟨B, 0, none⟩ v0).setCell ⟨B, 1, none⟩ v1).setCell ⟨B, 2, none⟩ v2).setCell ⟨B, 3, none⟩ v3)) ∧ ((((W.setCell ⟨B, 0, none⟩ v0).setCell ⟨B, 1, none⟩ v1).setCell ⟨B, 2, none⟩ v2).setCell ⟨B, 3, none⟩ v3).cell? ⟨T, 0, none⟩ = some r0 ∧ ((((W.setCell ⟨B, 0, none⟩ v0).setCell ⟨B, 1, none⟩ v1).setCell ⟨B, 2, none⟩ v2).setCell ⟨B, 3, none⟩ v3).cell? ⟨T, 1, none⟩ = some r1 ∧ ((((W.setCell ⟨B, 0, none⟩ v0).setCell ⟨B, 1, none⟩ v1).setCell ⟨B, 2, none⟩ v2).setCell ⟨B, 3, none⟩ v3).cell? ⟨T, 2, none⟩ = some r2 ∧ ((((W.setCell ⟨B, 0, none⟩ v0).setCell ⟨B, 1, none⟩ v1).setCell ⟨B, 2, none⟩ v2).setCell ⟨B, 3, none⟩ v3).cell? ⟨T, 3, none⟩ = some r3 := by
  obtain ⟨b, k0, k1, k2, k3⟩ := h
  exact ⟨Lib.hid (below_put4 b.out hB _ _ _ _), put4_keep _ _ _ _ _ _ k0 hT, put4_keep _ _ _ _ _ _ k1 hT, put4_keep _ _ _ _ _ _ k2 hT, put4_keep _ _ _ _ _ _ k3 hT⟩
theorem lsb_swap5 {V0 W : World} {o o' : Obj} {T : Nat} {r0 r1 r2 r3 : Value}
    (h : Hid (Below V0.heap.size V0 (W.alloc o)) ∧ (W.alloc o).cell? ⟨T, 0, none⟩ = some r0 ∧ (W.alloc o).cell? ⟨T, 1, none⟩ = some r1 ∧ (W.alloc o).cell? ⟨T, 2, none⟩ = some r2 ∧ (W.alloc o).cell? ⟨T, 3, none⟩ = some r3) (hs : V0.heap.size ≤ W.heap.size) (hT : T < V0.heap.size) :
    Hid (Below V0.heap.size V0 (W.alloc o')) ∧ (W.alloc o').cell? ⟨T, 0, none⟩ = some r0 ∧ (W.alloc o').cell? ⟨T, 1, none⟩ = some r1 ∧ (W.alloc o').cell? ⟨T, 2, none⟩ = some r2 ∧ (W.alloc o').cell? ⟨T, 3, none⟩ = some r3 := by
  obtain ⟨b, k0, k1, k2, k3⟩ := h
  have hT' : T < W.heap.size := by omega
  refine ⟨Lib.hid ⟨b.out.os, b.out.tape, b.out.output, by simp; omega, fun j hj => ?_⟩, swap_cell hT' k0, swap_cell hT' k1, swap_cell hT' k2, swap_cell hT' k3⟩
  have hj' : j < W.heap.size := by omega
  exact ((Below.heap_alloc W o' j hj').trans (Below.heap_alloc W o j hj').symm).trans (b.out.block j hj)
theorem own_imade {W : World} {base g : Nat} (hg : W.heap.size = g) (hb : base ≤ g) : (W.alloc (.cells #[] 3)).ownsRow base 3 1 (.slice (some ⟨g, 0, none⟩) 0 0) 0 [] := by
  subst hg
  exact World.ownsRow_made (base := base) (e := 3) (size := 1) W #[] 0 hb (by unfold maxLen; omega) rfl
theorem own_i1 {W : World} {base g : Nat} (hg : W.heap.size = g) (hb : base ≤ g) : (W.alloc (.cells #[] 3)).drew.ownsRow base 3 1 (.slice (some ⟨g, 0, none⟩) 0 0) 0 [] := own_imade hg hb
theorem own_i2 {W : World} {o : Obj} {base g : Nat} (hg : W.heap.size = g) (hb : base ≤ g) : ((W.alloc (.cells #[] 3)).alloc o).drew.ownsRow base 3 1 (.slice (some ⟨g, 0, none⟩) 0 0) 0 [] := (own_imade hg hb).alloc o
/-- the result's box, made ahead of the new slice or behind it, stands still while the slice grows -/
theorem ibox_a {W w7 : World} {g : Nat} (hg : ((W.alloc (Obj.cells #[.int .i64 0, .int .i64 0, .string ⟨#[]⟩, .slice none 0 0] 24)).alloc (Obj.cells #[] 3)).drew.grownBy w7 (some g)) (hne : W.heap.size ≠ g) : B4 w7 W.heap.size (.int .i64 0) (.int .i64 0) (.string ⟨#[]⟩) (.slice none 0 0) := by
  have h1 : ((W.alloc (Obj.cells #[.int .i64 0, .int .i64 0, .string ⟨#[]⟩, .slice none 0 0] 24)).alloc (Obj.cells #[] 3)).heap[W.heap.size]? = some (Obj.cells #[.int .i64 0, .int .i64 0, .string ⟨#[]⟩, .slice none 0 0] 24) := (heap_alloc_old _ _ (by simp)).trans (heap_alloc_new W (Obj.cells #[.int .i64 0, .int .i64 0, .string ⟨#[]⟩, .slice none 0 0] 24))
  exact (hg.block _ (lt_of_block h1) (fun e => hne (by injection e))).trans h1
theorem ibox_b {W w7 : World} {g : Nat} (hg : ((W.alloc (Obj.cells #[] 3)).alloc (Obj.cells #[.int .i64 0, .int .i64 0, .string ⟨#[]⟩, .slice none 0 0] 24)).drew.grownBy w7 (some g)) (hne : W.heap.size + 1 ≠ g) : B4 w7 (W.heap.size + 1) (.int .i64 0) (.int .i64 0) (.string ⟨#[]⟩) (.slice none 0 0) := by
  have h1 : ((W.alloc (Obj.cells #[] 3)).alloc (Obj.cells #[.int .i64 0, .int .i64 0, .string ⟨#[]⟩, .slice none 0 0] 24)).heap[W.heap.size + 1]? = some (Obj.cells #[.int .i64 0, .int .i64 0, .string ⟨#[]⟩, .slice none 0 0] 24) := by
    have h := heap_alloc_new (W.alloc (Obj.cells #[] 3)) (Obj.cells #[.int .i64 0, .int .i64 0, .string ⟨#[]⟩, .slice none 0 0] 24)
    rwa [show (W.alloc (Obj.cells #[] 3)).heap.size = W.heap.size + 1 from by simp] at h
  exact (hg.block _ (lt_of_block h1) (fun e => hne (by injection e))).trans h1

theorem OI.isl' {b : Nat} {v : Value} {l : List Int} {w : World} (h : OI b v l w) (hl : l.length ≤ 100000) : ∃ base cap, v = .slice base l.length cap ∧ ISl w base l := by
  have h0 := h
  obtain ⟨h1, h2⟩ := h
  rcases h2 with ⟨rfl, hn⟩ | ⟨g, cap, cur, rfl, hg, hh, hc, _⟩
  · exact ⟨none, 0, by rw [hn], by unfold maxLen; omega, .inl (List.eq_nil_of_length_eq_zero hn)⟩
  · refine ⟨some ⟨g, 0, none⟩, cap, rfl, by unfold maxLen; omega, .inr ⟨g, 0, rfl, fun i hi => ?_⟩⟩
    have := World.ownsRow.cells h0 (g := g) rfl i (encI (l[i]'hi)) (by rw [List.getElem?_map, List.getElem?_eq_getElem hi]; rfl)
    rwa [Addr.add_lit] at this
theorem run_icopy {w0 w : World} {g0 : Nat} (ty : TypeId) (hown : w.ownsRow w0.heap.size 3 1 (.slice (some ⟨g0, 0, none⟩) 0 0) 0 []) (hb : Below w0.heap.size w0 w) {base : Option Addr} {l : List Int} (cap : Nat) (hl : ISl w0 base l) (hn : l.length ≤ 100000) :
    ∃ bb cap' w', (Builtin.append_ #[25, 25] ty #[.slice (some ⟨g0, 0, none⟩) 0 0, .slice base l.length cap]).run Try.prog w = .ok (.slice bb l.length cap') w' ∧ ISl w' bb l ∧ w.grownBy w' (some g0) ∧ Below w0.heap.size w0 w' := by
  obtain ⟨i0, hi, hz0, hz1, hz2⟩ := info_parts info3
  cases base with
  | none =>
    have hnil : l = [] := by
      rcases hl.2 with h | ⟨g, o, h, _⟩
      · exact h
      · cases h
    subst hnil
    refine ⟨some ⟨g0, 0, none⟩, 0, w, ?_, ⟨Nat.zero_le _, .inl rfl⟩, ⟨rfl, rfl, rfl, Nat.le_refl _, fun _ _ _ => rfl⟩, hb⟩
    simp [Builtin.append_, run_underlying Try.underlying25, sizeOf, typeInfo, hi, Builtin.lenOf, Builtin.firstCells, loadCells, loadCellsFrom, storeCells]
  | some ad =>
    have hc : ∀ j u, (l.map encI)[j]? = some u → w.cell? (ad.add j) = some u := by
      rcases hl.2 with h | ⟨g, o, h, hr⟩
      · subst h
        intro j u hu
        simp at hu
      · injection h with h
        subst h
        intro j u hu
        rw [List.getElem?_map] at hu
        have hj : j < l.length := by
          rcases Nat.lt_or_ge j l.length with h | h
          · exact h
          · rw [List.getElem?_eq_none h] at hu; cases hu
        rw [List.getElem?_eq_getElem hj] at hu
        have hu2 : encI (l[j]'hj) = u := by simpa using hu
        rw [Addr.add_lit, ← hu2]
        exact keeps hb _ _ (hr j hj)
    obtain ⟨v', w', hr, h2, h3, _⟩ := run_append_own (P := Try.prog) w w0.heap.size 25 ty 3 i0 _ 1 8 Try.underlying25 hi hz0 hz1 hz2 rfl (by omega) _ 0 [] hown ad l.length cap (l.map encI) (by rw [List.length_map, Nat.mul_one]) hc (encI_one l) (by unfold maxLen; omega) (by omega) hb.size
    rw [Nat.zero_add, List.nil_append] at h2
    have hb' : Below w0.heap.size w0 w' := hb.grown h3 hb.size (fun m hm => (hown.lt m hm).1)
    have ho : OI w0.heap.size v' l w' := h2
    obtain ⟨bb, cap', rfl, hs⟩ := ho.isl' hn
    exact ⟨bb, cap', w', hr, hs, h3, hb'⟩
theorem step_icopy {ops : Array Oper} {o : Oper} {a : Act} {K : Act → World → Prop} {Q : Exit → Act → World → Prop} {E : Prop} (hgd : o.guard = none) (s x : Operand)
    (ho : o.op = .call { callee := .builtin .append, args := #[s, x], argTypes := #[25, 25] })
    {w0 w : World} {g0 : Nat} (hs : a.eval s = .slice (some ⟨g0, 0, none⟩) 0 0) (hown : w.ownsRow w0.heap.size 3 1 (.slice (some ⟨g0, 0, none⟩) 0 0) 0 []) (hb : Below w0.heap.size w0 w)
    {base : Option Addr} {l : List Int} {n cap : Nat} (hx : a.eval x = .slice base n cap) (hln : l.length = n) (hl : ISl w0 base l) (hn : n ≤ 100000)
    (h : ∀ bb cap' w', ISl w' bb l → w.grownBy w' (some g0) → Below w0.heap.size w0 w' → K (a.put o.dst (.slice bb n cap')) w') :
    if Region.wanted o (yielded ops a.tmps) = true then Oper.wp Try.prog o a w K Q else E := by
  subst hln
  have hw : Region.wanted o (yielded ops a.tmps) = true := by simp [Region.wanted, hgd]
  rw [if_pos hw]
  obtain ⟨bb, cap', w', hr, h2, h3, h4⟩ := run_icopy o.type hown hb cap hl hn
  unfold Oper.wp execOp
  simp only [ho, resolve, invoke, builtin, Sem.run_bind, Sem.run_pure, Result.andThen_ok, List.map_toArray, List.map_cons, List.map_nil, hs, hx, hr]
  exact h bb cap' w' h2 h3 h4
end Ty
end Go.Proofs.Ytkedhnahgpmkaaa
