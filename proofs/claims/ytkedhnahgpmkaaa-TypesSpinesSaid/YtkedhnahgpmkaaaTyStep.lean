/- A list of types copied by append to a new empty slice: as a step of a region that draws. Conditions: none. -/
import Derived.Test.YtkedhnahgpmkaaaTyCopy
import Derived.Test.YtkedhnahgpmkaaaTyShiftsLaw
import Derived.Deep.AppendLies
namespace Go.Proofs.Ytkedhnahgpmkaaa
open Go.RowKit

namespace Ty
theorem own_made {W : World} {base g : Nat} (hg : W.heap.size = g) (hb : base ≤ g) : (W.alloc (.cells #[] 24)).ownsRow base 24 4 (.slice (some ⟨g, 0, none⟩) 0 0) 0 [] := by
  subst hg
  exact World.ownsRow_made (base := base) (e := 24) (size := 4) W #[] 0 hb (by unfold maxLen; omega) rfl
theorem run_copy {w0 w : World} {g0 : Nat} (ty : TypeId) (hown : w.ownsRow w0.heap.size 24 4 (.slice (some ⟨g0, 0, none⟩) 0 0) 0 []) (hb : Below w0.heap.size w0 w) {base : Option Addr} {l : List Ty} (cap : Nat) (hl : Sl w0 base l) (hn : l.length ≤ 2513169434843) :
    ∃ bb cap' w', (Builtin.append_ #[22, 22] ty #[.slice (some ⟨g0, 0, none⟩) 0 0, .slice base l.length cap]).run Try.prog w = .ok (.slice bb l.length cap') w' ∧ Sl w' bb l ∧ w.grownBy w' (some g0) ∧ Below w0.heap.size w0 w' := by
  obtain ⟨i0, hi, hz0, hz1, hz2⟩ := info_parts info24
  cases base with
  | none =>
    have hnil : l = [] := by
      rcases hl.2 with h | ⟨g, o, h, _⟩
      · exact h
      · cases h
    subst hnil
    refine ⟨some ⟨g0, 0, none⟩, 0, w, ?_, ⟨Nat.zero_le _, .inl rfl⟩, ⟨rfl, rfl, rfl, Nat.le_refl _, fun _ _ _ => rfl⟩, hb⟩
    simp [Builtin.append_, run_underlying Try.underlying22, sizeOf, typeInfo, hi, Builtin.lenOf, Builtin.firstCells, loadCells, loadCellsFrom, storeCells]
  | some ad =>
    obtain ⟨ds, ha, hc⟩ : ∃ ds, TC.AllOf (· < w0.heap.size) w0 ds l ∧ ∀ j u, (TC.all ds)[j]? = some u → w.cell? (ad.add j) = some u := by
      rcases hl.2 with h | ⟨g, o, h, hr⟩
      · subst h
        exact ⟨[], ⟨rfl, fun i h => absurd h (Nat.not_lt_zero _)⟩, fun j u h => by unfold TC.all at h; simp at h⟩
      · injection h with h
        subst h
        obtain ⟨ds, h1, h2⟩ := row_tc l o hr
        refine ⟨ds, h1, fun j u hu => ?_⟩
        rw [Addr.add_lit]
        exact keeps hb _ _ (h2 j u hu)
    obtain ⟨v', w', hr, h2, h3, _⟩ := run_append_own (P := Try.prog) w w0.heap.size 22 ty 24 i0 _ 4 56 Try.underlying22 hi hz0 hz1 hz2 rfl (by omega) _ 0 [] hown ad l.length cap (TC.all ds) (by rw [TC.all_len, ha.1]) hc (TC.all_one ds) (by unfold maxLen; omega) (by omega) hb.size
    rw [Nat.zero_add, List.nil_append, ← ha.1] at h2
    have hb' : Below w0.heap.size w0 w' := hb.grown h3 hb.size (fun m hm => (hown.lt m hm).1)
    obtain ⟨bb, cap', rfl, hs⟩ := copied h2 ha hb' hl.1
    exact ⟨bb, cap', w', hr, hs, h3, hb'⟩
theorem step_copy {ops : Array Oper} {o : Oper} {a : Act} {K : Act → World → Prop} {Q : Exit → Act → World → Prop} {E : Prop} (hgd : o.guard = none) (s x : Operand)
    (ho : o.op = .call { callee := .builtin .append, args := #[s, x], argTypes := #[22, 22] })
    {w0 w : World} {g0 : Nat} (hs : a.eval s = .slice (some ⟨g0, 0, none⟩) 0 0) (hown : w.ownsRow w0.heap.size 24 4 (.slice (some ⟨g0, 0, none⟩) 0 0) 0 []) (hb : Below w0.heap.size w0 w)
    {base : Option Addr} {l : List Ty} {n cap : Nat} (hx : a.eval x = .slice base n cap) (hln : l.length = n) (hl : Sl w0 base l) (hn : n ≤ 2513169434843)
    (h : ∀ bb cap' w', Sl w' bb l → w.grownBy w' (some g0) → Below w0.heap.size w0 w' → K (a.put o.dst (.slice bb n cap')) w') :
    if Region.wanted o (yielded ops a.tmps) = true then Oper.wp Try.prog o a w K Q else E := by
  subst hln
  have hw : Region.wanted o (yielded ops a.tmps) = true := by simp [Region.wanted, hgd]
  rw [if_pos hw]
  obtain ⟨bb, cap', w', hr, h2, h3, h4⟩ := run_copy o.type hown hb cap hl hn
  unfold Oper.wp execOp
  simp only [ho, resolve, invoke, builtin, Sem.run_bind, Sem.run_pure, Result.andThen_ok, List.map_toArray, List.map_cons, List.map_nil, hs, hx, hr]
  exact h bb cap' w' h2 h3 h4

end Ty
end Go.Proofs.Ytkedhnahgpmkaaa
