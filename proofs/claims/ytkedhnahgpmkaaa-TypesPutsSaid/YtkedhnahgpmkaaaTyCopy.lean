/- Plain: a list of types in memory as cells, and copied into a row of the call's own. Conditions: none. -/
import Derived.Test.YtkedhnahgpmkaaaTySpine
namespace Go.Proofs.Ytkedhnahgpmkaaa
open Go.RowKit

namespace Ty
/-- a row of types as cells -/
theorem row_tc {w : World} {g : Nat} : ∀ (l : List Ty) (o : Nat), Row w g o l → ∃ ds, TC.AllOf (· < w.heap.size) w ds l ∧ ∀ j u, (TC.all ds)[j]? = some u → w.cell? ⟨g, o + j, none⟩ = some u
  | [], o, _ => ⟨[], ⟨rfl, fun i h => absurd h (Nat.not_lt_zero _)⟩, fun j u h => by unfold TC.all at h; simp at h⟩
  | t :: l, o, hr => by
    obtain ⟨ds, ⟨h1, h2⟩, h3⟩ := row_tc l (o + 4) hr.2
    obtain ⟨c0, c1, c2, hs, b, cap, c3, hsl⟩ := atO_iff.mp hr.1.bound
    refine ⟨⟨t.op, t.n, t.name, b, t.args.length, cap⟩ :: ds, ⟨by simp [h1], fun i h h' => ?_⟩, fun j u hu => ?_⟩
    · cases i with
      | zero => exact ⟨rfl, rfl, rfl, rfl, hs, hsl⟩
      | succ i => exact h2 i (by simpa using h) (by simpa using h')
    · unfold TC.all at hu h3
      rw [List.flatMap_cons] at hu
      by_cases hj : j < 4
      · rw [List.getElem?_append_left (by rw [TC.enc_len]; exact hj)] at hu
        match j, hj, hu with
        | 0, _, hu => injection hu with hu; rw [← hu]; exact c0
        | 1, _, hu => injection hu with hu; rw [← hu]; exact c1
        | 2, _, hu => injection hu with hu; rw [← hu]; exact c2
        | 3, _, hu => injection hu with hu; rw [← hu]; exact c3
      · rw [List.getElem?_append_right (by rw [TC.enc_len]; omega), TC.enc_len] at hu
        have := h3 (j - 4) u hu
        rwa [show o + 4 + (j - 4) = o + j from by omega] at this
theorem TC.all_one (ds : List TC) : ∀ u ∈ TC.all ds, u.oneCell' = true := by
  intro u hu
  unfold TC.all at hu
  obtain ⟨x, _, hx⟩ := List.mem_flatMap.mp hu
  exact TC.enc_one x u hx
/-- a list that was copied into a row of the call's own -/
theorem copied {w W : World} {base : Nat} {ov : Value} {ds : List TC} {l : List Ty} (h : W.ownsRow base 24 4 ov ds.length (TC.all ds)) (ha : TC.AllOf (· < w.heap.size) w ds l) (hb : Below w.heap.size w W) (hl : l.length ≤ maxLen) : ∃ bb cap, ov = .slice bb l.length cap ∧ Sl W bb l := by
  by_cases hne : ds = []
  · subst hne
    have hnil : l = [] := List.eq_nil_of_length_eq_zero ha.1.symm
    subst hnil
    obtain ⟨_, ⟨h1, h2⟩ | ⟨g, cap, cur, h1, _⟩⟩ := h
    · exact ⟨none, 0, h1, Nat.zero_le _, .inl rfl⟩
    · exact ⟨_, cap, h1, Nat.zero_le _, .inl rfl⟩
  · obtain ⟨g, cap, hov, _, hk⟩ := cells_own h hne
    exact ⟨some ⟨g, 0, none⟩, cap, by rw [hov, ha.1], hl, .inr ⟨g, 0, rfl, RowO.weak (ok := fun _ => True) (row_held hk (ha.keep (fun _ _ => trivial) (fun p v _ hc => keeps hb p v hc)))⟩⟩

end Ty
end Go.Proofs.Ytkedhnahgpmkaaa
