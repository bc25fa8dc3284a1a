/- What the reference's SameInts returns. Conditions: the lists of numbers lie in memory. -/
import Derived.Test.YtkedhnahgpmkaaaTySize
import Derived.Deep.QuietTactic
import Derived.WalkSmall
namespace Go.Proofs.Ytkedhnahgpmkaaa
open Go.RowKit

namespace Ty
/-- numbers stand one behind the other -/
def IRow (w : World) (b o : Nat) (l : List Int) : Prop := ∀ i (h : i < l.length), w.cell? ⟨b, o + i, none⟩ = some (.int .i64 (l[i]'h))
/-- a list of numbers that a slice value leads to -/
def ISl (w : World) (base : Option Addr) (l : List Int) : Prop := l.length ≤ maxLen ∧ (l = [] ∨ ∃ g o, base = some ⟨g, o, none⟩ ∧ IRow w g o l)
theorem IRow.next {w w' : World} (hb : Below w.heap.size w w') {b o : Nat} {l : List Int} (h : IRow w b o l) : IRow w' b o l := fun i hi => keeps hb _ _ (h i hi)
theorem ISl.next {w w' : World} (hb : Below w.heap.size w w') {base : Option Addr} {l : List Int} (h : ISl w base l) : ISl w' base l := by
  obtain ⟨h1, h2 | ⟨g, o, e, h2⟩⟩ := h
  · exact ⟨h1, .inl h2⟩
  · exact ⟨h1, .inr ⟨g, o, e, h2.next hb⟩⟩

def sameI (a b : List Int) : Bool := decide (a = b)
theorem sameI_false {a b : List Int} {j : Nat} (h1 : j < a.length) (h2 : j < b.length) (h : (a[j]'h1 != b[j]'h2) = true) : sameI a b = false := by
  refine decide_eq_false (fun e => ?_)
  subst e
  simp at h
theorem sameI_true {a b : List Int} (hl : a.length = b.length) (h : ∀ k (h1 : k < a.length) (h2 : k < b.length), a[k]'h1 = b[k]'h2) : sameI a b = true :=
  decide_eq_true (List.ext_getElem hl h)
theorem sameI_len {a b : List Int} (hl : a.length ≠ b.length) : sameI a b = false := decide_eq_false (fun e => hl (by rw [e]))

set_option maxHeartbeats 4000000 in
theorem sameInts_any (a b : List Int) (base base' : Option Addr) (cap cap' : Nat) (w : World) (ha : ISl w base a) (hb : ISl w base' b) :
    Calls Try.prog 60 #[.slice base a.length cap, .slice base' b.length cap'] w fun e w' => e = .returned (.bool (sameI a b)) ∧ Below w.heap.size w w' := by
  obtain ⟨hla, ha⟩ := ha
  obtain ⟨hlb, hb⟩ := hb
  unfold maxLen at hla hlb
  by_cases hl : a.length = b.length
  · obtain ⟨n, hn⟩ : ∃ n, n = a.length := ⟨_, rfl⟩
    have hn' : n = b.length := by omega
    rw [← hn, ← hn']
    rw [← hn] at hla
    have HN := Lib.hid hn
    have HN' := Lib.hid hn'
    have HA := Lib.hid ha
    have HB := Lib.hid hb
    clear hn hn' ha hb hl hlb
    go_enter Try.func60, Try.ntmps60
    go_wp2_with fail
    go_loopw [13] (fun i wr => ∃ j : Nat, j ≤ n ∧ i = .int .i64 j ∧ Below w.heap.size w wr ∧ Hid (∀ k (h1 : k < a.length) (h2 : k < b.length), k < j → a[k]'h1 = b[k]'h2)) (fun i _ => n - (intOf i).toNat)
    case atStart => exact ⟨0, Nat.zero_le _, rfl, Below.refl _ _, Lib.hid (fun k _ _ h => absurd h (Nat.not_lt_zero _))⟩
    case round =>
      obtain ⟨j, hj, rfl, hbl, hall⟩ := hrel
      by_cases hlt : j < n
      · have h1 : j < a.length := by rw [← HN.out]; exact hlt
        have h2 : j < b.length := by rw [← HN'.out]; exact hlt
        rcases HA.out with h0 | ⟨g, o, rfl, hra⟩
        · exact absurd h0 (List.ne_nil_of_length_pos (by omega))
        rcases HB.out with h0 | ⟨g', o', rfl, hrb⟩
        · exact absurd h0 (List.ne_nil_of_length_pos (by omega))
        have c0 := hra.next hbl j h1
        have d0 := hrb.next hbl j h2
        have HBL := Lib.hid hbl
        obtain ⟨x, hx⟩ : ∃ x, x = a[j]'h1 := ⟨_, rfl⟩
        obtain ⟨y, hy⟩ : ∃ y, y = b[j]'h2 := ⟨_, rfl⟩
        rw [← hx] at c0
        rw [← hy] at d0
        have HX := Lib.hid hx
        have HY := Lib.hid hy
        clear hbl hx hy hra hrb
        cases hs : (x != y) with
        | false =>
          have HALL : Hid (∀ k (h1 : k < a.length) (h2 : k < b.length), k < j + 1 → a[k]'h1 = b[k]'h2) := Lib.hid (fun k h3 h4 hk => by
            by_cases hkj : k = j
            · subst hkj
              rw [← HX.out, ← HY.out]; simpa using hs
            · exact hall.out k h3 h4 (by omega))
          go_wp2_with fail
          go_quiet (fail)
          go_wp2_with fail
          go_roundw
          case rel => exact ⟨j + 1, by omega, by go_num, below_drewN HBL.out _, HALL⟩
          case measure => simp [intOf]; omega
        | true =>
          have HF : Hid (sameI a b = false) := Lib.hid (sameI_false h1 h2 (by rw [← HX.out, ← HY.out]; exact hs))
          go_wp2_with fail
          go_quiet (fail)
          go_wp2_with fail
          go_ret
          exact ⟨ret_bool (by rw [HF.out]), below_drewN HBL.out _⟩
      · have HT : Hid (sameI a b = true) := Lib.hid (sameI_true (by rw [← HN.out, ← HN'.out]) (fun k h1 h2 => hall.out k h1 h2 (by have := HN.out; omega)))
        have HBL := Lib.hid hbl
        clear hbl
        go_wp2_with fail
        go_ret
        exact ⟨ret_bool (by rw [HT.out]), HBL.out⟩
  · have HF : Hid (sameI a b = false) := Lib.hid (sameI_len hl)
    have hne : ((a.length : Int) != (b.length : Int)) = true := by simp; omega
    clear ha hb hl
    generalize a.length = n at *
    generalize b.length = m at *
    go_enter Try.func60, Try.ntmps60
    go_wp2_with fail
    go_ret
    exact ⟨ret_bool (by rw [HF.out]), Below.refl _ _⟩

theorem rsameInts_any (a b : List Int) (base base' : Option Addr) (cap cap' : Nat) (w : World) (ha : ISl w base a) (hb : ISl w base' b) :
    Calls Try.prog 19 #[.slice base a.length cap, .slice base' b.length cap'] w fun e w' => e = .returned (.bool (sameI a b)) ∧ Below w.heap.size w w' := by
  have HC := Lib.hid (sameInts_any a b base base' cap cap' w ha hb)
  clear ha hb
  generalize sameI a b = r at *
  generalize a.length = n at *
  generalize b.length = m at *
  go_enter Try.func19, Try.ntmps19
  go_wp2_with fail
  refine HC.out.mono ?_
  rintro e w2 ⟨rfl, hb2⟩
  have HB2 := Lib.hid hb2
  clear hb2
  go_wp2_with fail
  go_ret
  exact ⟨rfl, HB2.out⟩

end Ty
end Go.Proofs.Ytkedhnahgpmkaaa
