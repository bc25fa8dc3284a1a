/- What the reference's Propers, SameInts, compare and words return. Conditions: the lists lie in memory. -/
import Derived.Test.YtkedhnahgpmkaaaTySize
namespace Go.Proofs.Ytkedhnahgpmkaaa
open Go.RowKit

namespace Ty
def propersT (l : List Ty) : Bool := decide (l.length ≤ 600) && l.all isProper
theorem all_false {l : List Ty} {j : Nat} (h : j < l.length) (hf : isProper (l[j]'h) = false) : l.all isProper = false := by
  cases hc : l.all isProper with
  | false => rfl
  | true =>
    have := List.all_eq_true.mp hc _ (List.getElem_mem h)
    rw [hf] at this; cases this
theorem all_true {l : List Ty} (h : ∀ k (hk : k < l.length), isProper (l[k]'hk) = true) : l.all isProper = true :=
  List.all_eq_true.mpr fun x hx => by obtain ⟨k, hk, rfl⟩ := List.mem_iff_getElem.mp hx; exact h k hk

set_option maxHeartbeats 4000000 in
theorem propers_any (l : List Ty) (base : Option Addr) (cap : Nat) (w : World) (hl : Sl w base l) : Calls Try.prog 30 #[.slice base l.length cap] w fun e w' => e = .returned (.bool (propersT l)) ∧ Below w.heap.size w w' := by
  have HL := Lib.hid hl
  have hla := hl.1
  unfold maxLen at hla
  clear hl
  by_cases h6 : 600 < l.length
  · have q6 : decide ((600 : Int) < (l.length : Int)) = true := decide_eq_true (by omega)
    have HP : Hid (propersT l = false) := Lib.hid (by unfold propersT; rw [decide_eq_false (by omega)]; rfl)
    generalize l.length = n at *
    go_enter Try.func30, Try.ntmps30
    go_wp2_with fail
    go_ret
    exact ⟨ret_bool (by rw [HP.out]), Below.refl _ _⟩
  · have q6 : decide ((600 : Int) < (l.length : Int)) = false := decide_eq_false (by omega)
    obtain ⟨n, hn⟩ : ∃ n, n = l.length := ⟨_, rfl⟩
    rw [← hn] at q6 h6 hla ⊢
    have HN := Lib.hid hn
    clear hn
    go_enter Try.func30, Try.ntmps30
    go_wp2_with fail
    go_loopw [10] (fun i wr => ∃ j : Nat, j ≤ n ∧ i = .int .i64 j ∧ Below w.heap.size w wr ∧ Hid (∀ k (hk : k < l.length), k < j → isProper (l[k]'hk) = true)) (fun i _ => n - (intOf i).toNat)
    case atStart => exact ⟨0, Nat.zero_le _, rfl, Below.refl _ _, Lib.hid (fun k _ h => absurd h (Nat.not_lt_zero _))⟩
    case round =>
      obtain ⟨j, hj, rfl, hbl, hall⟩ := hrel
      have HBL := Lib.hid hbl
      clear hbl
      by_cases hlt : j < n
      · have h1 : j < l.length := by rw [← HN.out]; exact hlt
        rcases HL.out.2 with h0 | ⟨g, o, rfl, hrow⟩
        · exact absurd h0 (List.ne_nil_of_length_pos (by omega))
        obtain ⟨xb, xc, c0, c1, c2, c3, hvx⟩ := at_v ((row_at h1 hrow).next HBL.out)
        obtain ⟨x, hx⟩ : ∃ x, x = l[j]'h1 := ⟨_, rfl⟩
        rw [← hx] at c0 c1 c2 c3 hvx
        have hcall := fun w2 (hb : Below wr.heap.size wr w2) => proper_any x _ w2 (hvx.next hb)
        have HX := Lib.hid hx
        have HA1 : Hid (∀ o, Below wr.heap.size wr (wr.alloc o)) := Lib.hid (fun o => (Below.refl _ _).alloc (Nat.le_refl _) _)
        clear hvx hx hrow
        cases hp : isProper x with
        | true =>
          rw [hp] at hcall
          have HCALL := Lib.hid hcall
          have HALL : Hid (∀ k (hk : k < l.length), k < j + 1 → isProper (l[k]'hk) = true) := Lib.hid (fun k hk h => by
            by_cases hkj : k = j
            · subst hkj; rw [← HX.out]; exact hp
            · exact hall.out k hk (by omega))
          clear hcall hp
          generalize x.op = xo at *
          generalize x.n = xn at *
          generalize x.name = xs at *
          generalize x.args.length = xl at *
          go_wp2_with fail
          refine (HCALL.out _ (HA1.out _)).mono ?_
          rintro e w2 ⟨rfl, hb2⟩
          have HB2 := Lib.hid (HBL.out.trans (((HA1.out _).trans (hb2.mono (HA1.out _).size)).mono HBL.out.size))
          clear hb2
          go_wp2_with fail
          go_roundw
          case rel => exact ⟨j + 1, by omega, by go_num, HB2.out, HALL⟩
          case measure => simp [intOf]; omega
        | false =>
          rw [hp] at hcall
          have HCALL := Lib.hid hcall
          have HP : Hid (propersT l = false) := Lib.hid (by unfold propersT; rw [all_false h1 (by rw [← HX.out]; exact hp)]; simp)
          clear hcall hp
          generalize x.op = xo at *
          generalize x.n = xn at *
          generalize x.name = xs at *
          generalize x.args.length = xl at *
          go_wp2_with fail
          refine (HCALL.out _ (HA1.out _)).mono ?_
          rintro e w2 ⟨rfl, hb2⟩
          have HB2 := Lib.hid (HBL.out.trans (((HA1.out _).trans (hb2.mono (HA1.out _).size)).mono HBL.out.size))
          clear hb2
          go_wp2_with fail
          go_ret
          exact ⟨ret_bool (by rw [HP.out]), HB2.out⟩
      · have HP : Hid (propersT l = true) := Lib.hid (by
          unfold propersT
          rw [all_true (fun k hk => hall.out k hk (by have := HN.out; omega)), decide_eq_true (by have := HN.out; omega)]
          rfl)
        go_wp2_with fail
        go_ret
        exact ⟨ret_bool (by rw [HP.out]), HBL.out⟩

/-- -1, 0 or 1 for two numbers -/
def cmpI (a b : Int) : Int := if a < b then -1 else if b < a then 1 else 0

set_option maxHeartbeats 1000000 in
theorem compare_any (a b : Int) (w : World) : Calls Try.prog 82 #[.int .i64 a, .int .i64 b] w fun e w' => e = .returned (.int .i64 (cmpI a b)) ∧ w = w' := by
  by_cases h1 : a < b
  · have HX : Hid (cmpI a b = -1) := Lib.hid (if_pos h1)
    go_enter Try.func82, Try.ntmps82
    go_wp2_with fail
    go_ret
    exact ⟨ret_int (by rw [HX.out]), rfl⟩
  · by_cases h2 : b < a
    · have HX : Hid (cmpI a b = 1) := Lib.hid (by unfold cmpI; rw [if_neg h1, if_pos h2])
      go_enter Try.func82, Try.ntmps82
      go_wp2_with fail
      go_ret
      exact ⟨ret_int (by rw [HX.out]), rfl⟩
    · have HX : Hid (cmpI a b = 0) := Lib.hid (by unfold cmpI; rw [if_neg h1, if_neg h2])
      go_enter Try.func82, Try.ntmps82
      go_wp2_with fail
      go_ret
      exact ⟨ret_int (by rw [HX.out]), rfl⟩

end Ty
end Go.Proofs.Ytkedhnahgpmkaaa
