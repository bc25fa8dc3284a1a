/- What the law's distinct returns. Conditions: the list of numbers lies in memory. -/
import Derived.Test.YtkedhnahgpmkaaaTyBind
import Derived.Test.YtkedhnahgpmkaaaTyPSame
namespace Go.Proofs.Ytkedhnahgpmkaaa
open Go.RowKit

namespace Ty
theorem dist_long {l : List Int} (h : 600 < l.length) : distB l = false := by unfold distB; rw [decide_eq_false (by omega)]; rfl

set_option maxHeartbeats 4000000 in
theorem distinct_long (l : List Int) (base : Option Addr) (cap : Nat) (w : World) (hl : ISl w base l) (hlen : l.length ≤ 1000000) (h6 : 600 < l.length) : Calls Try.prog 50 #[.slice base l.length cap] w fun e w' => e = .returned (.bool (distB l)) ∧ Below w.heap.size w w' := by
  rcases hl.2 with h0 | ⟨g, o, rfl, hrow⟩
  · exact absurd h0 (List.ne_nil_of_length_pos (by omega))
  have x0 := hrow 0 (by omega)
  rw [Nat.add_zero] at x0
  obtain ⟨x, hx⟩ : ∃ x, x = l[0]'(by omega) := ⟨_, rfl⟩
  rw [← hx] at x0
  have HD := Lib.hid (dist_long h6)
  obtain ⟨m, hm⟩ : ∃ m, m = l.length := ⟨_, rfl⟩
  rw [← hm] at h6 hlen ⊢
  have q6 : decide ((600 : Int) < (m : Int)) = true := decide_eq_true (by omega)
  clear hx hrow hl hm
  cases hn : (decide (0 ≤ x) && decide (x ≤ 9999)) with
  | false =>
    have HN := Lib.hid hn
    clear hn
    go_enter Try.func50, Try.ntmps50
    go_wp2_with fail
    refine wp_loop_rounds 1 ?_
    rw [rounds_succ]
    go_wp2_with (go_at_call 25; refine (rnumber _ _ HN.out _).mono ?_; rintro e w3 ⟨rfl, rfl⟩)
    go_ret
    exact ⟨ret_bool (by rw [HD.out]), Below.refl _ _⟩
  | true =>
    have HN := Lib.hid hn
    clear hn
    go_enter Try.func50, Try.ntmps50
    go_wp2_with fail
    refine wp_loop_rounds 1 ?_
    rw [rounds_succ]
    go_wp2_with (go_at_call 25; refine (rnumber _ _ HN.out _).mono ?_; rintro e w3 ⟨rfl, rfl⟩)
    go_ret
    exact ⟨ret_bool (by rw [HD.out]), Below.refl _ _⟩

set_option maxHeartbeats 8000000 in
theorem distinct_short (l : List Int) (base : Option Addr) (cap : Nat) (w : World) (hl : ISl w base l) (h6 : l.length ≤ 600) : Calls Try.prog 50 #[.slice base l.length cap] w fun e w' => e = .returned (.bool (distB l)) ∧ Below w.heap.size w w' := by
  have HL := Lib.hid hl.2
  obtain ⟨m, hm⟩ : ∃ m, m = l.length := ⟨_, rfl⟩
  rw [← hm] at h6 ⊢
  have HM := Lib.hid hm
  have q6 : decide ((600 : Int) < (m : Int)) = false := decide_eq_false (by omega)
  clear hl hm
  go_enter Try.func50, Try.ntmps50
  go_wp2_with fail
  go_loopw [7] (fun i wr => ∃ j : Nat, j ≤ m ∧ i = .int .i64 j ∧ Below w.heap.size w wr ∧ Hid (∀ k (h : k < l.length), k < j → l[k]'h ∉ l.take k ∧ numB (l[k]'h) = true)) (fun i _ => m - (intOf i).toNat)
  case atStart => exact ⟨0, Nat.zero_le _, rfl, Below.refl _ _, Lib.hid (fun k _ h => absurd h (Nat.not_lt_zero _))⟩
  case round =>
    obtain ⟨j, hj, rfl, hbl, hall⟩ := hrel
    obtain ⟨wo, rfl⟩ : ∃ wo : World, wo = wr := ⟨_, rfl⟩
    by_cases hlt : j < m
    · have h1 : j < l.length := by rw [← HM.out]; exact hlt
      rcases HL.out with h0 | ⟨g, o, rfl, hrow⟩
      · exact absurd h0 (List.ne_nil_of_length_pos (by omega))
      have HROW := Lib.hid hrow
      have x0 := keeps hbl _ _ (hrow j h1)
      obtain ⟨x, hx⟩ : ∃ x, x = l[j]'h1 := ⟨_, rfl⟩
      rw [← hx] at x0
      have HX := Lib.hid hx
      have X0 := Lib.hid x0
      have HBL := Lib.hid hbl
      clear hx hrow hbl
      cases hn : (decide (0 ≤ x) && decide (x ≤ 9999)) with
      | false =>
        have HD : Hid (distB l = false) := Lib.hid (dist_num h1 (by rw [← HX.out]; exact hn))
        have HN := Lib.hid hn
        clear hn
        go_wp2_with (go_at_call 25; refine (rnumber _ _ HN.out _).mono ?_; rintro e w3 ⟨rfl, rfl⟩)
        go_ret
        exact ⟨ret_bool (by rw [HD.out]), HBL.out⟩
      | true =>
        have HNB : Hid (numB (l[j]'h1) = true) := Lib.hid (by rw [← HX.out]; exact hn)
        have HN := Lib.hid hn
        clear hn
        go_wp2_with (go_at_call 25; refine (rnumber _ _ HN.out _).mono ?_; rintro e w3 ⟨rfl, rfl⟩)
        clear x0
        go_loopw [22] (fun i wr2 => ∃ k : Nat, k ≤ j ∧ i = .int .i64 k ∧ Below wo.heap.size wo wr2 ∧ Hid (∀ k2 (h : k2 < l.length), k2 < k → l[k2]'h ≠ x)) (fun i _ => j - (intOf i).toNat)
        case atStart => exact ⟨0, Nat.zero_le _, rfl, Below.refl _ _, Lib.hid (fun k _ h => absurd h (Nat.not_lt_zero _))⟩
        case round =>
          obtain ⟨k, hk, rfl, hbk, hne⟩ := hrel
          have HB2 := Lib.hid (HBL.out.trans (hbk.mono HBL.out.size))
          have HBK := Lib.hid hbk
          clear hbk
          by_cases hkl : k < j
          · have h2 : k < l.length := by omega
            have x0 := keeps HBK.out _ _ X0.out
            have y0 := keeps HB2.out _ _ (HROW.out k h2)
            obtain ⟨y, hy⟩ : ∃ y, y = l[k]'h2 := ⟨_, rfl⟩
            rw [← hy] at y0
            have HY := Lib.hid hy
            clear hy
            cases he : (x == y) with
            | true =>
              have HD : Hid (distB l = false) := Lib.hid (dist_twice h1 (by
                rw [← HX.out, show x = y from by simpa using he, HY.out]
                exact List.mem_take_iff_getElem.mpr ⟨k, by omega, rfl⟩))
              go_wp2_with fail
              go_quiet (fail)
              go_wp2_with fail
              go_ret
              exact ⟨ret_bool (by rw [HD.out]), HB2.out.trans (below_drewN _ _ _)⟩
            | false =>
              have HNE : Hid (∀ k2 (h : k2 < l.length), k2 < k + 1 → l[k2]'h ≠ x) := Lib.hid (fun k2 h hk2 => by
                by_cases e : k2 = k
                · subst e
                  rw [← HY.out]
                  intro e2
                  rw [e2] at he
                  simp at he
                · exact hne.out k2 h (by omega))
              go_wp2_with fail
              go_quiet (fail)
              go_wp2_with fail
              go_roundw
              case rel => exact ⟨k + 1, by omega, by go_num, HBK.out.trans (below_drewN _ _ _), HNE⟩
              case measure => simp [intOf]; omega
          · have HALL : Hid (∀ k (h : k < l.length), k < j + 1 → l[k]'h ∉ l.take k ∧ numB (l[k]'h) = true) := Lib.hid (fun k2 h hk2 => by
              by_cases e : k2 = j
              · subst e
                refine ⟨fun hmem => ?_, HNB.out⟩
                obtain ⟨i, hi, he⟩ := List.mem_take_iff_getElem.mp hmem
                exact hne.out i (by omega) (by omega) (by rw [he, HX.out])
              · exact hall.out k2 h (by omega))
            go_wp2_with fail
            go_roundw
            case rel => exact ⟨j + 1, by omega, by go_num, HB2.out, HALL⟩
            case measure => simp [intOf]; omega
    · have HD : Hid (distB l = true) := Lib.hid (dist_ok (by rw [← HM.out]; exact h6) (fun k hk => hall.out k hk (by have := HM.out; omega)))
      have HBL := Lib.hid hbl
      clear hbl
      go_wp2_with fail
      go_ret
      exact ⟨ret_bool (by rw [HD.out]), HBL.out⟩
theorem distinct_any (l : List Int) (base : Option Addr) (cap : Nat) (w : World) (hl : ISl w base l) (hlen : l.length ≤ 1000000) : Calls Try.prog 50 #[.slice base l.length cap] w fun e w' => e = .returned (.bool (distB l)) ∧ Below w.heap.size w w' := by
  by_cases h : 600 < l.length
  · exact distinct_long l base cap w hl hlen h
  · exact distinct_short l base cap w hl (by omega)
end Ty
end Go.Proofs.Ytkedhnahgpmkaaa
