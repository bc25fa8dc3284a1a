/- What the library's compare functions return. Conditions: for Or the five numbers lie in memory. -/
import Derived.Test.YtkedhnahgpmkaaaTyOrder
namespace Go.Proofs.Ytkedhnahgpmkaaa
open Go.RowKit

namespace Ty
set_option maxHeartbeats 1000000 in
theorem isnan_i (a : Int) (w : World) : Calls Try.prog 126 #[.int .i64 a] w fun e w' => e = .returned (.bool false) ∧ w = w' := by
  go_enter Try.func126, Try.ntmps126
  go_wp2_with fail
  go_ret
  exact ⟨rfl, rfl⟩
set_option maxHeartbeats 1000000 in
theorem isnan_s (a : ByteArray) (w : World) : Calls Try.prog 127 #[.string a] w fun e w' => e = .returned (.bool false) ∧ w = w' := by
  go_enter Try.func127, Try.ntmps127
  go_wp2_with fail
  go_ret
  exact ⟨rfl, rfl⟩

set_option maxHeartbeats 2000000 in
theorem cmpi_any (a b : Int) (w : World) : Calls Try.prog 111 #[.int .i64 a, .int .i64 b] w fun e w' => e = .returned (.int .i64 (cmpI a b)) ∧ w = w' := by
  by_cases h1 : a < b
  · have HX : Hid (cmpI a b = -1) := Lib.hid (if_pos h1)
    go_enter Try.func111, Try.ntmps111
    go_wp2_with (go_at_call 126; refine (isnan_i _ _).mono ?_; rintro e w' ⟨rfl, rfl⟩)
    go_ret
    exact ⟨ret_int (by rw [HX.out]), rfl⟩
  · by_cases h2 : b < a
    · have HX : Hid (cmpI a b = 1) := Lib.hid (by unfold cmpI; rw [if_neg h1, if_pos h2])
      go_enter Try.func111, Try.ntmps111
      go_wp2_with (go_at_call 126; refine (isnan_i _ _).mono ?_; rintro e w' ⟨rfl, rfl⟩)
      go_ret
      exact ⟨ret_int (by rw [HX.out]), rfl⟩
    · have HX : Hid (cmpI a b = 0) := Lib.hid (by unfold cmpI; rw [if_neg h1, if_neg h2])
      go_enter Try.func111, Try.ntmps111
      go_wp2_with (go_at_call 126; refine (isnan_i _ _).mono ?_; rintro e w' ⟨rfl, rfl⟩)
      go_ret
      exact ⟨ret_int (by rw [HX.out]), rfl⟩

theorem less_not (a b : List UInt8) (h1 : Op.bytesLess a b = false) (h2 : (a == b) = true) : Op.bytesLess b a = false := by
  have e : a = b := by simpa using h2
  subst e; exact h1

set_option maxHeartbeats 2000000 in
theorem cmps_any (a b : ByteArray) (w : World) : Calls Try.prog 112 #[.string a, .string b] w fun e w' => e = .returned (.int .i64 (cmpS a.toList b.toList)) ∧ w = w' := by
  cases h1 : Op.bytesLess a.toList b.toList with
  | true =>
    have HX : Hid (cmpS a.toList b.toList = -1) := Lib.hid (if_pos h1)
    go_enter Try.func112, Try.ntmps112
    go_wp2_with (go_at_call 127; refine (isnan_s _ _).mono ?_; rintro e w' ⟨rfl, rfl⟩)
    go_ret
    exact ⟨ret_int (by rw [HX.out]), rfl⟩
  | false =>
    cases h2 : (a.toList == b.toList) with
    | true =>
      have HX : Hid (cmpS a.toList b.toList = 0) := Lib.hid (by unfold cmpS; rw [if_neg (by simp [h1]), if_pos h2])
      have h3 := less_not _ _ h1 h2
      go_enter Try.func112, Try.ntmps112
      go_wp2_with (go_at_call 127; refine (isnan_s _ _).mono ?_; rintro e w' ⟨rfl, rfl⟩)
      go_ret
      exact ⟨ret_int (by rw [HX.out]), rfl⟩
    | false =>
      have HX : Hid (cmpS a.toList b.toList = 1) := Lib.hid (by unfold cmpS; rw [if_neg (by simp [h1]), if_neg (by rw [h2]; simp)])
      go_enter Try.func112, Try.ntmps112
      go_wp2_with (go_at_call 127; refine (isnan_s _ _).mono ?_; rintro e w' ⟨rfl, rfl⟩)
      go_ret
      exact ⟨ret_int (by rw [HX.out]), rfl⟩

/-- the first of five numbers that is not 0 -/
def orI (c1 c2 c3 c4 c5 : Int) : Int := if c1 ≠ 0 then c1 else if c2 ≠ 0 then c2 else if c3 ≠ 0 then c3 else if c4 ≠ 0 then c4 else c5

set_option maxHeartbeats 4000000 in
theorem or_any (c1 c2 c3 c4 c5 : Int) (g cap : Nat) (w : World) (hr : w.heap[g]? = some (Obj.cells #[.int .i64 c1, .int .i64 c2, .int .i64 c3, .int .i64 c4, .int .i64 c5] 3)) :
    Calls Try.prog 110 #[.slice (some ⟨g, 0, none⟩) 5 cap] w fun e w' => e = .returned (.int .i64 (orI c1 c2 c3 c4 c5)) ∧ w = w' := by
  have HX : Hid (∀ j, j < 4 → (∀ k, k < j → cAt c1 c2 c3 c4 k = 0) → cAt c1 c2 c3 c4 j ≠ 0 → orI c1 c2 c3 c4 c5 = cAt c1 c2 c3 c4 j) := Lib.hid (fun j h1 h2 h3 => first_of j h1 h2 h3)
  have HN : Hid ((∀ k, k < 4 → cAt c1 c2 c3 c4 k = 0) → orI c1 c2 c3 c4 c5 = c5) := Lib.hid (fun h => none_of h)
  have e0 : w.cell? ⟨g, 0, none⟩ = some (.int .i64 c1) := cell_of_row w g 0 _ 3 (0, 0) hr
  have e1 : w.cell? ⟨g, 1, none⟩ = some (.int .i64 c2) := cell_of_row w g 1 _ 3 (0, 0) hr
  have e2 : w.cell? ⟨g, 2, none⟩ = some (.int .i64 c3) := cell_of_row w g 2 _ 3 (0, 0) hr
  have e3 : w.cell? ⟨g, 3, none⟩ = some (.int .i64 c4) := cell_of_row w g 3 _ 3 (0, 0) hr
  have e4 : w.cell? ⟨g, 4, none⟩ = some (.int .i64 c5) := cell_of_row w g 4 _ 3 (0, 0) hr
  have HZ : Hid (∀ j, j < 5 → w.cell? ⟨g, j, none⟩ = some (.int .i64 (if j = 4 then c5 else cAt c1 c2 c3 c4 j))) := Lib.hid (fun j hj => by
    match j, hj with
    | 0, _ => exact e0
    | 1, _ => exact e1
    | 2, _ => exact e2
    | 3, _ => exact e3
    | 4, _ => exact e4)
  clear hr e0 e1 e2 e3 e4
  go_enter Try.func110, Try.ntmps110
  go_wp2_with fail
  go_loop [8] (fun i => ∃ j : Nat, j ≤ 5 ∧ i = .int .i64 j ∧ Hid (∀ k, k < 4 → k < j → cAt c1 c2 c3 c4 k = 0) ∧ Hid (j = 5 → c5 = 0)) (fun i => 5 - (intOf i).toNat)
  case atStart => exact ⟨0, Nat.zero_le _, rfl, Lib.hid (fun k _ h => absurd h (Nat.not_lt_zero _)), Lib.hid (fun h => absurd h (by omega))⟩
  case round =>
    obtain ⟨j, hj, rfl, hall, h5⟩ := hrel
    by_cases hlt : j < 5
    · have hc := HZ.out j hlt
      obtain ⟨c, hcc⟩ : ∃ c, c = (if j = 4 then c5 else cAt c1 c2 c3 c4 j) := ⟨_, rfl⟩
      rw [← hcc] at hc
      have HCC := Lib.hid hcc
      clear hcc
      cases hz : (c != 0) with
      | false =>
        have hz' : c = 0 := by simpa using hz
        have HALL : Hid (∀ k, k < 4 → k < j + 1 → cAt c1 c2 c3 c4 k = 0) := Lib.hid (fun k hk4 h => by
          by_cases hkj : k = j
          · subst hkj
            have := HCC.out
            rw [if_neg (by omega)] at this
            rw [← this]; exact hz'
          · exact hall.out k hk4 (by omega))
        have H5 : Hid (j + 1 = 5 → c5 = 0) := Lib.hid (fun h => by
          have := HCC.out
          rw [if_pos (by omega)] at this
          rw [← this]; exact hz')
        clear hz'
        go_wp2_with fail
        go_round
        case rel => exact ⟨j + 1, by omega, by go_num, HALL, H5⟩
        case measure => simp [intOf]; omega
      | true =>
        have HO : Hid (orI c1 c2 c3 c4 c5 = c) := Lib.hid (by
          by_cases h4 : j = 4
          · have := HCC.out
            rw [if_pos h4] at this
            rw [this]
            exact HN.out (fun k hk => hall.out k hk (by omega))
          · have := HCC.out
            rw [if_neg h4] at this
            rw [this]
            exact HX.out j (by omega) (fun k hk => hall.out k (by omega) hk) (by rw [← this]; simpa using hz))
        go_wp2_with fail
        go_ret
        exact ⟨ret_int (by rw [HO.out]), rfl⟩
    · have HO : Hid (orI c1 c2 c3 c4 c5 = 0) := Lib.hid (by
        have := h5.out (by omega)
        rw [HN.out (fun k hk => hall.out k hk (by omega)), this])
      go_wp2_with fail
      go_ret
      exact ⟨ret_int (by rw [HO.out]), rfl⟩
end Ty
end Go.Proofs.Ytkedhnahgpmkaaa
