/- What isName, IsCapital, isSign, IsOp and tokenLength return. Conditions: the string is no longer than a string can be. -/
import Derived.Test.YtcedigkknjioeaaStretch
namespace Go.Proofs.Ytcedigkknjioeaa
open Go.RowKit

namespace Lx
theorem head_list (s : ByteArray) (h : 0 < s.size) : ∃ r, s.data.toList = s[0]'h :: r := by
  obtain ⟨⟨l⟩⟩ := s
  match l, h with
  | b :: l, _ => exact ⟨l, rfl⟩
theorem no_list (s : ByteArray) (h : ¬ 0 < s.size) : s.data.toList = [] := by
  obtain ⟨⟨l⟩⟩ := s
  match l, h with
  | [], _ => rfl
  | b :: l, h => exact absurd (Nat.succ_pos _) h
theorem size_list (s : ByteArray) : s.data.toList.length = s.size := by simp
theorem isNm_cons (s : ByteArray) (h : 0 < s.size) : isNm s.data.toList = (decide (s.size ≤ 16) && leB (s[0]'h) && decide (st 4 s.data.toList = s.size)) := by
  obtain ⟨r, h1⟩ := head_list s h
  have h2 := size_list s
  rw [h1] at h2 ⊢
  rw [← h2]
  rfl
theorem isCap_cons (s : ByteArray) (h : 0 < s.size) : isCap s.data.toList = (isNm s.data.toList && upB (s[0]'h)) := by
  obtain ⟨r, h1⟩ := head_list s h
  rw [h1]
  rfl
theorem int_beq (a b : Nat) : ((a : Int) == (b : Int)) = decide (a = b) := by
  rw [Bool.eq_iff_iff]
  simp only [beq_iff_eq, decide_eq_true_eq]
  omega
end Lx

set_option maxHeartbeats 1000000 in
theorem isName_any (s : ByteArray) (w : World) (hs : s.size ≤ maxLen) :
    Calls Try.prog 34 #[.string s] w fun e w' => e = .returned (.bool (Lx.isNm s.data.toList)) ∧ w = w' := by
  have hs' := hs
  unfold maxLen at hs
  by_cases h0 : 0 < s.size
  · have e1 := Lib.hid (Lx.isNm_cons s h0)
    have h0' : (s.toList.isEmpty) = false := by obtain ⟨r, h1⟩ := Lx.head_list s h0; rw [Lib.toList_data, h1]; rfl
    by_cases h16 : s.size ≤ 16
    · have hT := Lx.hasT_bits (s[0]'h0) 2 (by simp)
      cases hx : Lx.leB (s[0]'h0) with
      | true =>
        have hy : (bits .and .i64 (Lx.tr (s[0]'h0)) 2 != 0) = true := by rw [hT]; simpa [Lx.hasT] using hx
        have e2 : Hid (Lx.isNm s.data.toList = decide (Lx.st 4 s.data.toList = s.size)) := Lib.hid (by rw [e1.out, hx]; simp [h16])
        clear hT hx e1
        go_enter Try.func34, Try.ntmps34
        go_wp2_with (first | (go_at_call 53; refine (traits_any _ _).mono ?_; rintro e w' ⟨rfl, rfl⟩) | (go_at_call 41; refine (stretch_any _ _ (by simp) _ hs').mono ?_; rintro e w' ⟨rfl, rfl⟩))
        go_ret
        exact ⟨ret_bool (by rw [e2.out, Lx.int_beq]), rfl⟩
      | false =>
        have hy : (bits .and .i64 (Lx.tr (s[0]'h0)) 2 != 0) = false := by rw [hT]; simpa [Lx.hasT] using hx
        have e2 : Hid (Lx.isNm s.data.toList = false) := Lib.hid (by rw [e1.out, hx]; simp)
        clear hT hx e1
        go_enter Try.func34, Try.ntmps34
        go_wp2_with (first | (go_at_call 53; refine (traits_any _ _).mono ?_; rintro e w' ⟨rfl, rfl⟩) | (go_at_call 41; refine (stretch_any _ _ (by simp) _ hs').mono ?_; rintro e w' ⟨rfl, rfl⟩))
        go_ret
        exact ⟨ret_bool (by rw [e2.out]), rfl⟩
    · have e2 : Hid (Lx.isNm s.data.toList = false) := Lib.hid (by rw [e1.out]; simp [h16])
      go_enter Try.func34, Try.ntmps34
      go_wp2_with fail
      go_ret
      exact ⟨ret_bool (by rw [e2.out]), rfl⟩
  · have e1 : Hid (Lx.isNm s.data.toList = false) := Lib.hid (by rw [Lx.no_list s h0]; rfl)
    have h0' : (s.toList.isEmpty) = true := by rw [Lib.toList_data, Lx.no_list s h0]; rfl
    go_enter Try.func34, Try.ntmps34
    go_wp2_with fail
    go_ret
    exact ⟨ret_bool (by rw [e1.out]), rfl⟩

set_option maxHeartbeats 1000000 in
theorem isCapital_any (s : ByteArray) (w : World) (hs : s.size ≤ maxLen) :
    Calls Try.prog 15 #[.string s] w fun e w' => e = .returned (.bool (Lx.isCap s.data.toList)) ∧ w = w' := by
  by_cases h0 : 0 < s.size
  · have e1 := Lib.hid (Lx.isCap_cons s h0)
    cases hx : Lx.isNm s.data.toList with
    | true =>
      have hc : ∀ w, Calls Try.prog 34 #[.string s] w fun e w' => e = .returned (.bool true) ∧ w = w' := fun w => hx ▸ isName_any s w hs
      have HC := Lib.hid hc
      have HX := Lib.hid hx
      clear hc hx
      go_enter Try.func15, Try.ntmps15
      go_wp2_with (first | (go_at_call 34; refine (HC.out _).mono ?_; rintro e w' ⟨rfl, rfl⟩) | (go_at_call 35; refine (isUpper_any _ _).mono ?_; rintro e w' ⟨rfl, rfl⟩))
      go_ret
      exact ⟨ret_bool (by rw [e1.out, HX.out]; rfl), rfl⟩
    | false =>
      have hc : ∀ w, Calls Try.prog 34 #[.string s] w fun e w' => e = .returned (.bool false) ∧ w = w' := fun w => hx ▸ isName_any s w hs
      have HC := Lib.hid hc
      have HX := Lib.hid hx
      clear hc hx
      go_enter Try.func15, Try.ntmps15
      go_wp2_with (go_at_call 34; refine (HC.out _).mono ?_; rintro e w' ⟨rfl, rfl⟩)
      go_ret
      exact ⟨ret_bool (by rw [e1.out, HX.out]; rfl), rfl⟩
  · have hx : Lx.isNm s.data.toList = false := by rw [Lx.no_list s h0]; rfl
    have e1 : Hid (Lx.isCap s.data.toList = false) := Lib.hid (by rw [Lx.no_list s h0]; rfl)
    have hc : ∀ w, Calls Try.prog 34 #[.string s] w fun e w' => e = .returned (.bool false) ∧ w = w' := fun w => hx ▸ isName_any s w hs
    have HC := Lib.hid hc
    clear hc hx
    go_enter Try.func15, Try.ntmps15
    go_wp2_with (go_at_call 34; refine (HC.out _).mono ?_; rintro e w' ⟨rfl, rfl⟩)
    go_ret
    exact ⟨ret_bool (by rw [e1.out]), rfl⟩

end Go.Proofs.Ytcedigkknjioeaa
