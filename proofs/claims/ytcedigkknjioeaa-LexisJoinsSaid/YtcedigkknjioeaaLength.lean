/- What tokenLength and isNumber return. Conditions: the string is no longer than a string can be; it is not empty (tokenLength). -/
import Derived.Test.YtcedigkknjioeaaSpace
namespace Go.Proofs.Ytcedigkknjioeaa
open Go.RowKit

namespace Lx
theorem tlen_cons (s : ByteArray) (h : 0 < s.size) : tlen s.data.toList =
    if s[0]'h = 39 then (if h1 : 1 < s.size then (if upB (s[1]'h1) then 1 else 0) else 0) else if nmB (s[0]'h) then st 4 s.data.toList else if opB (s[0]'h) then st 8 s.data.toList else 1 := by
  obtain ⟨⟨l⟩⟩ := s
  match l, h with
  | [b], h =>
    have h1 : ¬ 1 < ({ data := { toList := [b] } } : ByteArray).size := by simp [ByteArray.size]
    rw [dif_neg h1]
    rfl
  | b :: c :: r, h =>
    have h1 : 1 < ({ data := { toList := b :: c :: r } } : ByteArray).size := by simp [ByteArray.size]
    rw [dif_pos h1]
    rfl
theorem byte_beq (b : UInt8) (n : UInt8) : ((b.toNat : Int) == (n.toNat : Int)) = decide (b = n) := by
  rw [int_beq, decide_eq_decide, UInt8.toNat_inj]
end Lx

set_option maxHeartbeats 2000000 in
theorem tokenLength_any (s : ByteArray) (w : World) (hs : s.size ≤ maxLen) (h0 : 0 < s.size) :
    Calls Try.prog 29 #[.string s] w fun e w' => e = .returned (.int .i64 (Lx.tlen s.data.toList)) ∧ w = w' := by
  have hs' := hs
  unfold maxLen at hs
  have e0 := Lib.hid (Lx.tlen_cons s h0)
  by_cases hb : s[0]'h0 = 39
  · have hq : (((s[0]'h0).toNat : Int) == 39) = true := by rw [show (39 : Int) = ((39 : UInt8).toNat : Int) from rfl, Lx.byte_beq]; simp [hb]
    by_cases h1 : 1 < s.size
    · cases hu : Lx.upB (s[1]'h1) with
      | true =>
        have e1 : Hid (Lx.tlen s.data.toList = 1) := Lib.hid (by rw [e0.out, if_pos hb, dif_pos h1, hu]; rfl)
        have hc : ∀ w, Calls Try.prog 35 #[.int .u8 (s[1]'h1).toNat] w fun e w' => e = .returned (.bool true) ∧ w = w' := fun w => hu ▸ isUpper_any _ w
        have HC := Lib.hid hc
        clear hc hu hb e0
        go_enter Try.func29, Try.ntmps29
        go_wp2_with (first | (go_at_call 53; refine (traits_any _ _).mono ?_; rintro e w' ⟨rfl, rfl⟩) | (go_at_call 35; refine (HC.out _).mono ?_; rintro e w' ⟨rfl, rfl⟩))
        go_ret
        exact ⟨ret_int (by rw [e1.out]; rfl), rfl⟩
      | false =>
        have e1 : Hid (Lx.tlen s.data.toList = 0) := Lib.hid (by rw [e0.out, if_pos hb, dif_pos h1, hu]; rfl)
        have hc : ∀ w, Calls Try.prog 35 #[.int .u8 (s[1]'h1).toNat] w fun e w' => e = .returned (.bool false) ∧ w = w' := fun w => hu ▸ isUpper_any _ w
        have HC := Lib.hid hc
        clear hc hu hb e0
        go_enter Try.func29, Try.ntmps29
        go_wp2_with (first | (go_at_call 53; refine (traits_any _ _).mono ?_; rintro e w' ⟨rfl, rfl⟩) | (go_at_call 35; refine (HC.out _).mono ?_; rintro e w' ⟨rfl, rfl⟩))
        go_ret
        exact ⟨ret_int (by rw [e1.out]; rfl), rfl⟩
    · have e1 : Hid (Lx.tlen s.data.toList = 0) := Lib.hid (by rw [e0.out, if_pos hb, dif_neg h1])
      have h2 : ((s.size : Int) == 1) = true := by rw [show (1 : Int) = ((1 : Nat) : Int) from rfl, Lx.int_beq]; simp; omega
      clear hb e0
      go_enter Try.func29, Try.ntmps29
      go_wp2_with (go_at_call 53; refine (traits_any _ _).mono ?_; rintro e w' ⟨rfl, rfl⟩)
      go_ret
      exact ⟨ret_int (by rw [e1.out]; rfl), rfl⟩
  · have hq : (((s[0]'h0).toNat : Int) == 39) = false := by rw [show (39 : Int) = ((39 : UInt8).toNat : Int) from rfl, Lx.byte_beq]; simp [hb]
    have hT4 := Lx.hasT_bits (s[0]'h0) 4 (by simp)
    have hT8 := Lx.hasT_bits (s[0]'h0) 8 (by simp)
    cases h4 : Lx.nmB (s[0]'h0) with
    | true =>
      have e1 : Hid (Lx.tlen s.data.toList = Lx.st 4 s.data.toList) := Lib.hid (by rw [e0.out, if_neg hb, if_pos h4])
      have hy : (bits .and .i64 (Lx.tr (s[0]'h0)) 4 != 0) = true := by rw [hT4]; simpa [Lx.hasT] using h4
      clear hb e0 hT4 hT8 h4
      go_enter Try.func29, Try.ntmps29
      go_wp2_with (first | (go_at_call 53; refine (traits_any _ _).mono ?_; rintro e w' ⟨rfl, rfl⟩) | (go_at_call 41; refine (stretch_any _ _ (by simp) _ hs').mono ?_; rintro e w' ⟨rfl, rfl⟩))
      go_ret
      exact ⟨ret_int (by rw [e1.out]), rfl⟩
    | false =>
      have hy : (bits .and .i64 (Lx.tr (s[0]'h0)) 4 != 0) = false := by rw [hT4]; simpa [Lx.hasT] using h4
      cases h8 : Lx.opB (s[0]'h0) with
      | true =>
        have e1 : Hid (Lx.tlen s.data.toList = Lx.st 8 s.data.toList) := Lib.hid (by rw [e0.out, if_neg hb, if_neg (by simp [h4]), if_pos h8])
        have hy8 : (bits .and .i64 (Lx.tr (s[0]'h0)) 8 != 0) = true := by rw [hT8]; simpa [Lx.hasT] using h8
        clear hb e0 hT4 hT8 h4 h8
        go_enter Try.func29, Try.ntmps29
        go_wp2_with (first | (go_at_call 53; refine (traits_any _ _).mono ?_; rintro e w' ⟨rfl, rfl⟩) | (go_at_call 41; refine (stretch_any _ _ (by simp) _ hs').mono ?_; rintro e w' ⟨rfl, rfl⟩))
        go_ret
        exact ⟨ret_int (by rw [e1.out]), rfl⟩
      | false =>
        have e1 : Hid (Lx.tlen s.data.toList = 1) := Lib.hid (by rw [e0.out, if_neg hb, if_neg (by simp [h4]), if_neg (by simp [h8])])
        have hy8 : (bits .and .i64 (Lx.tr (s[0]'h0)) 8 != 0) = false := by rw [hT8]; simpa [Lx.hasT] using h8
        clear hb e0 hT4 hT8 h4 h8
        go_enter Try.func29, Try.ntmps29
        go_wp2_with (go_at_call 53; refine (traits_any _ _).mono ?_; rintro e w' ⟨rfl, rfl⟩)
        go_ret
        exact ⟨ret_int (by rw [e1.out]; rfl), rfl⟩

namespace Lx
theorem dg_yes {b : UInt8} (h : dgB b = true) : 48 ≤ b.toNat ∧ b.toNat ≤ 57 := by simpa [dgB] using h
theorem dg_no {b : UInt8} (h : dgB b = false) : b.toNat < 48 ∨ 57 < b.toNat := by
  have : ¬ (48 ≤ b.toNat ∧ b.toNat ≤ 57) := by simpa [dgB] using h
  omega
theorem all_take_succ (s : ByteArray) (k : Nat) (h : k < s.size) : (s.data.toList.take (k + 1)).all dgB = ((s.data.toList.take k).all dgB && dgB (s[k]'h)) := by
  rw [List.take_succ_eq_append_getElem (by rw [size_list]; exact h), List.all_append, get_list s k h]
  simp
theorem all_take_no (s : ByteArray) (k : Nat) (h : k < s.size) (hd : dgB (s[k]'h) = false) : s.data.toList.all dgB = false := by
  have h2 := all_take_succ s k h
  rw [hd, Bool.and_false] at h2
  rw [← List.take_append_drop (k + 1) s.data.toList, List.all_append, h2]
  rfl
theorem isNum_not (l : List UInt8) (h : l.all dgB = false) : isNum l = false := by
  unfold isNum
  rw [h]
  rfl
theorem isNum_cons (s : ByteArray) (h : 0 < s.size) (hd : s.data.toList.all dgB = true) : isNum s.data.toList =
    (!(decide (s[0]'h = 48) && decide (1 < s.size)) && decide (s.size ≤ 19) && (decide (s.size < 19) || (Op.bytesLess s.toList maxNum || s.toList == maxNum))) := by
  obtain ⟨r, h1⟩ := head_list s h
  have h2 := size_list s
  unfold isNum
  rw [Lib.toList_data, hd, h2, h1]
  simp
end Lx

set_option maxHeartbeats 4000000 in
theorem isNumber_any (s : ByteArray) (w : World) (hs : s.size ≤ maxLen) :
    Calls Try.prog 54 #[.string s] w fun e w' => e = .returned (.bool (Lx.isNum s.data.toList)) ∧ w = w' := by
  unfold maxLen at hs
  go_enter Try.func54, Try.ntmps54
  go_wp2_with fail
  go_loop [3, 6] (fun _ i => ∃ k : Nat, k ≤ s.size ∧ i = .int .i64 k ∧ (s.data.toList.take k).all Lx.dgB = true) (fun _ i => s.size - (intOf i).toNat)
  case atStart => exact ⟨0, Nat.zero_le _, rfl, rfl⟩
  case round =>
    obtain ⟨k, hk, rfl, hall⟩ := hrel
    have HA := Lib.hid hall
    clear hall
    by_cases hlt : k < s.size
    · cases hd : Lx.dgB (s[k]'hlt) with
      | true =>
        obtain ⟨d1, d2⟩ := Lx.dg_yes hd
        have e := Lib.hid (Lx.all_take_succ s k hlt)
        have HD := Lib.hid hd
        clear hd
        go_wp2_with fail
        go_round
        case rel => exact ⟨k + 1, by omega, by go_num, by rw [e.out, HA.out, HD.out]; rfl⟩
        case measure => simp [intOf]; omega
      | false =>
        have e := Lib.hid (Lx.isNum_not _ (Lx.all_take_no s k hlt hd))
        have hor := Lx.dg_no hd
        clear hd
        rcases hor with d1 | d1
        all_goals
          go_wp2_with fail
          go_ret
          exact ⟨ret_bool (by rw [e.out]), rfl⟩
    · have hk2 : s.size ≤ k := by omega
      have hda : s.data.toList.all Lx.dgB = true := by have := HA.out; rwa [List.take_of_length_le (by rw [Lx.size_list]; exact hk2)] at this
      have HDA := Lib.hid hda
      clear hda
      by_cases h0 : 0 < s.size
      · have h0' : (s.toList.isEmpty) = false := by obtain ⟨r, h1⟩ := Lx.head_list s h0; rw [Lib.toList_data, h1]; rfl
        have e := Lib.hid (Lx.isNum_cons s h0 HDA.out)
        by_cases h48 : s[0]'h0 = 48
        · have hq : (((s[0]'h0).toNat : Int) == 48) = true := by rw [show (48 : Int) = ((48 : UInt8).toNat : Int) from rfl, Lx.byte_beq]; simp [h48]
          have H48 := Lib.hid h48
          clear h48
          by_cases h1 : 1 < s.size
          · have e2 : Hid (Lx.isNum s.data.toList = false) := Lib.hid (by rw [e.out]; simp [H48.out, h1])
            go_wp2_with fail
            go_ret
            exact ⟨ret_bool (by rw [e2.out]), rfl⟩
          · have e2 : Hid (Lx.isNum s.data.toList = true) := Lib.hid (by rw [e.out]; simp [H48.out, h1]; constructor <;> omega)
            go_wp2_with fail
            go_ret
            exact ⟨ret_bool (by rw [e2.out]), rfl⟩
        · have hq : (((s[0]'h0).toNat : Int) == 48) = false := by rw [show (48 : Int) = ((48 : UInt8).toNat : Int) from rfl, Lx.byte_beq]; simp [h48]
          have H48 := Lib.hid h48
          clear h48
          by_cases h19 : 19 < s.size
          · have e2 : Hid (Lx.isNum s.data.toList = false) := Lib.hid (by rw [e.out]; simp [H48.out]; omega)
            go_wp2_with fail
            go_ret
            exact ⟨ret_bool (by rw [e2.out]), rfl⟩
          · by_cases h18 : s.size < 19
            · have e2 : Hid (Lx.isNum s.data.toList = true) := Lib.hid (by rw [e.out]; simp [H48.out, h18]; omega)
              go_wp2_with fail
              go_ret
              exact ⟨ret_bool (by rw [e2.out]), rfl⟩
            · have e2 : Hid (Lx.isNum s.data.toList = (Op.bytesLess s.toList Lx.maxNum || s.toList == Lx.maxNum)) := Lib.hid (by rw [e.out]; simp [H48.out, h18]; omega)
              go_wp2_with fail
              go_ret
              exact ⟨ret_bool (by rw [e2.out, decide_eq_false (by omega)]; rfl), rfl⟩
      · have h0' : (s.toList.isEmpty) = true := by rw [Lib.toList_data, Lx.no_list s h0]; rfl
        have e2 : Hid (Lx.isNum s.data.toList = false) := Lib.hid (by rw [Lx.no_list s h0]; rfl)
        go_wp2_with fail
        go_ret
        exact ⟨ret_bool (by rw [e2.out]), rfl⟩

end Go.Proofs.Ytcedigkknjioeaa
