/- What stretch and isComment return. Conditions: the string is no longer than a string can be. -/
import Derived.Test.YtcedigkknjioeaaBytes
namespace Go.Proofs.Ytcedigkknjioeaa
open Go.RowKit

theorem get_list (s : ByteArray) (k : Nat) (h : k < s.size) (hl : k < s.data.toList.length) : s.data.toList[k]'hl = s[k]'h := by
  rw [Array.getElem_toList]; rfl

set_option maxHeartbeats 1000000 in
theorem stretch_any (s : ByteArray) (t : Int) (ht : t ∈ [(1 : Int), 2, 4, 8, 16]) (w : World) (hs : s.size ≤ maxLen) :
    Calls Try.prog 41 #[.string s, .int .i64 t] w fun e w' => e = .returned (.int .i64 (Lx.st t s.data.toList)) ∧ w = w' := by
  unfold maxLen at hs
  have hT : ∀ b, (bits .and .i64 (Lx.tr b) t != 0) = Lx.hasT t b := fun b => Lx.hasT_bits b t ht
  have HT := Lib.hid hT
  clear hT ht
  go_enter Try.func41, Try.ntmps41
  go_wp2
  go_loop [5] (fun i => ∃ k : Nat, k ≤ s.size ∧ i = .int .i64 k ∧ k ≤ Lx.st t s.data.toList) (fun i => s.size - (intOf i).toNat)
  case atStart => exact ⟨0, Nat.zero_le _, rfl, Nat.zero_le _⟩
  case round =>
    obtain ⟨k, hk, rfl, hst⟩ := hrel
    have H := Lib.hid hst
    clear hst
    by_cases hlt : k < s.size
    · cases hx : Lx.hasT t (s[k]'hlt) with
      | true =>
        have hy : (bits .and .i64 (Lx.tr s[k]) t != 0) = true := by rw [HT.out, hx]
        go_wp2_with (go_at_call 53; refine (traits_any _ _).mono ?_; rintro e w' ⟨rfl, rfl⟩)
        go_round
        case rel => exact ⟨k + 1, by omega, by go_num, Lx.st_yes t _ k (by simpa using hlt) H.out (by rw [get_list s k hlt]; exact hx)⟩
        case measure => simp [intOf]; omega
      | false =>
        have hy : (bits .and .i64 (Lx.tr s[k]) t != 0) = false := by rw [HT.out, hx]
        have hz : Lx.st t s.data.toList = k := Lx.st_no t _ k (by simpa using hlt) H.out (by rw [get_list s k hlt]; exact hx)
        have HZ := Lib.hid hz
        clear hz
        go_wp2_with (go_at_call 53; refine (traits_any _ _).mono ?_; rintro e w' ⟨rfl, rfl⟩)
        go_ret
        exact ⟨ret_int (by rw [HZ.out]), rfl⟩
    · have hz : Lx.st t s.data.toList = k := by have := Lx.st_le t s.data.toList; have h2 := H.out; simp at this; omega
      have HZ := Lib.hid hz
      clear hz
      go_wp2
      go_ret
      exact ⟨ret_int (by rw [HZ.out]), rfl⟩

theorem pre_list : ∀ l : List UInt8, (l.take 2 == [45, 45]) = Lx.isPre l
  | [] => rfl
  | [a] => by simp [Lx.isPre]
  | a :: b :: l => by
    unfold Lx.isPre
    split
    · rename_i h
      simp at h
      simp [h]
    · rename_i h
      simp
      rintro rfl rfl
      exact h l rfl

set_option maxHeartbeats 1000000 in
theorem isComment_any (s : ByteArray) (w : World) (hs : s.size ≤ maxLen) :
    Calls Try.prog 42 #[.string s] w fun e w' => e = .returned (.bool (Lx.isPre s.data.toList)) ∧ w = w' := by
  unfold maxLen at hs
  have hp := Lib.hid (pre_list s.data.toList)
  by_cases hlt : 2 ≤ s.size
  · go_enter Try.func42, Try.ntmps42
    go_wp2
    go_ret
    refine ⟨?_, rfl⟩
    rw [← hp.out]
    show Ending.returned (Value.bool ((s.extract 0 2).toList == [45, 45])) = _
    rw [Lib.extract_toList]
    simp
  · go_enter Try.func42, Try.ntmps42
    go_wp2
    go_ret
    refine ⟨ret_bool ?_, rfl⟩
    rw [← hp.out]
    symm
    rw [beq_eq_false_iff_ne]
    intro h
    have := congrArg List.length h
    simp at this
    omega

end Go.Proofs.Ytcedigkknjioeaa
