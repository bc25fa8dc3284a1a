/- What the reference's all, run and comment return. Conditions: the string is no longer than a string can be. -/
import Derived.Test.YtcedigkknjioeaaRefS
namespace Go.Proofs.Ytcedigkknjioeaa
open Go.RowKit Go.WideMaps Go.Maps

def allB (p : UInt8 → Bool) (l : List UInt8) : Bool := l.all p

theorem allB_take_succ (p : UInt8 → Bool) (s : ByteArray) (k : Nat) (h : k < s.size) : allB p (s.data.toList.take (k + 1)) = (allB p (s.data.toList.take k) && p (s[k]'h)) := by
  unfold allB
  rw [List.take_succ_eq_append_getElem (by rw [Lx.size_list]; exact h), List.all_append, get_list s k h]
  simp
theorem allB_no (p : UInt8 → Bool) (s : ByteArray) (k : Nat) (h : k < s.size) (hd : p (s[k]'h) = false) : allB p s.data.toList = false := by
  have h2 := allB_take_succ p s k h
  rw [hd, Bool.and_false] at h2
  unfold allB at h2 ⊢
  rw [← List.take_append_drop (k + 1) s.data.toList, List.all_append, h2]
  rfl
theorem allB_end (p : UInt8 → Bool) (s : ByteArray) (k : Nat) (h : s.size ≤ k) (hd : allB p (s.data.toList.take k) = true) : allB p s.data.toList = true := by
  rwa [List.take_of_length_le (by rw [Lx.size_list]; exact h)] at hd

set_option maxHeartbeats 1000000 in
theorem rallN (s : ByteArray) (w : World) (hs : s.size ≤ maxLen) :
    Calls Try.prog 38 #[.string s, .bool false] w fun e w' => e = .returned (.bool (allB Lx.nmB s.data.toList)) ∧ w = w' := by
  unfold maxLen at hs
  go_enter Try.func38, Try.ntmps38
  go_wp2_with fail
  go_loop [8] (fun i => ∃ k : Nat, k ≤ s.size ∧ i = .int .i64 k ∧ allB Lx.nmB (s.data.toList.take k) = true) (fun i => s.size - (intOf i).toNat)
  case atStart => exact ⟨0, Nat.zero_le _, rfl, rfl⟩
  case round =>
    obtain ⟨k, hk, rfl, hall⟩ := hrel
    have HA := Lib.hid hall
    clear hall
    by_cases hlt : k < s.size
    · cases hd : Lx.nmB (s[k]'hlt) with
      | true =>
        have hc : ∀ w, Calls Try.prog 56 #[.int .u8 (s[k]'hlt).toNat] w fun e w' => e = .returned (.bool true) ∧ w = w' := fun w => hd ▸ rname _ w
        have HC := Lib.hid hc
        have e := Lib.hid (allB_take_succ Lx.nmB s k hlt)
        have HD := Lib.hid hd
        clear hd hc
        go_wp2_with (go_at_call 56; refine (HC.out _).mono ?_; rintro e w' ⟨rfl, rfl⟩)
        go_round
        case rel => exact ⟨k + 1, by omega, by go_num, by rw [e.out, HA.out, HD.out]; rfl⟩
        case measure => simp [intOf]; omega
      | false =>
        have hc : ∀ w, Calls Try.prog 56 #[.int .u8 (s[k]'hlt).toNat] w fun e w' => e = .returned (.bool false) ∧ w = w' := fun w => hd ▸ rname _ w
        have HC := Lib.hid hc
        have e := Lib.hid (allB_no Lx.nmB s k hlt hd)
        clear hd hc
        go_wp2_with (go_at_call 56; refine (HC.out _).mono ?_; rintro e w' ⟨rfl, rfl⟩)
        go_ret
        exact ⟨ret_bool (by rw [e.out]), rfl⟩
    · have e := Lib.hid (allB_end Lx.nmB s k (by omega) HA.out)
      go_wp2_with fail
      go_ret
      exact ⟨ret_bool (by rw [e.out]), rfl⟩

set_option maxHeartbeats 1000000 in
theorem rallO (s : ByteArray) (w : World) (hs : s.size ≤ maxLen) :
    Calls Try.prog 38 #[.string s, .bool true] w fun e w' => e = .returned (.bool (allB Lx.opB s.data.toList)) ∧ Below w.heap.size w w' := by
  unfold maxLen at hs
  go_enter Try.func38, Try.ntmps38
  go_wp2_with fail
  go_loopw [8] (fun i wr => ∃ k : Nat, k ≤ s.size ∧ i = .int .i64 k ∧ allB Lx.opB (s.data.toList.take k) = true ∧ Below w.heap.size w wr) (fun i _ => s.size - (intOf i).toNat)
  case atStart => exact ⟨0, Nat.zero_le _, rfl, rfl, Below.refl _ _⟩
  case round =>
    obtain ⟨k, hk, rfl, hall, hbel⟩ := hrel
    have HA := Lib.hid hall
    clear hall
    have hbt : ∀ w2, Below wr.heap.size wr w2 → Below w.heap.size w w2 := fun w2 h => hbel.trans (h.mono hbel.size)
    have HBT := Lib.hid hbt
    have HBL := Lib.hid hbel
    clear hbt hbel
    by_cases hlt : k < s.size
    · cases hd : Lx.opB (s[k]'hlt) with
      | true =>
        have hc : Calls Try.prog 55 #[.int .u8 (s[k]'hlt).toNat] wr fun e w' => e = .returned (.bool true) ∧ Below wr.heap.size wr w' := hd ▸ rop _ wr
        have HC := Lib.hid hc
        have e := Lib.hid (allB_take_succ Lx.opB s k hlt)
        have HD := Lib.hid hd
        clear hd hc
        go_wp2_with (go_at_call 55; refine HC.out.mono ?_; rintro e w2 ⟨rfl, hb2⟩)
        go_roundw
        case rel => exact ⟨k + 1, by omega, by go_num, by rw [e.out, HA.out, HD.out]; rfl, HBT.out _ (by assumption)⟩
        case measure => simp [intOf]; omega
      | false =>
        have hc : Calls Try.prog 55 #[.int .u8 (s[k]'hlt).toNat] wr fun e w' => e = .returned (.bool false) ∧ Below wr.heap.size wr w' := hd ▸ rop _ wr
        have HC := Lib.hid hc
        have e := Lib.hid (allB_no Lx.opB s k hlt hd)
        clear hd hc
        go_wp2_with (go_at_call 55; refine HC.out.mono ?_; rintro e w2 ⟨rfl, hb2⟩)
        go_ret
        exact ⟨ret_bool (by rw [e.out]), HBT.out _ (by assumption)⟩
    · have e := Lib.hid (allB_end Lx.opB s k (by omega) HA.out)
      go_wp2_with fail
      go_ret
      exact ⟨ret_bool (by rw [e.out]), HBL.out⟩

theorem pre_cons (s : ByteArray) (h : 1 < s.size) : Lx.isPre s.data.toList = (decide (s[0]'(by omega) = 45) && decide (s[1]'h = 45)) := by
  obtain ⟨⟨l⟩⟩ := s
  match l, h with
  | a :: b :: r, h =>
    show Lx.isPre (a :: b :: r) = (decide (a = 45) && decide (b = 45))
    unfold Lx.isPre
    split
    · rename_i h1
      simp at h1
      simp [h1]
    · rename_i h1
      simp
      rintro rfl rfl
      exact h1 r rfl
theorem pre_short (s : ByteArray) (h : ¬ 1 < s.size) : Lx.isPre s.data.toList = false := by
  obtain ⟨⟨l⟩⟩ := s
  match l, h with
  | [], _ => rfl
  | [a], _ => simp [Lx.isPre]
  | a :: b :: r, h => exact absurd (by simp [ByteArray.size]) h

set_option maxHeartbeats 1000000 in
theorem rcomment (s : ByteArray) (w : World) (hs : s.size ≤ maxLen) :
    Calls Try.prog 31 #[.string s] w fun e w' => e = .returned (.bool (Lx.isPre s.data.toList)) ∧ w = w' := by
  unfold maxLen at hs
  by_cases h : 1 < s.size
  · have h0 : 0 < s.size := by omega
    have e := Lib.hid (pre_cons s h)
    have q0 : (((s[0]'h0).toNat : Int) == 45) = decide (s[0]'h0 = 45) := Lx.byte_beq _ 45
    have q1 : (((s[1]'h).toNat : Int) == 45) = decide (s[1]'h = 45) := Lx.byte_beq _ 45
    by_cases b0 : s[0]'h0 = 45
    · have e2 : Hid (Lx.isPre s.data.toList = (((s[1]'h).toNat : Int) == 45)) := Lib.hid (by rw [e.out, q1]; simp [b0])
      rw [decide_eq_true b0] at q0
      clear b0 q1
      go_enter Try.func31, Try.ntmps31
      go_wp2_with fail
      go_ret
      exact ⟨ret_bool (by rw [e2.out]), rfl⟩
    · have e2 : Hid (Lx.isPre s.data.toList = false) := Lib.hid (by rw [e.out]; simp [b0])
      rw [decide_eq_false b0] at q0
      clear b0 q1
      go_enter Try.func31, Try.ntmps31
      go_wp2_with fail
      go_ret
      exact ⟨ret_bool (by rw [e2.out]), rfl⟩
  · have e := Lib.hid (pre_short s h)
    go_enter Try.func31, Try.ntmps31
    go_wp2_with fail
    go_ret
    exact ⟨ret_bool (by rw [e.out]), rfl⟩

end Go.Proofs.Ytcedigkknjioeaa
