/- What the reference's run and IsNumber return. Conditions: the string is no longer than a string can be; the place lies in it. -/
import Derived.Test.YtcedigkknjioeaaRefN
namespace Go.Proofs.Ytcedigkknjioeaa
open Go.RowKit Go.WideMaps Go.Maps

theorem st_more (t : Int) (s : ByteArray) (a k : Nat) (h : a + k < s.size) (hk : k ≤ Lx.st t (s.data.toList.drop a)) (hb : Lx.hasT t (s[a + k]'h) = true) : k + 1 ≤ Lx.st t (s.data.toList.drop a) := by
  have hl : k < (s.data.toList.drop a).length := by rw [List.length_drop, Lx.size_list]; omega
  refine Lx.st_yes t _ k hl hk ?_
  rw [List.getElem_drop, get_list s (a + k) h]
  exact hb
theorem st_stop (t : Int) (s : ByteArray) (a k : Nat) (h : a + k < s.size) (hk : k ≤ Lx.st t (s.data.toList.drop a)) (hb : Lx.hasT t (s[a + k]'h) = false) : Lx.st t (s.data.toList.drop a) = k := by
  have hl : k < (s.data.toList.drop a).length := by rw [List.length_drop, Lx.size_list]; omega
  refine Lx.st_no t _ k hl hk ?_
  rw [List.getElem_drop, get_list s (a + k) h]
  exact hb
theorem st_end (t : Int) (s : ByteArray) (a k : Nat) (h : s.size ≤ a + k) (ha : a ≤ s.size) (hk : k ≤ Lx.st t (s.data.toList.drop a)) : Lx.st t (s.data.toList.drop a) = k := by
  have := Lx.st_le t (s.data.toList.drop a)
  rw [List.length_drop, Lx.size_list] at this
  omega

set_option maxHeartbeats 2000000 in
theorem runN (s : ByteArray) (a : Nat) (w : World) (hs : s.size ≤ maxLen) (ha : a ≤ s.size) :
    Calls Try.prog 32 #[.string s, .int .i64 a, .bool false] w fun e w' => e = .returned (.int .i64 ((a + Lx.st 4 (s.data.toList.drop a) : Nat) : Int)) ∧ w = w' := by
  unfold maxLen at hs
  go_enter Try.func32, Try.ntmps32
  go_wp2_with fail
  go_loop [7] (fun i => ∃ k : Nat, a + k ≤ s.size ∧ i = .int .i64 ((a + k : Nat) : Int) ∧ k ≤ Lx.st 4 (s.data.toList.drop a)) (fun i => s.size - (intOf i).toNat)
  case atStart => exact ⟨0, ha, rfl, Nat.zero_le _⟩
  case round =>
    obtain ⟨k, hk, rfl, hst⟩ := hrel
    have H := Lib.hid hst
    clear hst
    obtain ⟨m, hm⟩ : ∃ m, m = a + k := ⟨_, rfl⟩
    by_cases hlt : m < s.size
    · cases hd : Lx.nmB (s[m]'hlt) with
      | true =>
        have hc : ∀ w, Calls Try.prog 56 #[.int .u8 (s[m]'hlt).toNat] w fun e w' => e = .returned (.bool true) ∧ w = w' := fun w => hd ▸ rname _ w
        have HC := Lib.hid hc
        have hd2 : Lx.hasT 4 (s[a + k]'(by omega)) = true := by subst hm; exact hd
        have e := Lib.hid (st_more 4 s a k (by omega) H.out hd2)
        clear hd hc hd2
        rw [← hm]
        have HM := Lib.hid hm
        clear hm
        go_wp2_with (go_at_call 56; refine (HC.out _).mono ?_; rintro e w' ⟨rfl, rfl⟩)
        go_round
        case rel => exact ⟨k + 1, by have := HM.out; omega, by rw [HM.out]; go_num, e.out⟩
        case measure => simp [intOf]; omega
      | false =>
        have hc : ∀ w, Calls Try.prog 56 #[.int .u8 (s[m]'hlt).toNat] w fun e w' => e = .returned (.bool false) ∧ w = w' := fun w => hd ▸ rname _ w
        have HC := Lib.hid hc
        have hd2 : Lx.hasT 4 (s[a + k]'(by omega)) = false := by subst hm; exact hd
        have e := Lib.hid (st_stop 4 s a k (by omega) H.out hd2)
        clear hd hc hd2
        rw [← hm]
        have HM := Lib.hid hm
        clear hm
        go_wp2_with (go_at_call 56; refine (HC.out _).mono ?_; rintro e w' ⟨rfl, rfl⟩)
        go_ret
        exact ⟨ret_int (by rw [e.out, HM.out] <;> omega), rfl⟩
    · have e := Lib.hid (st_end 4 s a k (by omega) ha H.out)
      rw [← hm]
      have HM := Lib.hid hm
      clear hm
      go_wp2_with fail
      go_ret
      exact ⟨ret_int (by rw [e.out, HM.out] <;> omega), rfl⟩

set_option maxHeartbeats 2000000 in
theorem runO (s : ByteArray) (a : Nat) (w : World) (hs : s.size ≤ maxLen) (ha : a ≤ s.size) :
    Calls Try.prog 32 #[.string s, .int .i64 a, .bool true] w fun e w' => e = .returned (.int .i64 ((a + Lx.st 8 (s.data.toList.drop a) : Nat) : Int)) ∧ Below w.heap.size w w' := by
  unfold maxLen at hs
  go_enter Try.func32, Try.ntmps32
  go_wp2_with fail
  go_loopw [7] (fun i wr => ∃ k : Nat, a + k ≤ s.size ∧ i = .int .i64 ((a + k : Nat) : Int) ∧ k ≤ Lx.st 8 (s.data.toList.drop a) ∧ Below w.heap.size w wr) (fun i _ => s.size - (intOf i).toNat)
  case atStart => exact ⟨0, ha, rfl, Nat.zero_le _, Below.refl _ _⟩
  case round =>
    obtain ⟨k, hk, rfl, hst, hbel⟩ := hrel
    have H := Lib.hid hst
    have hbt : ∀ w2, Below wr.heap.size wr w2 → Below w.heap.size w w2 := fun w2 h => hbel.trans (h.mono hbel.size)
    have HBT := Lib.hid hbt
    have HBL := Lib.hid hbel
    clear hbt hbel hst
    obtain ⟨m, hm⟩ : ∃ m, m = a + k := ⟨_, rfl⟩
    by_cases hlt : m < s.size
    · cases hd : Lx.opB (s[m]'hlt) with
      | true =>
        have hc : Calls Try.prog 55 #[.int .u8 (s[m]'hlt).toNat] wr fun e w' => e = .returned (.bool true) ∧ Below wr.heap.size wr w' := hd ▸ rop _ wr
        have HC := Lib.hid hc
        have hd2 : Lx.hasT 8 (s[a + k]'(by omega)) = true := by subst hm; exact hd
        have e := Lib.hid (st_more 8 s a k (by omega) H.out hd2)
        clear hd hc hd2
        rw [← hm]
        have HM := Lib.hid hm
        clear hm
        go_wp2_with (go_at_call 55; refine HC.out.mono ?_; rintro e w2 ⟨rfl, hb2⟩)
        go_roundw
        case rel => exact ⟨k + 1, by have := HM.out; omega, by rw [HM.out]; go_num, e.out, HBT.out _ (by assumption)⟩
        case measure => simp [intOf]; omega
      | false =>
        have hc : Calls Try.prog 55 #[.int .u8 (s[m]'hlt).toNat] wr fun e w' => e = .returned (.bool false) ∧ Below wr.heap.size wr w' := hd ▸ rop _ wr
        have HC := Lib.hid hc
        have hd2 : Lx.hasT 8 (s[a + k]'(by omega)) = false := by subst hm; exact hd
        have e := Lib.hid (st_stop 8 s a k (by omega) H.out hd2)
        clear hd hc hd2
        rw [← hm]
        have HM := Lib.hid hm
        clear hm
        go_wp2_with (go_at_call 55; refine HC.out.mono ?_; rintro e w2 ⟨rfl, hb2⟩)
        go_ret
        exact ⟨ret_int (by rw [e.out, HM.out] <;> omega), HBT.out _ (by assumption)⟩
    · have e := Lib.hid (st_end 8 s a k (by omega) ha H.out)
      rw [← hm]
      have HM := Lib.hid hm
      clear hm
      go_wp2_with fail
      go_ret
      exact ⟨ret_int (by rw [e.out, HM.out] <;> omega), HBL.out⟩

end Go.Proofs.Ytcedigkknjioeaa
