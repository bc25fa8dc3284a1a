/- What the reference's IsNumber returns. Conditions: the string is no longer than a string can be. -/
import Derived.Test.YtcedigkknjioeaaRun
namespace Go.Proofs.Ytcedigkknjioeaa
open Go.RowKit Go.WideMaps Go.Maps

def great (l : List UInt8) : Bool := !Op.bytesLess l Lx.maxNum && !(l == Lx.maxNum)
theorem num_eq (s : ByteArray) (h : 0 < s.size) : Lx.isNum s.data.toList =
    (allB Lx.dgB s.data.toList && !(decide (s[0]'h = 48) && decide (1 < s.size)) && decide (s.size ≤ 19) && !(decide (s.size = 19) && great s.toList)) := by
  obtain ⟨r, h1⟩ := Lx.head_list s h
  have h2 := Lx.size_list s
  have h3 : s.data.toList.isEmpty = false := by rw [h1]; rfl
  have h4 : decide (s.data.toList.head? = some 48) = decide (s[0]'h = 48) := by rw [h1]; simp
  unfold Lx.isNum great allB
  rw [h3, h4, h2, Lib.toList_data]
  generalize s.data.toList.all Lx.dgB = x
  generalize Op.bytesLess s.data.toList Lx.maxNum = y
  generalize (s.data.toList == Lx.maxNum) = z
  generalize decide (s[0]'h = 48) = u
  generalize decide (1 < s.size) = v
  by_cases q1 : s.size < 19
  · have q2 : ¬ s.size = 19 := by omega
    have q3 : s.size ≤ 19 := by omega
    simp [q1, q2, q3]
  · by_cases q2 : s.size = 19
    · have q3 : s.size ≤ 19 := by omega
      simp [q2]
    · have q3 : ¬ s.size ≤ 19 := by omega
      simp [q3]

set_option maxHeartbeats 4000000 in
theorem rIsNumber (s : ByteArray) (w : World) (hs : s.size ≤ maxLen) :
    Calls Try.prog 67 #[.string s] w fun e w' => e = .returned (.bool (Lx.isNum s.data.toList)) ∧ w = w' := by
  unfold maxLen at hs
  by_cases h0 : 0 < s.size
  · have e := Lib.hid (num_eq s h0)
    by_cases h19 : 19 < s.size
    · have e2 : Hid (Lx.isNum s.data.toList = false) := Lib.hid (by rw [e.out, decide_eq_false (show ¬ s.size ≤ 19 by omega)]; simp)
      go_enter Try.func67, Try.ntmps67
      go_wp2_with fail
      go_ret
      exact ⟨ret_bool (by rw [e2.out]), rfl⟩
    · have q48 : (((s[0]'h0).toNat : Int) == 48) = decide (s[0]'h0 = 48) := Lx.byte_beq _ 48
      by_cases hz : s[0]'h0 = 48 ∧ 1 < s.size
      · obtain ⟨hz1, hz2⟩ := hz
        have e2 : Hid (Lx.isNum s.data.toList = false) := Lib.hid (by rw [e.out, decide_eq_true hz1, decide_eq_true hz2]; simp)
        rw [decide_eq_true hz1] at q48
        clear hz1
        go_enter Try.func67, Try.ntmps67
        go_wp2_with fail
        go_ret
        exact ⟨ret_bool (by rw [e2.out]), rfl⟩
      · by_cases hg : s.size = 19 ∧ great s.toList = true
        · obtain ⟨hg1, hg2⟩ := hg
          have e2 : Hid (Lx.isNum s.data.toList = false) := Lib.hid (by rw [e.out, decide_eq_true hg1, hg2]; simp)
          have hb : decide (s[0]'h0 = 48) = false := decide_eq_false (fun h => hz ⟨h, by omega⟩)
          rw [hb] at q48
          have hb19 : ((s.size : Int) == 19) = true := by rw [show (19 : Int) = ((19 : Nat) : Int) from rfl, Lx.int_beq]; simp [hg1]
          have hl : Op.bytesLess s.toList [57, 50, 50, 51, 51, 55, 50, 48, 51, 54, 56, 53, 52, 55, 55, 53, 56, 48, 55] = false := by
            unfold great at hg2
            simp at hg2
            exact hg2.1
          have hm : (s.toList == [57, 50, 50, 51, 51, 55, 50, 48, 51, 54, 56, 53, 52, 55, 55, 53, 56, 48, 55]) = false := by
            unfold great at hg2
            simp at hg2
            simpa [Lx.maxNum] using hg2.2
          clear hg1 hg2 hz hb
          go_enter Try.func67, Try.ntmps67
          go_wp2_with fail
          go_ret
          exact ⟨ret_bool (by rw [e2.out]), rfl⟩
        · have e2 : Hid (Lx.isNum s.data.toList = allB Lx.dgB s.data.toList) := Lib.hid (by
            rw [e.out, decide_eq_true (show s.size ≤ 19 by omega)]
            have h1 : (decide (s[0]'h0 = 48) && decide (1 < s.size)) = false := by rw [← Bool.decide_and, decide_eq_false_iff_not]; exact hz
            have h2 : (decide (s.size = 19) && great s.toList) = false := by
              rw [Bool.eq_false_iff]
              intro h
              rw [Bool.and_eq_true, decide_eq_true_eq] at h
              exact hg h
            rw [h1, h2]
            simp)
          have hcase : (s[0]'h0 = 48 ∧ s.size < 2) ∨ (¬ s[0]'h0 = 48 ∧ s.size < 19) ∨ (¬ s[0]'h0 = 48 ∧ s.size = 19 ∧ Op.bytesLess s.toList Lx.maxNum = true) ∨ (¬ s[0]'h0 = 48 ∧ s.size = 19 ∧ Op.bytesLess s.toList Lx.maxNum = false ∧ (s.toList == Lx.maxNum) = true) := by
            by_cases b48 : s[0]'h0 = 48
            · exact Or.inl ⟨b48, by rcases Nat.lt_or_ge s.size 2 with h | h; exact h; exact absurd ⟨b48, by omega⟩ hz⟩
            · by_cases c19 : s.size = 19
              · have hgr : great s.toList = false := by rw [Bool.eq_false_iff]; exact fun h => hg ⟨c19, h⟩
                unfold great at hgr
                cases hbl : Op.bytesLess s.toList Lx.maxNum with
                | true => exact Or.inr (Or.inr (Or.inl ⟨b48, c19, rfl⟩))
                | false =>
                  rw [hbl] at hgr
                  exact Or.inr (Or.inr (Or.inr ⟨b48, c19, rfl, by simpa using hgr⟩))
              · exact Or.inr (Or.inl ⟨b48, by omega⟩)
          clear e hz hg
          unfold Lx.maxNum at hcase
          rcases hcase with ⟨b48, c2⟩ | ⟨b48, c2⟩ | ⟨b48, c2, d1⟩ | ⟨b48, c2, d1, d2⟩
          all_goals
            first | rw [decide_eq_true b48] at q48 | rw [decide_eq_false b48] at q48
            clear b48
            have c3 : s.size ≤ 19 := by omega
            go_enter Try.func67, Try.ntmps67
            go_wp2_with fail
            go_loop [33] (fun i => ∃ k : Nat, k ≤ s.size ∧ i = .int .i64 k ∧ allB Lx.dgB (s.data.toList.take k) = true) (fun i => s.size - (intOf i).toNat)
            case atStart => exact ⟨0, Nat.zero_le _, rfl, rfl⟩
            case round =>
              obtain ⟨k, hk, rfl, hall⟩ := hrel
              have HA := Lib.hid hall
              clear hall
              by_cases hlt : k < s.size
              · cases hd : Lx.dgB (s[k]'hlt) with
                | true =>
                  have hc : ∀ w, Calls Try.prog 69 #[.int .u8 (s[k]'hlt).toNat] w fun e w' => e = .returned (.bool true) ∧ w = w' := fun w => hd ▸ rdigit _ w
                  have HC := Lib.hid hc
                  have e := Lib.hid (allB_take_succ Lx.dgB s k hlt)
                  have HD := Lib.hid hd
                  clear hd hc
                  go_wp2_with (go_at_call 69; refine (HC.out _).mono ?_; rintro e w' ⟨rfl, rfl⟩)
                  go_round
                  case rel => exact ⟨k + 1, by omega, by go_num, by rw [e.out, HA.out, HD.out]; rfl⟩
                  case measure => simp [intOf]; omega
                | false =>
                  have hc : ∀ w, Calls Try.prog 69 #[.int .u8 (s[k]'hlt).toNat] w fun e w' => e = .returned (.bool false) ∧ w = w' := fun w => hd ▸ rdigit _ w
                  have HC := Lib.hid hc
                  have e := Lib.hid (allB_no Lx.dgB s k hlt hd)
                  clear hd hc
                  go_wp2_with (go_at_call 69; refine (HC.out _).mono ?_; rintro e w' ⟨rfl, rfl⟩)
                  go_ret
                  exact ⟨ret_bool (by rw [e2.out, e.out]), rfl⟩
              · have e := Lib.hid (allB_end Lx.dgB s k (by omega) HA.out)
                go_wp2_with fail
                go_ret
                exact ⟨ret_bool (by rw [e2.out, e.out]), rfl⟩
  · have e2 : Hid (Lx.isNum s.data.toList = false) := Lib.hid (by rw [Lx.no_list s h0]; rfl)
    go_enter Try.func67, Try.ntmps67
    go_wp2_with fail
    go_ret
    exact ⟨ret_bool (by rw [e2.out]), rfl⟩

end Go.Proofs.Ytcedigkknjioeaa
