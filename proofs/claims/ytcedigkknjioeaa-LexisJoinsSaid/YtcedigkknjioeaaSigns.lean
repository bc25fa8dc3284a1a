/- What isSign, IsOp and tokenLength return. Conditions: the string is no longer than a string can be. -/
import Derived.Test.YtcedigkknjioeaaNames
namespace Go.Proofs.Ytcedigkknjioeaa
open Go.RowKit

set_option maxHeartbeats 4000000 in
theorem sign_yes (l : List UInt8) (w : World) (h : l ∈ Lx.runSigns ++ Lx.byteSigns) :
    Calls Try.prog 43 #[.string ⟨l.toArray⟩] w fun e w' => e = .returned (.bool true) ∧ w = w' := by
  simp only [Lx.runSigns, Lx.byteSigns, List.cons_append, List.nil_append, List.mem_cons, List.not_mem_nil, or_false] at h
  rcases h with rfl | rfl | rfl | rfl | rfl | rfl | rfl | rfl | rfl | rfl | rfl | rfl | rfl | rfl | rfl | rfl | rfl | rfl | rfl
  all_goals
    go_enter Try.func43, Try.ntmps43
    go_wp2_with fail
    go_ret
    exact ⟨rfl, rfl⟩

theorem no_sign (s : ByteArray) (h : ¬ s.data.toList ∈ Lx.runSigns ++ Lx.byteSigns) (c : List UInt8) (hc : c ∈ Lx.runSigns ++ Lx.byteSigns) : (s.toList == c) = false := by
  rw [beq_eq_false_iff_ne, Lib.toList_data]
  rintro rfl
  exact h hc

set_option maxHeartbeats 2000000 in
theorem sign_no (s : ByteArray) (w : World) (h : ¬ s.data.toList ∈ Lx.runSigns ++ Lx.byteSigns) :
    Calls Try.prog 43 #[.string s] w fun e w' => e = .returned (.bool false) ∧ w = w' := by
  have h61 := no_sign s h [61] (by decide)
  have h45_62 := no_sign s h [45, 62] (by decide)
  have h61_62 := no_sign s h [61, 62] (by decide)
  have h60_45 := no_sign s h [60, 45] (by decide)
  have h58 := no_sign s h [58] (by decide)
  have h124 := no_sign s h [124] (by decide)
  have h92 := no_sign s h [92] (by decide)
  have h64 := no_sign s h [64] (by decide)
  have h126 := no_sign s h [126] (by decide)
  have h33 := no_sign s h [33] (by decide)
  have h46 := no_sign s h [46] (by decide)
  have h40 := no_sign s h [40] (by decide)
  have h41 := no_sign s h [41] (by decide)
  have h123 := no_sign s h [123] (by decide)
  have h125 := no_sign s h [125] (by decide)
  have h44 := no_sign s h [44] (by decide)
  have h59 := no_sign s h [59] (by decide)
  have h95 := no_sign s h [95] (by decide)
  have h39 := no_sign s h [39] (by decide)
  clear h
  go_enter Try.func43, Try.ntmps43
  go_wp2_with fail
  go_ret
  exact ⟨rfl, rfl⟩

theorem isSign_any (s : ByteArray) (w : World) :
    Calls Try.prog 43 #[.string s] w fun e w' => e = .returned (.bool (Lx.isSg s.data.toList)) ∧ w = w' := by
  by_cases h : s.data.toList ∈ Lx.runSigns ++ Lx.byteSigns
  · have e : Lx.isSg s.data.toList = true := by
      unfold Lx.isSg
      rw [Bool.or_eq_true, List.contains_iff_mem, List.contains_iff_mem]
      exact List.mem_append.1 h
    rw [e]
    exact sign_yes s.data.toList w h
  · have e : Lx.isSg s.data.toList = false := by
      unfold Lx.isSg
      rw [Bool.eq_false_iff, Ne, Bool.or_eq_true, List.contains_iff_mem, List.contains_iff_mem]
      exact fun h2 => h (List.mem_append.2 h2)
    rw [e]
    exact sign_no s w h

set_option maxHeartbeats 2000000 in
theorem isOp_any (s : ByteArray) (w : World) (hs : s.size ≤ maxLen) :
    Calls Try.prog 17 #[.string s] w fun e w' => e = .returned (.bool (Lx.isOpL s.data.toList)) ∧ w = w' := by
  have hs' := hs
  unfold maxLen at hs
  have hl := Lib.hid (Lx.size_list s)
  have e1 : Hid (Lx.isOpL s.data.toList = (decide (0 < s.size) && decide (s.size ≤ 16) && decide (Lx.st 8 s.data.toList = s.size) && !Lx.isPre s.data.toList && !Lx.isSg s.data.toList)) := Lib.hid (by rw [← hl.out]; rfl)
  by_cases h : 0 < s.size ∧ s.size ≤ 16
  · obtain ⟨h0, h16⟩ := h
    by_cases hst : Lx.st 8 s.data.toList = s.size
    · have hb : (((Lx.st 8 s.data.toList : Nat) : Int) == (s.size : Int)) = true := by rw [Lx.int_beq]; simp [hst]
      have e2 : Hid (Lx.isOpL s.data.toList = (!Lx.isPre s.data.toList && !Lx.isSg s.data.toList)) := Lib.hid (by rw [e1.out]; simp [h0, h16, hst])
      clear hst
      cases hx : Lx.isPre s.data.toList with
      | true =>
        have hc : ∀ w, Calls Try.prog 42 #[.string s] w fun e w' => e = .returned (.bool true) ∧ w = w' := fun w => hx ▸ isComment_any s w hs'
        have HC := Lib.hid hc
        have HX := Lib.hid hx
        clear hc hx
        go_enter Try.func17, Try.ntmps17
        go_wp2_with (first | (go_at_call 41; refine (stretch_any _ _ (by simp) _ hs').mono ?_; rintro e w' ⟨rfl, rfl⟩) | (go_at_call 42; refine (HC.out _).mono ?_; rintro e w' ⟨rfl, rfl⟩))
        go_ret
        exact ⟨ret_bool (by rw [e2.out, HX.out]; rfl), rfl⟩
      | false =>
        have hc : ∀ w, Calls Try.prog 42 #[.string s] w fun e w' => e = .returned (.bool false) ∧ w = w' := fun w => hx ▸ isComment_any s w hs'
        have HC := Lib.hid hc
        have HX := Lib.hid hx
        clear hc hx
        go_enter Try.func17, Try.ntmps17
        go_wp2_with (first | (go_at_call 41; refine (stretch_any _ _ (by simp) _ hs').mono ?_; rintro e w' ⟨rfl, rfl⟩) | (go_at_call 42; refine (HC.out _).mono ?_; rintro e w' ⟨rfl, rfl⟩) | (go_at_call 43; refine (isSign_any _ _).mono ?_; rintro e w' ⟨rfl, rfl⟩))
        go_ret
        exact ⟨ret_bool (by rw [e2.out, HX.out]; rfl), rfl⟩
    · have hb : (((Lx.st 8 s.data.toList : Nat) : Int) == (s.size : Int)) = false := by rw [Lx.int_beq]; simp [hst]
      have e2 : Hid (Lx.isOpL s.data.toList = false) := Lib.hid (by rw [e1.out]; simp [h0, h16, hst])
      clear hst
      go_enter Try.func17, Try.ntmps17
      go_wp2_with (go_at_call 41; refine (stretch_any _ _ (by simp) _ hs').mono ?_; rintro e w' ⟨rfl, rfl⟩)
      go_ret
      exact ⟨ret_bool (by rw [e2.out]), rfl⟩
  · have e2 : Hid (Lx.isOpL s.data.toList = false) := Lib.hid (by rw [e1.out]; by_cases h0 : 0 < s.size <;> simp [h0]; intro h16; exact absurd ⟨h0, h16⟩ h)
    go_enter Try.func17, Try.ntmps17
    go_wp2_with fail
    all_goals (go_ret; exact ⟨ret_bool (by rw [e2.out]), rfl⟩)

end Go.Proofs.Ytcedigkknjioeaa
