/- What the reference's tests of a name and an operator return, and the program's IsSmall. Conditions: the string is no longer than a string can be. -/
import Derived.Test.YtcedigkknjioeaaRefA
namespace Go.Proofs.Ytcedigkknjioeaa
open Go.RowKit Go.WideMaps Go.Maps

/-- a small name -/
def smallL (l : List UInt8) : Bool := Lx.isNm l && !Lx.isCap l && !hasL Lx.words l

theorem st_all (t : Int) : ∀ l : List UInt8, decide (Lx.st t l = l.length) = allB (Lx.hasT t) l
  | [] => rfl
  | b :: l => by
    have ih := st_all t l
    have hle := Lx.st_le t l
    rw [Lx.st_cons]
    unfold allB at ih ⊢
    rw [List.all_cons, ← ih]
    cases hb : Lx.hasT t b <;> simp
theorem all_nm (s : ByteArray) : allB Lx.nmB s.data.toList = decide (Lx.st 4 s.data.toList = s.size) := by
  rw [← Lx.size_list, st_all]
  rfl
theorem all_op (s : ByteArray) : allB Lx.opB s.data.toList = decide (Lx.st 8 s.data.toList = s.size) := by
  rw [← Lx.size_list, st_all]
  rfl

/-- the reference's small name is the program's -/
theorem small_eq (s : ByteArray) (h : 0 < s.size) : smallL s.data.toList = (decide (s.size ≤ 16) && Lx.loB (s[0]'h) && allB Lx.nmB s.data.toList && !hasL Lx.words s.data.toList) := by
  unfold smallL
  rw [Lx.isCap_cons s h, Lx.isNm_cons s h, all_nm]
  have hx : Lx.upB (s[0]'h) = true → Lx.loB (s[0]'h) = false := by
    unfold Lx.upB Lx.loB
    intro h1
    rw [decide_eq_true_eq] at h1
    rw [decide_eq_false_iff_not]
    omega
  unfold Lx.leB
  generalize decide (s.size ≤ 16) = a
  generalize decide (Lx.st 4 s.data.toList = s.size) = b
  generalize hasL Lx.words s.data.toList = c
  revert hx
  generalize Lx.upB (s[0]'h) = x
  generalize Lx.loB (s[0]'h) = y
  cases a <;> cases b <;> cases c <;> cases x <;> cases y <;> simp
theorem cap_eq (s : ByteArray) (h : 0 < s.size) : Lx.isCap s.data.toList = (decide (s.size ≤ 16) && Lx.upB (s[0]'h) && allB Lx.nmB s.data.toList) := by
  rw [Lx.isCap_cons s h, Lx.isNm_cons s h, all_nm]
  unfold Lx.leB
  generalize decide (s.size ≤ 16) = a
  generalize decide (Lx.st 4 s.data.toList = s.size) = b
  generalize Lx.upB (s[0]'h) = x
  generalize Lx.loB (s[0]'h) = y
  cases a <;> cases b <;> cases x <;> cases y <;> rfl

theorem nil_names : Lx.isNm [] = false ∧ Lx.isCap [] = false ∧ smallL [] = false := ⟨rfl, rfl, rfl⟩

set_option maxHeartbeats 2000000 in
theorem rIsCapital (s : ByteArray) (w : World) (hs : s.size ≤ maxLen) :
    Calls Try.prog 16 #[.string s] w fun e w' => e = .returned (.bool (Lx.isCap s.data.toList)) ∧ w = w' := by
  have hs' := hs
  unfold maxLen at hs
  by_cases h0 : 0 < s.size
  · have e := Lib.hid (cap_eq s h0)
    by_cases h16 : s.size ≤ 16
    · cases hu : Lx.upB (s[0]'h0) with
      | true =>
        have hc : ∀ w, Calls Try.prog 40 #[.int .u8 (s[0]'h0).toNat] w fun e w' => e = .returned (.bool true) ∧ w = w' := fun w => hu ▸ rcapital _ w
        have HC := Lib.hid hc
        have e2 : Hid (Lx.isCap s.data.toList = allB Lx.nmB s.data.toList) := Lib.hid (by rw [e.out, hu]; simp [h16])
        clear hc hu
        go_enter Try.func16, Try.ntmps16
        go_wp2_with (first | (go_at_call 40; refine (HC.out _).mono ?_; rintro e w' ⟨rfl, rfl⟩) | (go_at_call 38; refine (rallN _ _ hs').mono ?_; rintro e w' ⟨rfl, rfl⟩))
        go_ret
        exact ⟨ret_bool (by rw [e2.out]), rfl⟩
      | false =>
        have hc : ∀ w, Calls Try.prog 40 #[.int .u8 (s[0]'h0).toNat] w fun e w' => e = .returned (.bool false) ∧ w = w' := fun w => hu ▸ rcapital _ w
        have HC := Lib.hid hc
        have e2 : Hid (Lx.isCap s.data.toList = false) := Lib.hid (by rw [e.out, hu]; simp)
        clear hc hu
        go_enter Try.func16, Try.ntmps16
        go_wp2_with (first | (go_at_call 40; refine (HC.out _).mono ?_; rintro e w' ⟨rfl, rfl⟩) | (go_at_call 38; refine (rallN _ _ hs').mono ?_; rintro e w' ⟨rfl, rfl⟩))
        go_ret
        exact ⟨ret_bool (by rw [e2.out]), rfl⟩
    · have e2 : Hid (Lx.isCap s.data.toList = false) := Lib.hid (by rw [e.out]; simp [h16])
      go_enter Try.func16, Try.ntmps16
      go_wp2_with fail
      go_ret
      exact ⟨ret_bool (by rw [e2.out]), rfl⟩
  · have e2 : Hid (Lx.isCap s.data.toList = false) := Lib.hid (by rw [Lx.no_list s h0]; rfl)
    go_enter Try.func16, Try.ntmps16
    go_wp2_with fail
    go_ret
    exact ⟨ret_bool (by rw [e2.out]), rfl⟩

theorem rhasWords (s : ByteArray) (w0 w : World) (h : ∀ (j : Nat) (l : List UInt8), Lx.words[j]? = some l → w.cell? ⟨w0.heap.size, j, none⟩ = some (.string ⟨l.toArray⟩)) :
    Calls Try.prog 39 #[.slice (some ⟨w0.heap.size, 0, none⟩) 21 21, .string s] w fun e w' => e = .returned (.bool (hasL Lx.words s.data.toList)) ∧ w = w' :=
  rhas Lx.words s w0.heap.size 21 21 w rfl (by decide) h
theorem rhasRuns (s : ByteArray) (w0 w : World) (h : ∀ (j : Nat) (l : List UInt8), Lx.runSigns[j]? = some l → w.cell? ⟨w0.heap.size, j, none⟩ = some (.string ⟨l.toArray⟩)) :
    Calls Try.prog 39 #[.slice (some ⟨w0.heap.size, 0, none⟩) 11 11, .string s] w fun e w' => e = .returned (.bool (hasL Lx.runSigns s.data.toList)) ∧ w = w' :=
  rhas Lx.runSigns s w0.heap.size 11 11 w rfl (by decide) h
theorem rhasBytes (s : ByteArray) (w0 w : World) (h : ∀ (j : Nat) (l : List UInt8), Lx.byteSigns[j]? = some l → w.cell? ⟨w0.heap.size, j, none⟩ = some (.string ⟨l.toArray⟩)) :
    Calls Try.prog 39 #[.slice (some ⟨w0.heap.size, 0, none⟩) 8 8, .string s] w fun e w' => e = .returned (.bool (hasL Lx.byteSigns s.data.toList)) ∧ w = w' :=
  rhas Lx.byteSigns s w0.heap.size 8 8 w rfl (by decide) h

set_option maxHeartbeats 1000000 in
theorem rIsSmall (s : ByteArray) (w : World) (hs : s.size ≤ maxLen) :
    Calls Try.prog 14 #[.string s] w fun e w' => e = .returned (.bool (smallL s.data.toList)) ∧ Below w.heap.size w w' := by
  have hs' := hs
  unfold maxLen at hs
  by_cases h0 : 0 < s.size
  · have e := Lib.hid (small_eq s h0)
    by_cases h16 : s.size ≤ 16
    · cases hu : Lx.loB (s[0]'h0) with
      | true =>
        have hc : ∀ w, Calls Try.prog 37 #[.int .u8 (s[0]'h0).toNat] w fun e w' => e = .returned (.bool true) ∧ w = w' := fun w => hu ▸ rsmall _ w
        have HC := Lib.hid hc
        cases ha : allB Lx.nmB s.data.toList with
        | true =>
          have hca : ∀ w, Calls Try.prog 38 #[.string s, .bool false] w fun e w' => e = .returned (.bool true) ∧ w = w' := fun w => (rallN s w hs').mono fun e w' ⟨h1, h2⟩ => ⟨by rw [h1, ha], h2⟩
          have HCA := Lib.hid hca
          have e2 : Hid (smallL s.data.toList = !hasL Lx.words s.data.toList) := Lib.hid (by rw [e.out, hu, ha]; simp [h16])
          clear hc hu ha hca
          go_enter Try.func14, Try.ntmps14
          go_wp2_with fail
          refine (HC.out _).mono ?_
          rintro e w' ⟨rfl, rfl⟩
          go_wp2_with fail
          refine (HCA.out _).mono ?_
          rintro e w' ⟨rfl, rfl⟩
          go_wp2_with fail
          refine (rwords _).mono ?_
          rintro e w1 ⟨rfl, hcells, hb⟩
          have HCE := Lib.hid hcells
          clear hcells
          go_wp2_with fail
          refine (rhasWords _ _ _ HCE.out).mono ?_
          rintro e w' ⟨rfl, rfl⟩
          go_wp2_with fail
          go_ret
          exact ⟨ret_bool (by rw [e2.out]), hb⟩
        | false =>
          have hca : ∀ w, Calls Try.prog 38 #[.string s, .bool false] w fun e w' => e = .returned (.bool false) ∧ w = w' := fun w => (rallN s w hs').mono fun e w' ⟨h1, h2⟩ => ⟨by rw [h1, ha], h2⟩
          have HCA := Lib.hid hca
          have e2 : Hid (smallL s.data.toList = false) := Lib.hid (by rw [e.out, hu, ha]; simp)
          clear hc hu ha hca
          go_enter Try.func14, Try.ntmps14
          go_wp2_with (first | (go_at_call 37; refine (HC.out _).mono ?_; rintro e w' ⟨rfl, rfl⟩) | (go_at_call 38; refine (HCA.out _).mono ?_; rintro e w' ⟨rfl, rfl⟩))
          go_ret
          exact ⟨ret_bool (by rw [e2.out]), Below.refl _ _⟩
      | false =>
        have hc : ∀ w, Calls Try.prog 37 #[.int .u8 (s[0]'h0).toNat] w fun e w' => e = .returned (.bool false) ∧ w = w' := fun w => hu ▸ rsmall _ w
        have HC := Lib.hid hc
        have e2 : Hid (smallL s.data.toList = false) := Lib.hid (by rw [e.out, hu]; simp)
        clear hc hu
        go_enter Try.func14, Try.ntmps14
        go_wp2_with (go_at_call 37; refine (HC.out _).mono ?_; rintro e w' ⟨rfl, rfl⟩)
        go_ret
        exact ⟨ret_bool (by rw [e2.out]), Below.refl _ _⟩
    · have e2 : Hid (smallL s.data.toList = false) := Lib.hid (by rw [e.out]; simp [h16])
      go_enter Try.func14, Try.ntmps14
      go_wp2_with fail
      go_ret
      exact ⟨ret_bool (by rw [e2.out]), Below.refl _ _⟩
  · have e2 : Hid (smallL s.data.toList = false) := Lib.hid (by rw [Lx.no_list s h0]; rfl)
    go_enter Try.func14, Try.ntmps14
    go_wp2_with fail
    go_ret
    exact ⟨ret_bool (by rw [e2.out]), Below.refl _ _⟩


/-- an operator, as the reference has it -/
theorem op_eq (s : ByteArray) : Lx.isOpL s.data.toList = (decide (0 < s.size) && decide (s.size ≤ 16) && allB Lx.opB s.data.toList && !hasL Lx.runSigns s.data.toList && !Lx.isPre s.data.toList) := by
  unfold Lx.isOpL
  rw [all_op, Lx.size_list]
  have hd : Lx.isSg s.data.toList = (hasL Lx.runSigns s.data.toList || hasL Lx.byteSigns s.data.toList) := rfl
  have hb : decide (Lx.st 8 s.data.toList = s.size) = true → hasL Lx.byteSigns s.data.toList = false := by
    intro h
    rw [← all_op] at h
    rw [Bool.eq_false_iff]
    intro h2
    have hm : s.data.toList ∈ Lx.byteSigns := by rw [← List.contains_iff_mem]; exact h2
    have : ∀ l ∈ Lx.byteSigns, allB Lx.opB l = false := by decide
    rw [this _ hm] at h
    cases h
  rw [hd]
  revert hb
  generalize decide (Lx.st 8 s.data.toList = s.size) = a
  generalize hasL Lx.byteSigns s.data.toList = b
  generalize hasL Lx.runSigns s.data.toList = c
  generalize Lx.isPre s.data.toList = d
  generalize decide (0 < s.size) = x
  generalize decide (s.size ≤ 16) = y
  cases a <;> cases b <;> cases c <;> cases d <;> cases x <;> cases y <;> simp

set_option maxHeartbeats 1000000 in
theorem rIsOp (s : ByteArray) (w : World) (hs : s.size ≤ maxLen) :
    Calls Try.prog 18 #[.string s] w fun e w' => e = .returned (.bool (Lx.isOpL s.data.toList)) ∧ Below w.heap.size w w' := by
  have hs' := hs
  unfold maxLen at hs
  have e := Lib.hid (op_eq s)
  by_cases h : 0 < s.size ∧ s.size ≤ 16
  · obtain ⟨h0, h16⟩ := h
    cases ha : allB Lx.opB s.data.toList with
    | true =>
      have hca : ∀ w, Calls Try.prog 38 #[.string s, .bool true] w fun e w' => e = .returned (.bool true) ∧ Below w.heap.size w w' := fun w => (rallO s w hs').mono fun e w' ⟨h1, h2⟩ => ⟨by rw [h1, ha], h2⟩
      have HCA := Lib.hid hca
      cases hr : hasL Lx.runSigns s.data.toList with
      | true =>
        have e2 : Hid (Lx.isOpL s.data.toList = false) := Lib.hid (by rw [e.out, hr]; simp)
        have HR := Lib.hid hr
        clear ha hca hr
        go_enter Try.func18, Try.ntmps18
        go_wp2_with fail
        refine (HCA.out _).mono ?_
        rintro e w1 ⟨rfl, hb1⟩
        go_wp2_with fail
        refine (rruns _).mono ?_
        rintro e w2 ⟨rfl, hcells, hb2⟩
        have HCE := Lib.hid hcells
        clear hcells
        go_wp2_with fail
        refine ((rhasRuns s _ _ HCE.out).mono fun e w' ⟨h1, h2⟩ => (⟨by rw [h1, HR.out], h2⟩ : e = _ ∧ _)).mono ?_
        rintro e w' ⟨rfl, rfl⟩
        go_wp2_with fail
        go_ret
        exact ⟨ret_bool (by rw [e2.out]), hb1.trans (hb2.mono hb1.size)⟩
      | false =>
        have e2 : Hid (Lx.isOpL s.data.toList = !Lx.isPre s.data.toList) := Lib.hid (by rw [e.out, hr, ha]; simp [h0, h16])
        have HR := Lib.hid hr
        clear ha hca hr
        go_enter Try.func18, Try.ntmps18
        go_wp2_with fail
        refine (HCA.out _).mono ?_
        rintro e w1 ⟨rfl, hb1⟩
        go_wp2_with fail
        refine (rruns _).mono ?_
        rintro e w2 ⟨rfl, hcells, hb2⟩
        have HCE := Lib.hid hcells
        clear hcells
        go_wp2_with fail
        refine ((rhasRuns s _ _ HCE.out).mono fun e w' ⟨h1, h2⟩ => (⟨by rw [h1, HR.out], h2⟩ : e = _ ∧ _)).mono ?_
        rintro e w' ⟨rfl, rfl⟩
        go_wp2_with fail
        refine (rcomment _ _ hs').mono ?_
        rintro e w' ⟨rfl, rfl⟩
        go_wp2_with fail
        go_ret
        exact ⟨ret_bool (by rw [e2.out]), hb1.trans (hb2.mono hb1.size)⟩
    | false =>
      have hca : ∀ w, Calls Try.prog 38 #[.string s, .bool true] w fun e w' => e = .returned (.bool false) ∧ Below w.heap.size w w' := fun w => (rallO s w hs').mono fun e w' ⟨h1, h2⟩ => ⟨by rw [h1, ha], h2⟩
      have HCA := Lib.hid hca
      have e2 : Hid (Lx.isOpL s.data.toList = false) := Lib.hid (by rw [e.out, ha]; simp)
      clear ha hca
      go_enter Try.func18, Try.ntmps18
      go_wp2_with fail
      refine (HCA.out _).mono ?_
      rintro e w1 ⟨rfl, hb1⟩
      go_wp2_with fail
      go_ret
      exact ⟨ret_bool (by rw [e2.out]), hb1⟩
  · have e2 : Hid (Lx.isOpL s.data.toList = false) := Lib.hid (by rw [e.out]; by_cases h0 : 0 < s.size <;> simp [h0]; intro h16; exact absurd ⟨h0, h16⟩ h)
    go_enter Try.func18, Try.ntmps18
    go_wp2_with fail
    all_goals (go_ret; exact ⟨ret_bool (by rw [e2.out]), Below.refl _ _⟩)

set_option maxHeartbeats 1000000 in
theorem isWord_any (s : ByteArray) (w : World) (hs : s.size ≤ maxLen) :
    Calls Try.prog 36 #[.string s] w fun e w' => e = .returned (.bool (hasL Lx.words s.data.toList)) ∧ Below w.heap.size w w' := by
  have hs' := hs
  unfold maxLen at hs
  by_cases h : 1 < s.size
  · go_enter Try.func36, Try.ntmps36
    go_wp2_with fail
    refine (wordSet_any _).mono ?_
    rintro e w1 ⟨rfl, hws⟩
    have hb := hws.2.1
    have hr := lookup_run hws.1 s hs'
    have hr2 : (Instr.lookup 48 (.map (some w.heap.size)) (.string s) false).run Try.prog w1 = .ok (.bool (hasL Lx.words s.data.toList)) w1 := hr
    clear hws hr
    go_wp2_with fail
    go_ret
    exact ⟨rfl, hb⟩
  · have e : Hid (hasL Lx.words s.data.toList = false) := Lib.hid (by
      rw [Bool.eq_false_iff]
      intro h2
      have hm : s.data.toList ∈ Lx.words := by rw [← List.contains_iff_mem]; exact h2
      have h3 : ∀ l ∈ Lx.words, 1 < l.length := by decide
      have h4 := h3 _ hm
      rw [Lx.size_list] at h4
      exact h h4)
    go_enter Try.func36, Try.ntmps36
    go_wp2_with fail
    go_ret
    exact ⟨ret_bool (by rw [e.out]), Below.refl _ _⟩

set_option maxHeartbeats 1000000 in
theorem isSmall_any (s : ByteArray) (w : World) (hs : s.size ≤ maxLen) :
    Calls Try.prog 13 #[.string s] w fun e w' => e = .returned (.bool (smallL s.data.toList)) ∧ Below w.heap.size w w' := by
  have hs' := hs
  unfold maxLen at hs
  by_cases h0 : 0 < s.size
  · have e : Hid (smallL s.data.toList = (Lx.isNm s.data.toList && !Lx.upB (s[0]'h0) && !hasL Lx.words s.data.toList)) := Lib.hid (by
      unfold smallL
      rw [Lx.isCap_cons s h0]
      cases Lx.isNm s.data.toList <;> cases Lx.upB (s[0]'h0) <;> rfl)
    cases hn : Lx.isNm s.data.toList with
    | true =>
      have hc : ∀ w, Calls Try.prog 34 #[.string s] w fun e w' => e = .returned (.bool true) ∧ w = w' := fun w => hn ▸ isName_any s w hs'
      have HC := Lib.hid hc
      cases hu : Lx.upB (s[0]'h0) with
      | true =>
        have hc2 : ∀ w, Calls Try.prog 35 #[.int .u8 (s[0]'h0).toNat] w fun e w' => e = .returned (.bool true) ∧ w = w' := fun w => hu ▸ isUpper_any _ w
        have HC2 := Lib.hid hc2
        have e2 : Hid (smallL s.data.toList = false) := Lib.hid (by rw [e.out, hu, hn]; rfl)
        clear hc hc2 hn hu
        go_enter Try.func13, Try.ntmps13
        go_wp2_with fail
        refine (HC.out _).mono ?_
        rintro e w' ⟨rfl, rfl⟩
        go_wp2_with fail
        refine (HC2.out _).mono ?_
        rintro e w' ⟨rfl, rfl⟩
        go_wp2_with fail
        go_ret
        exact ⟨ret_bool (by rw [e2.out]), Below.refl _ _⟩
      | false =>
        have hc2 : ∀ w, Calls Try.prog 35 #[.int .u8 (s[0]'h0).toNat] w fun e w' => e = .returned (.bool false) ∧ w = w' := fun w => hu ▸ isUpper_any _ w
        have HC2 := Lib.hid hc2
        have e2 : Hid (smallL s.data.toList = !hasL Lx.words s.data.toList) := Lib.hid (by rw [e.out, hu, hn]; rfl)
        clear hc hc2 hn hu
        go_enter Try.func13, Try.ntmps13
        go_wp2_with fail
        refine (HC.out _).mono ?_
        rintro e w' ⟨rfl, rfl⟩
        go_wp2_with fail
        refine (HC2.out _).mono ?_
        rintro e w' ⟨rfl, rfl⟩
        go_wp2_with fail
        refine (isWord_any _ _ hs').mono ?_
        rintro e w1 ⟨rfl, hb1⟩
        go_wp2_with fail
        go_ret
        exact ⟨ret_bool (by rw [e2.out]), hb1⟩
    | false =>
      have hc : ∀ w, Calls Try.prog 34 #[.string s] w fun e w' => e = .returned (.bool false) ∧ w = w' := fun w => hn ▸ isName_any s w hs'
      have HC := Lib.hid hc
      have e2 : Hid (smallL s.data.toList = false) := Lib.hid (by rw [e.out, hn]; rfl)
      clear hc hn
      go_enter Try.func13, Try.ntmps13
      go_wp2_with fail
      refine (HC.out _).mono ?_
      rintro e w' ⟨rfl, rfl⟩
      go_wp2_with fail
      go_ret
      exact ⟨ret_bool (by rw [e2.out]), Below.refl _ _⟩
  · have hn : Lx.isNm s.data.toList = false := by rw [Lx.no_list s h0]; rfl
    have e2 : Hid (smallL s.data.toList = false) := Lib.hid (by rw [Lx.no_list s h0]; rfl)
    have hc : ∀ w, Calls Try.prog 34 #[.string s] w fun e w' => e = .returned (.bool false) ∧ w = w' := fun w => hn ▸ isName_any s w hs'
    have HC := Lib.hid hc
    clear hc hn
    go_enter Try.func13, Try.ntmps13
    go_wp2_with fail
    refine (HC.out _).mono ?_
    rintro e w' ⟨rfl, rfl⟩
    go_wp2_with fail
    go_ret
    exact ⟨ret_bool (by rw [e2.out]), Below.refl _ _⟩

end Go.Proofs.Ytcedigkknjioeaa
