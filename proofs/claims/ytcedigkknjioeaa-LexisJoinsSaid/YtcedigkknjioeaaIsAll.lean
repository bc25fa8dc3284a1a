/- What the reference's Is returns for any token; it is what isToken returns. Conditions: the text is no longer than a string can be. -/
import Derived.Test.YtcedigkknjioeaaRefL
import Derived.Test.YtcedigkknjioeaaIsTok
import Derived.Test.YtcedigkknjioeaaOneK
namespace Go.Proofs.Ytcedigkknjioeaa
open Go.RowKit Go.WideMaps Go.Maps

set_option maxHeartbeats 2000000 in
theorem risE7 (s : ByteArray) (p : Int) (w : World) :
    Calls Try.prog 51 #[.agg #[.int .i64 7, .string s, .int .i64 p]] w fun e w' => e = .returned (.bool s.data.toList.isEmpty) ∧ Below w.heap.size w w' := by
  have hq := Lib.hid (toList_nil s)
  go_enter Try.func51, Try.ntmps51
  go_wp2_with fail
  go_ret
  exact ⟨ret_bool (by first | exact hq.out | (rw [← hq.out]; simp)), (Below.refl _ _).alloc (Nat.le_refl _) _⟩

set_option maxHeartbeats 2000000 in
theorem risE (k : Int) (s : ByteArray) (p : Int) (w : World) (h1 : (k == 1) = false) (h2 : (k == 2) = false) (h3 : (k == 3) = false) (h4 : (k == 4) = false) (h5 : (k == 5) = false) (h6 : (k == 6) = false) (h7 : (k == 7) = false) :
    Calls Try.prog 51 #[.agg #[.int .i64 k, .string s, .int .i64 p]] w fun e w' => e = .returned (.bool false) ∧ Below w.heap.size w w' := by
  go_enter Try.func51, Try.ntmps51
  go_wp2_with fail
  go_ret
  exact ⟨rfl, (Below.refl _ _).alloc (Nat.le_refl _) _⟩

namespace Lx
theorem isNm_head {b : UInt8} {y : List UInt8} (h : isNm (b :: y) = true) : leB b = true := by
  simp only [isNm, Bool.and_eq_true] at h
  exact h.1.2
theorem le_nodg (b : UInt8) (h : leB b = true) : dgB b = false ∧ opB b = false := by
  have := hasT_all (fun b => !leB b || (!dgB b && !opB b)) (by decide +kernel) b
  simpa [h] using this
theorem dg_noop (b : UInt8) (h : dgB b = true) : opB b = false ∧ leB b = false ∧ b ≠ 95 ∧ b ≠ 39 ∧ nmB b = true := by
  have := hasT_all (fun b => !dgB b || (!opB b && !leB b && !decide (b = 95) && !decide (b = 39) && nmB b)) (by decide +kernel) b
  simp [h] at this
  simp [this]
theorem sg_head {x : List UInt8} (h : isSg x = true) : ∃ b y, x = b :: y ∧ leB b = false ∧ dgB b = false := by
  have hop : ∀ b, opB b = true → leB b = false ∧ dgB b = false := fun b hb => ⟨(op_no b hb).2.1, (op_no b hb).2.2.1⟩
  simp only [isSg, Bool.or_eq_true] at h
  rcases h with h | h
  · obtain ⟨b, y, e, hb⟩ := run_head x h
    exact ⟨b, y, e, hop b hb⟩
  · have h3 : ∀ x ∈ byteSigns, ∃ b y, x = b :: y ∧ leB b = false ∧ dgB b = false := by
      intro x hx
      simp only [byteSigns, List.mem_cons, List.not_mem_nil, or_false] at hx
      rcases hx with rfl | rfl | rfl | rfl | rfl | rfl | rfl | rfl <;> exact ⟨_, _, rfl, by decide, by decide⟩
    exact h3 x (by simpa using h)
theorem num_head {x : List UInt8} (h : isNum x = true) : ∃ b y, x = b :: y ∧ dgB b = true := by
  simp only [isNum, Bool.and_eq_true] at h
  cases x with
  | nil => simp at h
  | cons b y => exact ⟨b, y, rfl, by have := h.1.1.1.1; simp at this; exact this.1⟩
theorem opL_head {x : List UInt8} (h : isOpL x = true) : ∃ b y, x = b :: y ∧ opB b = true := by
  simp only [isOpL, Bool.and_eq_true, decide_eq_true_eq] at h
  cases x with
  | nil => simp at h
  | cons b y =>
    have := st_all 8 (b :: y)
    rw [decide_eq_true h.1.1.2] at this
    have h2 : (b :: y).all opB = true := this.symm
    simp at h2
    exact ⟨b, y, rfl, h2.1⟩
theorem opL_nosg {x : List UInt8} (h : isOpL x = true) : isSg x = false := by
  simp only [isOpL, Bool.and_eq_true, Bool.not_eq_true'] at h
  exact h.2

/-- the kind, found by each test alone -/
theorem kind_1 (x : List UInt8) : decide ((1 : Int) = kind x) = smallL x := by
  unfold kind smallL hasL
  cases hw : words.contains x
  · cases hc : isCap x
    · cases hn : isNm x
      · simp
        repeat' split
        all_goals decide
      · simp
    · simp
  · simp
theorem kind_2 (x : List UInt8) : decide ((2 : Int) = kind x) = isCap x := by
  unfold kind
  cases hc : isCap x
  · simp
    repeat' split
    all_goals decide
  · cases hw : words.contains x
    · simp
    · rw [word_cap x hw] at hc; cases hc
theorem kind_6 (x : List UInt8) : decide ((6 : Int) = kind x) = hasL words x := by
  unfold kind hasL
  cases hw : words.contains x
  · simp
    repeat' split
    all_goals decide
  · simp
theorem kind_4 (x : List UInt8) : decide ((4 : Int) = kind x) = isNum x := by
  cases hm : isNum x
  · unfold kind
    simp [hm]
    repeat' split
    all_goals decide
  · obtain ⟨b, y, rfl, hb⟩ := num_head hm
    obtain ⟨_, hl, _⟩ := dg_noop b hb
    unfold kind
    rw [no_word hl, no_cap hl, no_nm hl, hm]
    simp
theorem kind_5 (x : List UInt8) : decide ((5 : Int) = kind x) = isSg x := by
  cases hm : isSg x
  · unfold kind
    simp [hm]
    repeat' split
    all_goals decide
  · obtain ⟨b, y, rfl, hl, hd⟩ := sg_head hm
    unfold kind
    rw [no_word hl, no_cap hl, no_nm hl, no_num hd, hm]
    simp
theorem kind_3 (x : List UInt8) : decide ((3 : Int) = kind x) = isOpL x := by
  cases hm : isOpL x
  · unfold kind
    simp [hm]
    repeat' split
    all_goals decide
  · have hs := opL_nosg hm
    obtain ⟨b, y, rfl, hb⟩ := opL_head hm
    obtain ⟨_, hl, hd, _⟩ := op_no b hb
    unfold kind
    rw [no_word hl, no_cap hl, no_nm hl, no_num hd, hs, hm]
    simp
theorem kind_le2 (x : List UInt8) : kind x ≤ 6 ∧ 0 ≤ kind x := by
  unfold kind
  repeat' split
  all_goals decide
end Lx

theorem risAll (k : Int) (q : ByteArray) (p : Int) (w : World) (hs : q.size ≤ maxLen) (v : Bool) (hv : okT k q.data.toList = v) :
    Calls Try.prog 51 #[.agg #[.int .i64 k, .string q, .int .i64 p]] w fun e w' => e = .returned (.bool v) ∧ Below w.heap.size w w' := by
  subst hv
  have hne : ∀ m : Int, m ≠ 7 → m ≠ 0 → okT m q.data.toList = decide (m = Lx.kind q.data.toList) := fun m h7 h0 => by
    unfold okT
    rw [if_neg h7, decide_eq_true h0]
    rfl
  by_cases h1 : k = 1
  · subst h1
    rw [hne 1 (by decide) (by decide), Lx.kind_1]
    exact ris1 q p w hs
  by_cases h2 : k = 2
  · subst h2
    rw [hne 2 (by decide) (by decide), Lx.kind_2]
    exact ris2 q p w hs
  by_cases h3 : k = 3
  · subst h3
    rw [hne 3 (by decide) (by decide), Lx.kind_3]
    exact ris3 q p w hs
  by_cases h4 : k = 4
  · subst h4
    rw [hne 4 (by decide) (by decide), Lx.kind_4]
    exact ris4 q p w hs
  by_cases h5 : k = 5
  · subst h5
    rw [hne 5 (by decide) (by decide), Lx.kind_5]
    cases hr : hasL Lx.runSigns q.data.toList with
    | true =>
      have e : Lx.isSg q.data.toList = true := by unfold Lx.isSg; unfold hasL at hr; rw [hr]; rfl
      rw [e]
      exact ris5a q p w hr
    | false =>
      have e : Lx.isSg q.data.toList = hasL Lx.byteSigns q.data.toList := by unfold Lx.isSg hasL; unfold hasL at hr; rw [hr]; rfl
      rw [e]
      exact ris5b q p w hr
  by_cases h6 : k = 6
  · subst h6
    rw [hne 6 (by decide) (by decide), Lx.kind_6]
    exact ris6 q p w
  by_cases h7 : k = 7
  · subst h7
    exact risE7 q p w
  · have e : okT k q.data.toList = false := by
      unfold okT
      rw [if_neg h7]
      have hk := Lx.kind_le2 q.data.toList
      by_cases h0 : k = 0
      · rw [h0]; rfl
      · rw [decide_eq_false (by omega : ¬ k = Lx.kind q.data.toList)]
        simp
    rw [e]
    exact risE k q p w (by simpa using h1) (by simpa using h2) (by simpa using h3) (by simpa using h4) (by simpa using h5) (by simpa using h6) (by simpa using h7)

end Go.Proofs.Ytcedigkknjioeaa
