/- What the program's IsNumber and hasForm return for any type that lies at a place. Conditions: the type lies in memory. -/
import Derived.Test.YtfjgebdpbmnicaaJ02
namespace Go.Proofs.Ytfjgebdpbmnicaa
open Go.RowKit

namespace Ty
def numB (n : Int) : Bool := decide (0 ≤ n) && decide (n ≤ 9999)

set_option maxHeartbeats 1000000 in
theorem pnumber (n : Int) (v : Bool) (hv : numB n = v) (w : World) : Calls Try.prog 62 #[.int .i64 n] w fun e w' => e = .returned (.bool v) ∧ w = w' := by
  subst hv
  unfold numB
  cases h1 : decide (0 ≤ n) with
  | false =>
    go_enter Try.func62, Try.ntmps62
    go_wp2_with fail
    go_ret
    exact ⟨rfl, rfl⟩
  | true =>
    go_enter Try.func62, Try.ntmps62
    go_wp2_with fail
    go_ret
    exact ⟨rfl, rfl⟩

/-- whether a type's own fields are those of a proper one -/
def formB (op n : Int) (s : List UInt8) (la : Nat) : Bool := match headK op n s with
  | none => false
  | some k => decide (la = k)
theorem formB_a {op n : Int} {s : List UInt8} {la : Nat} (h : op = 1 ∨ op = 6 ∨ op = 7) : formB op n s la = (numB n && (decide (s = []) && decide (la = 0))) := by
  unfold formB headK numB
  rw [if_pos h]
  by_cases h1 : 0 ≤ n <;> by_cases h2 : n ≤ 9999 <;> by_cases h3 : s = [] <;> simp [h1, h2, h3]
theorem formB_b {n : Int} {s : List UInt8} {la : Nat} : formB 2 n s la = (decide (n = 0) && (decide (s ≠ []) && (decide (s.length ≤ 40) && decide (la = 0)))) := by
  unfold formB headK
  by_cases h1 : n = 0 <;> by_cases h2 : s = [] <;> by_cases h3 : s.length ≤ 40 <;> simp [h1, h2, h3]
theorem formB_c {op n : Int} {s : List UInt8} {la : Nat} (h : op = 3 ∨ op = 4 ∨ op = 5) : formB op n s la = (decide (n = 0) && (decide (s = []) && decide (la = 2))) := by
  unfold formB headK
  rw [if_neg (by omega), if_neg (by omega), if_pos h]
  by_cases h1 : n = 0 <;> by_cases h2 : s = [] <;> simp [h1, h2]
theorem formB_d {op n : Int} {s : List UInt8} {la : Nat} (h : op ≠ 1 ∧ op ≠ 2 ∧ op ≠ 3 ∧ op ≠ 4 ∧ op ≠ 5 ∧ op ≠ 6 ∧ op ≠ 7) : formB op n s la = false := by
  unfold formB headK
  rw [if_neg (by omega), if_neg (by omega), if_neg (by omega)]
theorem name_nil (t : Ty) : (t.name.toList == []) = decide (t.s = []) := by
  rw [Lib.toList_data]
  unfold name
  cases t.s <;> rfl

set_option maxHeartbeats 8000000 in
theorem form_1 (t : Ty) (hk : t.op = 1) (b o : Nat) (w : World) (h : At w b o t) : Calls Try.prog 86 #[.pointer (some ⟨b, o, none⟩)] w fun e w' => e = .returned (.bool (formB t.op t.n t.s t.args.length)) ∧ w = w' := by
  obtain ⟨base, cap, c0, c1, c2, c3, _⟩ := at_v h
  have hnil := name_nil t
  have hla : t.args.length ≤ 9223372036854775807 := by obtain ⟨_, _, _, _, _, _, _, h9⟩ := at_iff.mp h; have := h9.1; unfold maxLen at this; omega
  have hnsz : t.name.size = t.s.length := rfl
  clear h
  rw [hk] at c0 ⊢
  have HF : Hid _ := Lib.hid (formB_a (op := 1) (n := t.n) (s := t.s) (la := t.args.length) (by decide))
  generalize t.args.length = la at *
  generalize t.n = nn at *
  generalize t.name = na at *
  generalize t.s = ss at *
  clear hk
  cases hn : numB nn with
  | false =>
    have HR : Hid (formB 1 nn ss la = false) := Lib.hid (by rw [HF.out]; simp [*])
    have HN := Lib.hid hn
    clear hn
    go_enter Try.func86, Try.ntmps86
    go_wp2_with (go_at_call 62; refine (pnumber _ _ HN.out _).mono ?_; rintro e w2 ⟨rfl, rfl⟩)
    go_ret
    exact ⟨ret_bool (by rw [HR.out]), rfl⟩
  | true =>
    by_cases hs : ss = []
    · have q1 : (na.toList == []) = true := by rw [hnil]; simpa using hs
      by_cases hl : la = 0
      · have q2 : ((la : Int) == 0) = true := by simp; omega
        have HR : Hid (formB 1 nn ss la = true) := Lib.hid (by rw [HF.out]; simp [*])
        have HN := Lib.hid hn
        clear hn
        go_enter Try.func86, Try.ntmps86
        go_wp2_with (go_at_call 62; refine (pnumber _ _ HN.out _).mono ?_; rintro e w2 ⟨rfl, rfl⟩)
        go_ret
        exact ⟨ret_bool (by rw [HR.out]), rfl⟩
      · have q2 : ((la : Int) == 0) = false := by simp; omega
        have HR : Hid (formB 1 nn ss la = false) := Lib.hid (by rw [HF.out]; simp [*])
        have HN := Lib.hid hn
        clear hn
        go_enter Try.func86, Try.ntmps86
        go_wp2_with (go_at_call 62; refine (pnumber _ _ HN.out _).mono ?_; rintro e w2 ⟨rfl, rfl⟩)
        go_ret
        exact ⟨ret_bool (by rw [HR.out]), rfl⟩
    · have q1 : (na.toList == []) = false := by rw [hnil]; simpa using hs
      have HR : Hid (formB 1 nn ss la = false) := Lib.hid (by rw [HF.out]; simp [*])
      have HN := Lib.hid hn
      clear hn
      go_enter Try.func86, Try.ntmps86
      go_wp2_with (go_at_call 62; refine (pnumber _ _ HN.out _).mono ?_; rintro e w2 ⟨rfl, rfl⟩)
      go_ret
      exact ⟨ret_bool (by rw [HR.out]), rfl⟩

set_option maxHeartbeats 8000000 in
theorem form_6 (t : Ty) (hk : t.op = 6) (b o : Nat) (w : World) (h : At w b o t) : Calls Try.prog 86 #[.pointer (some ⟨b, o, none⟩)] w fun e w' => e = .returned (.bool (formB t.op t.n t.s t.args.length)) ∧ w = w' := by
  obtain ⟨base, cap, c0, c1, c2, c3, _⟩ := at_v h
  have hnil := name_nil t
  have hla : t.args.length ≤ 9223372036854775807 := by obtain ⟨_, _, _, _, _, _, _, h9⟩ := at_iff.mp h; have := h9.1; unfold maxLen at this; omega
  have hnsz : t.name.size = t.s.length := rfl
  clear h
  rw [hk] at c0 ⊢
  have HF : Hid _ := Lib.hid (formB_a (op := 6) (n := t.n) (s := t.s) (la := t.args.length) (by decide))
  generalize t.args.length = la at *
  generalize t.n = nn at *
  generalize t.name = na at *
  generalize t.s = ss at *
  clear hk
  cases hn : numB nn with
  | false =>
    have HR : Hid (formB 6 nn ss la = false) := Lib.hid (by rw [HF.out]; simp [*])
    have HN := Lib.hid hn
    clear hn
    go_enter Try.func86, Try.ntmps86
    go_wp2_with (go_at_call 62; refine (pnumber _ _ HN.out _).mono ?_; rintro e w2 ⟨rfl, rfl⟩)
    go_ret
    exact ⟨ret_bool (by rw [HR.out]), rfl⟩
  | true =>
    by_cases hs : ss = []
    · have q1 : (na.toList == []) = true := by rw [hnil]; simpa using hs
      by_cases hl : la = 0
      · have q2 : ((la : Int) == 0) = true := by simp; omega
        have HR : Hid (formB 6 nn ss la = true) := Lib.hid (by rw [HF.out]; simp [*])
        have HN := Lib.hid hn
        clear hn
        go_enter Try.func86, Try.ntmps86
        go_wp2_with (go_at_call 62; refine (pnumber _ _ HN.out _).mono ?_; rintro e w2 ⟨rfl, rfl⟩)
        go_ret
        exact ⟨ret_bool (by rw [HR.out]), rfl⟩
      · have q2 : ((la : Int) == 0) = false := by simp; omega
        have HR : Hid (formB 6 nn ss la = false) := Lib.hid (by rw [HF.out]; simp [*])
        have HN := Lib.hid hn
        clear hn
        go_enter Try.func86, Try.ntmps86
        go_wp2_with (go_at_call 62; refine (pnumber _ _ HN.out _).mono ?_; rintro e w2 ⟨rfl, rfl⟩)
        go_ret
        exact ⟨ret_bool (by rw [HR.out]), rfl⟩
    · have q1 : (na.toList == []) = false := by rw [hnil]; simpa using hs
      have HR : Hid (formB 6 nn ss la = false) := Lib.hid (by rw [HF.out]; simp [*])
      have HN := Lib.hid hn
      clear hn
      go_enter Try.func86, Try.ntmps86
      go_wp2_with (go_at_call 62; refine (pnumber _ _ HN.out _).mono ?_; rintro e w2 ⟨rfl, rfl⟩)
      go_ret
      exact ⟨ret_bool (by rw [HR.out]), rfl⟩

set_option maxHeartbeats 8000000 in
theorem form_7 (t : Ty) (hk : t.op = 7) (b o : Nat) (w : World) (h : At w b o t) : Calls Try.prog 86 #[.pointer (some ⟨b, o, none⟩)] w fun e w' => e = .returned (.bool (formB t.op t.n t.s t.args.length)) ∧ w = w' := by
  obtain ⟨base, cap, c0, c1, c2, c3, _⟩ := at_v h
  have hnil := name_nil t
  have hla : t.args.length ≤ 9223372036854775807 := by obtain ⟨_, _, _, _, _, _, _, h9⟩ := at_iff.mp h; have := h9.1; unfold maxLen at this; omega
  have hnsz : t.name.size = t.s.length := rfl
  clear h
  rw [hk] at c0 ⊢
  have HF : Hid _ := Lib.hid (formB_a (op := 7) (n := t.n) (s := t.s) (la := t.args.length) (by decide))
  generalize t.args.length = la at *
  generalize t.n = nn at *
  generalize t.name = na at *
  generalize t.s = ss at *
  clear hk
  cases hn : numB nn with
  | false =>
    have HR : Hid (formB 7 nn ss la = false) := Lib.hid (by rw [HF.out]; simp [*])
    have HN := Lib.hid hn
    clear hn
    go_enter Try.func86, Try.ntmps86
    go_wp2_with (go_at_call 62; refine (pnumber _ _ HN.out _).mono ?_; rintro e w2 ⟨rfl, rfl⟩)
    go_ret
    exact ⟨ret_bool (by rw [HR.out]), rfl⟩
  | true =>
    by_cases hs : ss = []
    · have q1 : (na.toList == []) = true := by rw [hnil]; simpa using hs
      by_cases hl : la = 0
      · have q2 : ((la : Int) == 0) = true := by simp; omega
        have HR : Hid (formB 7 nn ss la = true) := Lib.hid (by rw [HF.out]; simp [*])
        have HN := Lib.hid hn
        clear hn
        go_enter Try.func86, Try.ntmps86
        go_wp2_with (go_at_call 62; refine (pnumber _ _ HN.out _).mono ?_; rintro e w2 ⟨rfl, rfl⟩)
        go_ret
        exact ⟨ret_bool (by rw [HR.out]), rfl⟩
      · have q2 : ((la : Int) == 0) = false := by simp; omega
        have HR : Hid (formB 7 nn ss la = false) := Lib.hid (by rw [HF.out]; simp [*])
        have HN := Lib.hid hn
        clear hn
        go_enter Try.func86, Try.ntmps86
        go_wp2_with (go_at_call 62; refine (pnumber _ _ HN.out _).mono ?_; rintro e w2 ⟨rfl, rfl⟩)
        go_ret
        exact ⟨ret_bool (by rw [HR.out]), rfl⟩
    · have q1 : (na.toList == []) = false := by rw [hnil]; simpa using hs
      have HR : Hid (formB 7 nn ss la = false) := Lib.hid (by rw [HF.out]; simp [*])
      have HN := Lib.hid hn
      clear hn
      go_enter Try.func86, Try.ntmps86
      go_wp2_with (go_at_call 62; refine (pnumber _ _ HN.out _).mono ?_; rintro e w2 ⟨rfl, rfl⟩)
      go_ret
      exact ⟨ret_bool (by rw [HR.out]), rfl⟩

set_option maxHeartbeats 8000000 in
theorem form_2 (t : Ty) (hk : t.op = 2) (b o : Nat) (w : World) (h : At w b o t) : Calls Try.prog 86 #[.pointer (some ⟨b, o, none⟩)] w fun e w' => e = .returned (.bool (formB t.op t.n t.s t.args.length)) ∧ w = w' := by
  obtain ⟨base, cap, c0, c1, c2, c3, _⟩ := at_v h
  have hnil := name_nil t
  have hla : t.args.length ≤ 9223372036854775807 := by obtain ⟨_, _, _, _, _, _, _, h9⟩ := at_iff.mp h; have := h9.1; unfold maxLen at this; omega
  have hnsz : t.name.size = t.s.length := rfl
  clear h
  rw [hk] at c0 ⊢
  have HF : Hid _ := Lib.hid (formB_b (n := t.n) (s := t.s) (la := t.args.length))
  generalize t.args.length = la at *
  generalize t.n = nn at *
  generalize t.name = na at *
  generalize t.s = ss at *
  clear hk
  by_cases hn : nn = 0
  · have q0 : (nn == 0) = true := by simpa using hn
    by_cases hs : ss = []
    · have q1 : (na.toList != []) = false := by simp only [bne, hnil]; simpa using hs
      have HR : Hid (formB 2 nn ss la = false) := Lib.hid (by rw [HF.out]; simp [*])
      go_enter Try.func86, Try.ntmps86
      go_wp2_with fail
      go_ret
      exact ⟨ret_bool (by first | (rw [HR.out]) | (have h9 := HR.out; rw [hn] at h9; exact h9.symm)), rfl⟩
    · have q1 : (na.toList != []) = true := by simp only [bne, hnil]; simpa using hs
      by_cases h40 : ss.length ≤ 40
      · have q3 : decide ((na.size : Int) ≤ 40) = true := decide_eq_true (by omega)
        by_cases hl : la = 0
        · have q2 : ((la : Int) == 0) = true := by simp; omega
          have HR : Hid (formB 2 nn ss la = true) := Lib.hid (by rw [HF.out]; simp [*])
          go_enter Try.func86, Try.ntmps86
          go_wp2_with fail
          go_ret
          exact ⟨ret_bool (by first | (rw [HR.out]) | (have h9 := HR.out; rw [hn] at h9; exact h9.symm)), rfl⟩
        · have q2 : ((la : Int) == 0) = false := by simp; omega
          have HR : Hid (formB 2 nn ss la = false) := Lib.hid (by rw [HF.out]; simp [*])
          go_enter Try.func86, Try.ntmps86
          go_wp2_with fail
          go_ret
          exact ⟨ret_bool (by first | (rw [HR.out]) | (have h9 := HR.out; rw [hn] at h9; exact h9.symm)), rfl⟩
      · have q3 : decide ((na.size : Int) ≤ 40) = false := decide_eq_false (by omega)
        have HR : Hid (formB 2 nn ss la = false) := Lib.hid (by rw [HF.out]; simp [*])
        go_enter Try.func86, Try.ntmps86
        go_wp2_with fail
        go_ret
        exact ⟨ret_bool (by first | (rw [HR.out]) | (have h9 := HR.out; rw [hn] at h9; exact h9.symm)), rfl⟩
  · have q0 : (nn == 0) = false := by simpa using hn
    have HR : Hid (formB 2 nn ss la = false) := Lib.hid (by rw [HF.out]; simp [*])
    go_enter Try.func86, Try.ntmps86
    go_wp2_with fail
    go_ret
    exact ⟨ret_bool (by first | (rw [HR.out]) | (have h9 := HR.out; rw [hn] at h9; exact h9.symm)), rfl⟩

set_option maxHeartbeats 8000000 in
theorem form_3 (t : Ty) (hk : t.op = 3) (b o : Nat) (w : World) (h : At w b o t) : Calls Try.prog 86 #[.pointer (some ⟨b, o, none⟩)] w fun e w' => e = .returned (.bool (formB t.op t.n t.s t.args.length)) ∧ w = w' := by
  obtain ⟨base, cap, c0, c1, c2, c3, _⟩ := at_v h
  have hnil := name_nil t
  have hla : t.args.length ≤ 9223372036854775807 := by obtain ⟨_, _, _, _, _, _, _, h9⟩ := at_iff.mp h; have := h9.1; unfold maxLen at this; omega
  have hnsz : t.name.size = t.s.length := rfl
  clear h
  rw [hk] at c0 ⊢
  have HF : Hid _ := Lib.hid (formB_c (op := 3) (n := t.n) (s := t.s) (la := t.args.length) (by decide))
  generalize t.args.length = la at *
  generalize t.n = nn at *
  generalize t.name = na at *
  generalize t.s = ss at *
  clear hk
  by_cases hn : nn = 0
  · have q0 : (nn == 0) = true := by simpa using hn
    by_cases hs : ss = []
    · have q1 : (na.toList == []) = true := by rw [hnil]; simpa using hs
      by_cases hl : la = 2
      · have q2 : ((la : Int) == 2) = true := by simp; omega
        have HR : Hid (formB 3 nn ss la = true) := Lib.hid (by rw [HF.out]; simp [*])
        go_enter Try.func86, Try.ntmps86
        go_wp2_with fail
        go_ret
        exact ⟨ret_bool (by first | (rw [HR.out]) | (have h9 := HR.out; rw [hn] at h9; exact h9.symm)), rfl⟩
      · have q2 : ((la : Int) == 2) = false := by simp; omega
        have HR : Hid (formB 3 nn ss la = false) := Lib.hid (by rw [HF.out]; simp [*])
        go_enter Try.func86, Try.ntmps86
        go_wp2_with fail
        go_ret
        exact ⟨ret_bool (by first | (rw [HR.out]) | (have h9 := HR.out; rw [hn] at h9; exact h9.symm)), rfl⟩
    · have q1 : (na.toList == []) = false := by rw [hnil]; simpa using hs
      have HR : Hid (formB 3 nn ss la = false) := Lib.hid (by rw [HF.out]; simp [*])
      go_enter Try.func86, Try.ntmps86
      go_wp2_with fail
      go_ret
      exact ⟨ret_bool (by first | (rw [HR.out]) | (have h9 := HR.out; rw [hn] at h9; exact h9.symm)), rfl⟩
  · have q0 : (nn == 0) = false := by simpa using hn
    have HR : Hid (formB 3 nn ss la = false) := Lib.hid (by rw [HF.out]; simp [*])
    go_enter Try.func86, Try.ntmps86
    go_wp2_with fail
    go_ret
    exact ⟨ret_bool (by first | (rw [HR.out]) | (have h9 := HR.out; rw [hn] at h9; exact h9.symm)), rfl⟩

set_option maxHeartbeats 8000000 in
theorem form_4 (t : Ty) (hk : t.op = 4) (b o : Nat) (w : World) (h : At w b o t) : Calls Try.prog 86 #[.pointer (some ⟨b, o, none⟩)] w fun e w' => e = .returned (.bool (formB t.op t.n t.s t.args.length)) ∧ w = w' := by
  obtain ⟨base, cap, c0, c1, c2, c3, _⟩ := at_v h
  have hnil := name_nil t
  have hla : t.args.length ≤ 9223372036854775807 := by obtain ⟨_, _, _, _, _, _, _, h9⟩ := at_iff.mp h; have := h9.1; unfold maxLen at this; omega
  have hnsz : t.name.size = t.s.length := rfl
  clear h
  rw [hk] at c0 ⊢
  have HF : Hid _ := Lib.hid (formB_c (op := 4) (n := t.n) (s := t.s) (la := t.args.length) (by decide))
  generalize t.args.length = la at *
  generalize t.n = nn at *
  generalize t.name = na at *
  generalize t.s = ss at *
  clear hk
  by_cases hn : nn = 0
  · have q0 : (nn == 0) = true := by simpa using hn
    by_cases hs : ss = []
    · have q1 : (na.toList == []) = true := by rw [hnil]; simpa using hs
      by_cases hl : la = 2
      · have q2 : ((la : Int) == 2) = true := by simp; omega
        have HR : Hid (formB 4 nn ss la = true) := Lib.hid (by rw [HF.out]; simp [*])
        go_enter Try.func86, Try.ntmps86
        go_wp2_with fail
        go_ret
        exact ⟨ret_bool (by first | (rw [HR.out]) | (have h9 := HR.out; rw [hn] at h9; exact h9.symm)), rfl⟩
      · have q2 : ((la : Int) == 2) = false := by simp; omega
        have HR : Hid (formB 4 nn ss la = false) := Lib.hid (by rw [HF.out]; simp [*])
        go_enter Try.func86, Try.ntmps86
        go_wp2_with fail
        go_ret
        exact ⟨ret_bool (by first | (rw [HR.out]) | (have h9 := HR.out; rw [hn] at h9; exact h9.symm)), rfl⟩
    · have q1 : (na.toList == []) = false := by rw [hnil]; simpa using hs
      have HR : Hid (formB 4 nn ss la = false) := Lib.hid (by rw [HF.out]; simp [*])
      go_enter Try.func86, Try.ntmps86
      go_wp2_with fail
      go_ret
      exact ⟨ret_bool (by first | (rw [HR.out]) | (have h9 := HR.out; rw [hn] at h9; exact h9.symm)), rfl⟩
  · have q0 : (nn == 0) = false := by simpa using hn
    have HR : Hid (formB 4 nn ss la = false) := Lib.hid (by rw [HF.out]; simp [*])
    go_enter Try.func86, Try.ntmps86
    go_wp2_with fail
    go_ret
    exact ⟨ret_bool (by first | (rw [HR.out]) | (have h9 := HR.out; rw [hn] at h9; exact h9.symm)), rfl⟩

set_option maxHeartbeats 8000000 in
theorem form_5 (t : Ty) (hk : t.op = 5) (b o : Nat) (w : World) (h : At w b o t) : Calls Try.prog 86 #[.pointer (some ⟨b, o, none⟩)] w fun e w' => e = .returned (.bool (formB t.op t.n t.s t.args.length)) ∧ w = w' := by
  obtain ⟨base, cap, c0, c1, c2, c3, _⟩ := at_v h
  have hnil := name_nil t
  have hla : t.args.length ≤ 9223372036854775807 := by obtain ⟨_, _, _, _, _, _, _, h9⟩ := at_iff.mp h; have := h9.1; unfold maxLen at this; omega
  have hnsz : t.name.size = t.s.length := rfl
  clear h
  rw [hk] at c0 ⊢
  have HF : Hid _ := Lib.hid (formB_c (op := 5) (n := t.n) (s := t.s) (la := t.args.length) (by decide))
  generalize t.args.length = la at *
  generalize t.n = nn at *
  generalize t.name = na at *
  generalize t.s = ss at *
  clear hk
  by_cases hn : nn = 0
  · have q0 : (nn == 0) = true := by simpa using hn
    by_cases hs : ss = []
    · have q1 : (na.toList == []) = true := by rw [hnil]; simpa using hs
      by_cases hl : la = 2
      · have q2 : ((la : Int) == 2) = true := by simp; omega
        have HR : Hid (formB 5 nn ss la = true) := Lib.hid (by rw [HF.out]; simp [*])
        go_enter Try.func86, Try.ntmps86
        go_wp2_with fail
        go_ret
        exact ⟨ret_bool (by first | (rw [HR.out]) | (have h9 := HR.out; rw [hn] at h9; exact h9.symm)), rfl⟩
      · have q2 : ((la : Int) == 2) = false := by simp; omega
        have HR : Hid (formB 5 nn ss la = false) := Lib.hid (by rw [HF.out]; simp [*])
        go_enter Try.func86, Try.ntmps86
        go_wp2_with fail
        go_ret
        exact ⟨ret_bool (by first | (rw [HR.out]) | (have h9 := HR.out; rw [hn] at h9; exact h9.symm)), rfl⟩
    · have q1 : (na.toList == []) = false := by rw [hnil]; simpa using hs
      have HR : Hid (formB 5 nn ss la = false) := Lib.hid (by rw [HF.out]; simp [*])
      go_enter Try.func86, Try.ntmps86
      go_wp2_with fail
      go_ret
      exact ⟨ret_bool (by first | (rw [HR.out]) | (have h9 := HR.out; rw [hn] at h9; exact h9.symm)), rfl⟩
  · have q0 : (nn == 0) = false := by simpa using hn
    have HR : Hid (formB 5 nn ss la = false) := Lib.hid (by rw [HF.out]; simp [*])
    go_enter Try.func86, Try.ntmps86
    go_wp2_with fail
    go_ret
    exact ⟨ret_bool (by first | (rw [HR.out]) | (have h9 := HR.out; rw [hn] at h9; exact h9.symm)), rfl⟩

set_option maxHeartbeats 8000000 in
theorem form_other (t : Ty) (hk : t.op ≠ 1 ∧ t.op ≠ 2 ∧ t.op ≠ 3 ∧ t.op ≠ 4 ∧ t.op ≠ 5 ∧ t.op ≠ 6 ∧ t.op ≠ 7) (b o : Nat) (w : World) (h : At w b o t) : Calls Try.prog 86 #[.pointer (some ⟨b, o, none⟩)] w fun e w' => e = .returned (.bool (formB t.op t.n t.s t.args.length)) ∧ w = w' := by
  obtain ⟨base, cap, c0, c1, c2, c3, _⟩ := at_v h
  clear h
  have HF := Lib.hid (formB_d (n := t.n) (s := t.s) (la := t.args.length) hk)
  obtain ⟨k1, k2, k3, k4, k5, k6, k7⟩ := hk
  generalize t.args.length = la at *
  generalize t.n = nn at *
  generalize t.name = na at *
  generalize t.s = ss at *
  generalize t.op = op at *
  have r1 : (op == 1) = false := by simpa using k1
  have r2 : (op == 2) = false := by simpa using k2
  have r3 : (op == 3) = false := by simpa using k3
  have r4 : (op == 4) = false := by simpa using k4
  have r5 : (op == 5) = false := by simpa using k5
  have r6 : (op == 6) = false := by simpa using k6
  have r7 : (op == 7) = false := by simpa using k7
  clear k1 k2 k3 k4 k5 k6 k7
  go_enter Try.func86, Try.ntmps86
  go_wp2_with fail
  go_ret
  exact ⟨ret_bool (by rw [HF.out]), rfl⟩

theorem form_any (t : Ty) (b o : Nat) (w : World) (h : At w b o t) : Calls Try.prog 86 #[.pointer (some ⟨b, o, none⟩)] w fun e w' => e = .returned (.bool (formB t.op t.n t.s t.args.length)) ∧ w = w' := by
  by_cases h1 : t.op = 1
  · exact form_1 t h1 b o w h
  by_cases h2 : t.op = 2
  · exact form_2 t h2 b o w h
  by_cases h3 : t.op = 3
  · exact form_3 t h3 b o w h
  by_cases h4 : t.op = 4
  · exact form_4 t h4 b o w h
  by_cases h5 : t.op = 5
  · exact form_5 t h5 b o w h
  by_cases h6 : t.op = 6
  · exact form_6 t h6 b o w h
  by_cases h7 : t.op = 7
  · exact form_7 t h7 b o w h
  · exact form_other t ⟨h1, h2, h3, h4, h5, h6, h7⟩ b o w h

end Ty
end Go.Proofs.Ytfjgebdpbmnicaa
