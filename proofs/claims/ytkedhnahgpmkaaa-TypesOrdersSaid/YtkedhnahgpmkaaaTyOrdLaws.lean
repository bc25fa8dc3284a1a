/- Plain: the order of types is 0 just for equal types, is turned round with its arguments, and does not contradict itself. Conditions: the types are well formed. -/
import Derived.Test.YtkedhnahgpmkaaaTyPOrder
import Derived.Test.YtkedhnahgpmkaaaTyShiftsLaw
import Derived.Sort.Walk0
namespace Go.Proofs.Ytkedhnahgpmkaaa
open Go.RowKit

namespace Ty
/-! numbers -/
theorem cmpI_neg (a b : Int) : cmpI b a = -cmpI a b := by
  unfold cmpI
  repeat' split
  all_goals omega

/-- three comparisons, of the first with the second, the second with the third, and the first with the third, agree -/
def Tr (a b c : Int) : Prop := (a ≤ 0 → b ≤ 0 → c ≤ 0) ∧ (a < 0 → b ≤ 0 → c < 0) ∧ (a ≤ 0 → b < 0 → c < 0) ∧ (a = 0 → b = 0 → c = 0)
def lex2 (x y : Int) : Int := if x ≠ 0 then x else y
theorem lex2_neg (x y : Int) : lex2 (-x) (-y) = -lex2 x y := by
  unfold lex2
  repeat' split
  all_goals omega
theorem lex2_zero {x y : Int} (h : lex2 x y = 0) : x = 0 ∧ y = 0 := by
  unfold lex2 at h
  split at h <;> omega
theorem Tr.lex {a b c a' b' c' : Int} (h : Tr a b c) (h' : Tr a' b' c') : Tr (lex2 a a') (lex2 b b') (lex2 c c') := by
  unfold Tr at *
  obtain ⟨h1, h2, h3, h4⟩ := h
  obtain ⟨k1, k2, k3, k4⟩ := h'
  unfold lex2
  by_cases ha : a = 0
  · by_cases hb : b = 0
    · have hc := h4 ha hb
      rw [if_neg (by omega), if_neg (by omega), if_neg (by omega)]
      exact ⟨k1, k2, k3, k4⟩
    · rw [if_neg (by omega), if_pos (by omega)]
      refine ⟨fun _ hb' => ?_, fun _ hb' => ?_, fun _ hb' => ?_, fun _ hb' => absurd hb' hb⟩
      all_goals
        have := h3 (by omega) (by omega)
        rw [if_pos (by omega)]
        omega
  · rw [if_pos (by omega)]
    refine ⟨fun ha' hb' => ?_, fun ha' hb' => ?_, fun ha' hb' => ?_, fun ha' hb' => absurd ha' ha⟩
    all_goals
      have hb0 : b ≤ 0 := by
        by_cases hb : b = 0
        · omega
        · rw [if_pos (by omega)] at hb'; omega
      have := h2 (by omega) hb0
      rw [if_pos (by omega)]
      omega
theorem cmpI_tr (x y z : Int) : Tr (cmpI x y) (cmpI y z) (cmpI x z) := by
  unfold Tr cmpI
  repeat' split
  all_goals omega

/-! strings -/
theorem cmpS_neg (a b : List UInt8) : cmpS b a = -cmpS a b := by
  unfold cmpS
  rw [bytesLess_eq, bytesLess_eq]
  by_cases h1 : a < b
  · have h2 : ¬ b < a := fun h => List.lt_asymm h h1
    have h3 : a ≠ b := fun e => by subst e; exact h2 h1
    simp [h1, h2, Ne.symm h3]
  · by_cases h2 : b < a
    · have h3 : a ≠ b := fun e => by subst e; exact h1 h2
      simp [h1, h2, h3]
    · have h3 : a = b := List.le_antisymm (List.not_lt.mp h2) (List.not_lt.mp h1)
      subst h3
      simp [h1]
theorem cmpS_zero {a b : List UInt8} (h : cmpS a b = 0) : a = b := by
  unfold cmpS at h
  split at h
  · cases h
  · split at h
    · rename_i h2; simpa using h2
    · cases h
theorem cmpS_le {a b : List UInt8} : cmpS a b ≤ 0 ↔ (a < b ∨ a = b) := by
  unfold cmpS
  rw [bytesLess_eq]
  by_cases h1 : a < b
  · simp [h1]
  · by_cases h2 : a = b
    · subst h2; simp [h1]
    · simp [h1, h2]
theorem cmpS_lt {a b : List UInt8} : cmpS a b < 0 ↔ a < b := by
  unfold cmpS
  rw [bytesLess_eq]
  by_cases h1 : a < b
  · simp [h1]
  · by_cases h2 : a = b
    · subst h2; simp [h1]
    · simp [h1, h2]
theorem cmpS_self (a : List UInt8) : cmpS a a = 0 := by
  have := cmpS_neg a a
  omega
theorem cmpS_tr (x y z : List UInt8) : Tr (cmpS x y) (cmpS y z) (cmpS x z) := by
  refine ⟨fun h1 h2 => ?_, fun h1 h2 => ?_, fun h1 h2 => ?_, fun h1 h2 => ?_⟩
  · rw [cmpS_le] at *
    rcases h1 with h1 | rfl
    · rcases h2 with h2 | rfl
      · exact .inl (List.lt_trans h1 h2)
      · exact .inl h1
    · exact h2
  · rw [cmpS_lt] at *
    rw [cmpS_le] at h2
    rcases h2 with h2 | rfl
    · exact List.lt_trans h1 h2
    · exact h1
  · rw [cmpS_lt] at *
    rw [cmpS_le] at h1
    rcases h1 with h1 | rfl
    · exact List.lt_trans h1 h2
    · exact h2
  · rw [cmpS_zero h1, cmpS_zero h2, cmpS_self]

/-! lists and types -/
theorem cfn_cons (x y : Ty) (a b : List Ty) : cfn (x :: a) (y :: b) = lex2 (ord x y) (cfn a b) := by rw [cfn]; rfl
theorem cfn_neg : ∀ {a b : List Ty}, (∀ x ∈ a, ∀ y ∈ b, ord y x = -ord x y) → cfn b a = -cfn a b
  | [], [], _ => by rw [cfn]; rfl
  | [], _ :: _, _ => by rw [cfn, cfn]; rfl
  | _ :: _, [], _ => by rw [cfn, cfn]
  | x :: a, y :: b, h => by
    rw [cfn_cons, cfn_cons, h x (by simp) y (by simp), cfn_neg (fun x hx y hy => h x (by simp [hx]) y (by simp [hy])), lex2_neg]
theorem cfn_tr : ∀ {a b c : List Ty}, (∀ x ∈ a, ∀ y ∈ b, ∀ z ∈ c, Tr (ord x y) (ord y z) (ord x z)) → Tr (cfn a b) (cfn b c) (cfn a c)
  | [], [], [], _ => by simp [cfn, Tr]
  | [], [], _ :: _, _ => by simp [cfn, Tr]
  | [], _ :: _, [], _ => by simp [cfn, Tr]
  | [], _ :: _, _ :: _, _ => by simp [cfn, Tr]
  | _ :: _, [], [], _ => by simp [cfn, Tr]
  | _ :: _, [], _ :: _, _ => by simp [cfn, Tr]
  | _ :: _, _ :: _, [], _ => by simp [cfn, Tr]
  | x :: a, y :: b, z :: c, h => by
    rw [cfn_cons, cfn_cons, cfn_cons]
    exact (h x (by simp) y (by simp) z (by simp)).lex (cfn_tr (fun x hx y hy z hz => h x (by simp [hx]) y (by simp [hy]) z (by simp [hz])))
theorem cfn_zero : ∀ {a b : List Ty}, (∀ x ∈ a, ∀ y ∈ b, ord x y = 0 → x = y) → cfn a b = 0 → a = b
  | [], [], _, _ => rfl
  | [], _ :: _, _, h => by rw [cfn] at h; cases h
  | _ :: _, [], _, h => by rw [cfn] at h; cases h
  | x :: a, y :: b, h, h0 => by
    rw [cfn_cons] at h0
    obtain ⟨h1, h2⟩ := lex2_zero h0
    rw [h x (by simp) y (by simp) h1, cfn_zero (fun x hx y hy => h x (by simp [hx]) y (by simp [hy])) h2]

theorem good_mem {t x : Ty} (hg : Good t) (hx : x ∈ t.args) : Good x := by
  cases hg with
  | var op n h1 h2 h3 => cases hx
  | con s h1 h2 => cases hx
  | node op a b h0 ha hb =>
    have hx' : x ∈ [a, b] := hx
    rcases List.mem_cons.mp hx' with h | hx'
    · rw [h]; exact ha
    · rcases List.mem_cons.mp hx' with h | hx'
      · rw [h]; exact hb
      · cases hx'
theorem ord_lex {t u : Ty} (ht : Good t) (hu : Good u) : ord t u = lex2 (cmpI (nodes t) (nodes u)) (lex2 (cmpI t.op u.op) (lex2 (cmpI t.n u.n) (lex2 (cmpS t.s u.s) (cfn t.args u.args)))) :=
  ord_or t u (good_len ht hu)
theorem size_mem {t x : Ty} (hx : x ∈ t.args) : SizeOf.sizeOf x < SizeOf.sizeOf t := by
  obtain ⟨i, h, rfl⟩ := List.mem_iff_getElem.mp hx
  exact size_arg t i h

theorem ord_neg : ∀ (k : Nat) (t u : Ty), SizeOf.sizeOf t ≤ k → Good t → Good u → ord u t = -ord t u := by
  intro k
  induction k with
  | zero => intro t u hk _ _; cases t; simp at hk
  | succ k ih =>
    intro t u hk ht hu
    rw [ord_lex ht hu, ord_lex hu ht, cmpI_neg (nodes t), cmpI_neg t.op, cmpI_neg t.n, cmpS_neg t.s,
      cfn_neg (a := t.args) (b := u.args) (fun x hx y hy => ih x y (by have := size_mem hx; omega) (good_mem ht hx) (good_mem hu hy)), lex2_neg, lex2_neg, lex2_neg, lex2_neg]
theorem ord_tr : ∀ (k : Nat) (t u v : Ty), SizeOf.sizeOf t ≤ k → Good t → Good u → Good v → Tr (ord t u) (ord u v) (ord t v) := by
  intro k
  induction k with
  | zero => intro t u v hk _ _ _; cases t; simp at hk
  | succ k ih =>
    intro t u v hk ht hu hv
    rw [ord_lex ht hu, ord_lex hu hv, ord_lex ht hv]
    exact (cmpI_tr _ _ _).lex ((cmpI_tr _ _ _).lex ((cmpI_tr _ _ _).lex ((cmpS_tr _ _ _).lex (cfn_tr (fun x hx y hy z hz => ih x y z (by have := size_mem hx; omega) (good_mem ht hx) (good_mem hu hy) (good_mem hv hz))))))
theorem ty_ext {t u : Ty} (h1 : t.op = u.op) (h2 : t.n = u.n) (h3 : t.s = u.s) (h4 : t.args = u.args) : t = u := by
  cases t; cases u
  cases h1; cases h2; cases h3; cases h4; rfl
theorem ord_zero : ∀ (k : Nat) (t u : Ty), SizeOf.sizeOf t ≤ k → Good t → Good u → ord t u = 0 → t = u := by
  intro k
  induction k with
  | zero => intro t u hk _ _; cases t; simp at hk
  | succ k ih =>
    intro t u hk ht hu h
    rw [ord_lex ht hu] at h
    obtain ⟨_, h⟩ := lex2_zero h
    obtain ⟨h1, h⟩ := lex2_zero h
    obtain ⟨h2, h⟩ := lex2_zero h
    obtain ⟨h3, h⟩ := lex2_zero h
    exact ty_ext (cmpI_zero h1) (cmpI_zero h2) (cmpS_zero h3) (cfn_zero (fun x hx y hy => ih x y (by have := size_mem hx; omega) (good_mem ht hx) (good_mem hu hy)) h)
mutual
theorem same_imp : ∀ (t u : Ty), same t u = true → t = u
  | .mk o n s a, .mk o' n' s' b, h => by
    rw [same] at h
    simp only [Bool.and_eq_true, beq_iff_eq] at h
    obtain ⟨rfl, rfl, rfl, h⟩ := h
    rw [sames_imp a b h]
theorem sames_imp : ∀ (a b : List Ty), sames a b = true → a = b
  | [], [], _ => rfl
  | [], _ :: _, h => by rw [sames_len (by simp)] at h; cases h
  | _ :: _, [], h => by rw [sames_len (by simp)] at h; cases h
  | x :: a, y :: b, h => by
    rw [sames] at h
    simp only [Bool.and_eq_true] at h
    rw [same_imp x y h.1, sames_imp a b h.2]
end
theorem ord_neg' {t u : Ty} (ht : Good t) (hu : Good u) : ord u t = -ord t u := ord_neg _ t u (Nat.le_refl _) ht hu
theorem ord_tr' {t u v : Ty} (ht : Good t) (hu : Good u) (hv : Good v) : Tr (ord t u) (ord u v) (ord t v) := ord_tr _ t u v (Nat.le_refl _) ht hu hv
theorem ord_same {t u : Ty} (ht : Good t) (hu : Good u) : (ord t u == 0) = same t u := by
  cases h : same t u with
  | true =>
    have e := same_imp t u h
    subst e
    have := ord_neg' ht ht
    have : ord t t = 0 := by omega
    simpa using this
  | false =>
    have : ord t u ≠ 0 := fun h0 => by
      have e := ord_zero _ t u (Nat.le_refl _) ht hu h0
      subst e
      rw [same_refl] at h
      cases h
    simpa using this
end Ty
end Go.Proofs.Ytkedhnahgpmkaaa
