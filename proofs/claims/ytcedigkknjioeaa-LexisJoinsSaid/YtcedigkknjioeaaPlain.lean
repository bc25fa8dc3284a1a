/- Plain laws on what layer lexis computes: blanks, comments, runs. Conditions: none. -/
import Derived.Test.YtcedigkknjioeaaPure
import Derived.Lib.IndexLaws
namespace Go.Proofs.Ytcedigkknjioeaa
namespace Lx

theorem st_le (t : Int) (l : List UInt8) : st t l ≤ l.length := (List.takeWhile_sublist _).length_le

theorem st_cons (t : Int) (b : UInt8) (l : List UInt8) : st t (b :: l) = if hasT t b then st t l + 1 else 0 := by
  unfold st run
  rw [List.takeWhile_cons]
  split <;> simp

theorem st_nil (t : Int) : st t [] = 0 := rfl

/-- one round of the loop that counts: the test says yes -/
theorem st_yes (t : Int) : ∀ (l : List UInt8) (k : Nat) (h : k < l.length), k ≤ st t l → hasT t l[k] = true → k + 1 ≤ st t l
  | b :: l, 0, _, _, hb => by rw [st_cons]; simp at hb; simp [hb]
  | b :: l, k + 1, h, hk, hb => by
    rw [st_cons] at hk ⊢
    split at hk
    · rename_i hx
      rw [if_pos hx]
      have := st_yes t l k (by simpa using h) (by omega) (by simpa using hb)
      omega
    · omega

/-- .. the test says no -/
theorem st_no (t : Int) : ∀ (l : List UInt8) (k : Nat) (h : k < l.length), k ≤ st t l → hasT t l[k] = false → st t l = k
  | b :: l, 0, _, _, hb => by rw [st_cons]; simp at hb; simp [hb]
  | b :: l, k + 1, h, hk, hb => by
    rw [st_cons] at hk ⊢
    split at hk
    · rename_i hx
      rw [if_pos hx]
      have := st_no t l k (by simpa using h) (by omega) (by simpa using hb)
      omega
    · omega

theorem hasT_sp (b : UInt8) : hasT 16 b = spB b := by simp [hasT]

theorem left_space : ∀ l : List UInt8, left (l.drop (st 16 l)) false = left l false
  | [] => by simp [st_nil]
  | b :: l => by
    rw [st_cons, hasT_sp]
    by_cases h : spB b = true
    · rw [if_pos h, List.drop_succ_cons, left_space l]
      conv => rhs; unfold left
      rw [if_pos h]
    · rw [if_neg h]
      simp

/-- no blank is at the head -/
def noSp (l : List UInt8) : Prop := ∀ b, l.head? = some b → spB b = false

theorem noSp_drop : ∀ l : List UInt8, noSp (l.drop (st 16 l))
  | [] => by simp [noSp]
  | b :: l => by
    rw [st_cons, hasT_sp]
    by_cases h : spB b = true
    · rw [if_pos h, List.drop_succ_cons]
      exact noSp_drop l
    · rw [if_neg h]
      intro c hc
      simp at hc
      subst hc
      simpa using h

theorem isPre_iff (l : List UInt8) : isPre l = true ↔ ∃ r, l = 45 :: 45 :: r := by
  unfold isPre
  split
  · simp
  · rename_i h
    simp
    intro r hr
    exact h r hr

theorem left_stop (l : List UInt8) (h : noSp l) (hp : isPre l = false) : left l false = l := by
  match l with
  | [] => rfl
  | b :: l =>
    have hb := h b rfl
    unfold left
    rw [if_neg (by simp [hb])]
    rw [if_neg]
    rintro ⟨rfl, h2⟩
    match l, h2 with
    | c :: l, h2 =>
      simp at h2
      subst h2
      simp [isPre] at hp

theorem left_in_none : ∀ l : List UInt8, Lib.indexByte l 10 = -1 → left l true = []
  | [], _ => rfl
  | b :: l, h => by
    have hne := Lib.indexByte_none h
    have hb : b ≠ 10 := by have := hne 0; simpa using this
    unfold left
    rw [if_neg hb]
    refine left_in_none l ?_
    rw [Lib.indexByte] at h
    rw [if_neg (by simpa using hb)] at h
    split at h
    · rename_i h2
      simpa using h2
    · rename_i h2
      have := Lib.indexByte_ge l 10
      simp at h2
      omega

theorem left_in_some : ∀ (l : List UInt8) (o : Nat), Lib.indexByte l 10 = o → left l true = left (l.drop o) false
  | [], o, h => by simp [Lib.indexByte] at h
  | b :: l, o, h => by
    by_cases hb : b = 10
    · subst hb
      have h0 : o = 0 := by
        simp [Lib.indexByte] at h
        omega
      subst h0
      unfold left
      simp [spB, spBytes]
    · rw [Lib.indexByte, if_neg (by simpa using hb)] at h
      split at h
      · omega
      · rename_i h2
        match o with
        | 0 => have := Lib.indexByte_ge l 10; simp at h2; omega
        | o + 1 =>
          have := left_in_some l o (by omega)
          rw [List.drop_succ_cons, ← this]
          conv => lhs; unfold left
          rw [if_neg hb]

end Lx
end Go.Proofs.Ytcedigkknjioeaa
