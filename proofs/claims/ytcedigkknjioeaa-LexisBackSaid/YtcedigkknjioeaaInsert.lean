/- Plain laws: blanks and a comment that are put in before a token change nothing but positions. Conditions: the token before is not a quote. -/
import Derived.Test.YtcedigkknjioeaaToks
namespace Go.Proofs.Ytcedigkknjioeaa
namespace Lx

theorem left_true_self : ∀ (y : List UInt8), left y true = y → y = []
  | [], _ => rfl
  | b :: y, h => by
    have h1 := left_len y false
    have h2 := left_len y true
    have h3 := congrArg List.length h
    unfold left at h3
    split at h3 <;> simp at h3 <;> omega

/-- what is put in: a blank, a comment, a newline -/
def Ins (i : List UInt8) : Prop := (∃ r, i = 9 :: r) ∧ ∀ y c, left y false = y → left (i ++ y) c = y

theorem ins_at {i y : List UInt8} (hi : Ins i) (hy : left y false = y) : ∀ (x : List UInt8) (c : Bool), left (x ++ y) c = y → left (x ++ (i ++ y)) c = y
  | [], c, _ => hi.2 y c hy
  | b :: x, true, h => by
    rw [List.cons_append] at h ⊢
    unfold left at h ⊢
    by_cases hb : b = 10
    · rw [if_pos hb] at h ⊢
      exact ins_at hi hy x false h
    · rw [if_neg hb] at h ⊢
      exact ins_at hi hy x true h
  | b :: x, false, h => by
    rw [List.cons_append] at h ⊢
    unfold left at h ⊢
    by_cases hs : spB b = true
    · rw [if_pos hs] at h ⊢
      exact ins_at hi hy x false h
    · rw [if_neg hs] at h ⊢
      match x with
      | [] =>
        rw [List.nil_append] at h
        split at h
        · rename_i h2
          have h3 := left_true_self y h
          rw [h3] at h2
          simp at h2
        · have := congrArg List.length h
          simp at this
      | c :: x =>
        rw [List.cons_append] at h ⊢
        by_cases hc : b = 45 ∧ (c :: (x ++ y)).head? = some 45
        · rw [if_pos hc] at h
          rw [if_pos (by simpa using hc)]
          exact ins_at hi hy (c :: x) true h
        · rw [if_neg hc] at h
          have := congrArg List.length h
          simp at this
          omega

theorem ins_before {i y : List UInt8} (hi : Ins i) : ∀ (x : List UInt8) (c : Bool) (z : List UInt8), z ≠ [] → left (x ++ y) c = z ++ y → left (x ++ (i ++ y)) c = z ++ (i ++ y)
  | [], c, z, hz, h => by
    have h1 := left_len y c
    have h2 := congrArg List.length h
    rw [List.nil_append, List.length_append] at h2
    have : z.length ≠ 0 := fun h0 => hz (List.eq_nil_of_length_eq_zero h0)
    omega
  | b :: x, true, z, hz, h => by
    rw [List.cons_append] at h ⊢
    unfold left at h ⊢
    by_cases hb : b = 10
    · rw [if_pos hb] at h ⊢
      exact ins_before hi x false z hz h
    · rw [if_neg hb] at h ⊢
      exact ins_before hi x true z hz h
  | b :: x, false, z, hz, h => by
    rw [List.cons_append] at h ⊢
    unfold left at h ⊢
    by_cases hs : spB b = true
    · rw [if_pos hs] at h ⊢
      exact ins_before hi x false z hz h
    · rw [if_neg hs] at h ⊢
      match x with
      | [] =>
        rw [List.nil_append] at h ⊢
        split at h
        · have h1 := left_len y true
          have h2 := congrArg List.length h
          rw [List.length_append] at h2
          have : z.length ≠ 0 := fun h0 => hz (List.eq_nil_of_length_eq_zero h0)
          omega
        · have e : z = [b] := (List.append_cancel_right (show [b] ++ y = z ++ y from h)).symm
          obtain ⟨r, hr⟩ := hi.1
          rw [if_neg (by rw [hr]; simp), e]
          rfl
      | c :: x =>
        rw [List.cons_append] at h ⊢
        by_cases hc : b = 45 ∧ (c :: (x ++ y)).head? = some 45
        · rw [if_pos hc] at h
          rw [if_pos (by simpa using hc)]
          exact ins_before hi (c :: x) true z hz h
        · rw [if_neg hc] at h
          rw [if_neg (by simpa using hc)]
          have e : z = b :: c :: x := (List.append_cancel_right (show (b :: c :: x) ++ y = z ++ y from h)).symm
          rw [e]
          rfl

theorem st_ins (t : Int) (h9 : hasT t 9 = false) (r y : List UInt8) : ∀ z : List UInt8, st t (z ++ y) ≤ z.length → st t (z ++ (9 :: r)) = st t (z ++ y)
  | [], h => by
    rw [List.nil_append] at h ⊢
    rw [List.nil_append, st_cons, h9]
    simp at h
    simp [h]
  | b :: z, h => by
    rw [List.cons_append, st_cons] at h
    rw [List.cons_append, List.cons_append, st_cons, st_cons]
    by_cases hb : hasT t b = true
    · rw [if_pos hb] at h ⊢
      rw [if_pos hb, st_ins t h9 r y z (by simpa using h)]
    · rw [if_neg hb, if_neg hb]

theorem tlen_ins {i y z : List UInt8} (hi : Ins i) (hz : z ≠ []) (h39 : z ≠ [39]) (h : tlen (z ++ y) ≤ z.length) : tlen (z ++ (i ++ y)) = tlen (z ++ y) := by
  obtain ⟨r, hr⟩ := hi.1
  rw [hr, List.cons_append]
  match z with
  | [] => exact absurd rfl hz
  | b :: z =>
    by_cases hb : b = 39
    · subst hb
      match z with
      | [] => exact absurd rfl h39
      | c :: z => rfl
    · have e1 := tlen_ne b (z ++ y) hb
      have e2 := tlen_ne b (z ++ (9 :: (r ++ y))) hb
      rw [List.cons_append] at h ⊢
      rw [List.cons_append, e2, e1]
      rw [e1] at h
      by_cases hn : nmB b = true
      · rw [if_pos hn] at h ⊢
        rw [if_pos hn]
        exact st_ins 4 (by decide) (r ++ y) y (b :: z) h
      · rw [if_neg hn] at h ⊢
        rw [if_neg hn]
        by_cases ho : opB b = true
        · rw [if_pos ho] at h ⊢
          rw [if_pos ho]
          exact st_ins 8 (by decide) (r ++ y) y (b :: z) h
        · rw [if_neg ho, if_neg ho]

def shiftT (d : Nat) (t : Tok) : Tok := (t.1, t.2.1, t.2.2 + d)

theorem toks_shift (L d : Nat) : ∀ (f : Nat) (l : List UInt8), l.length ≤ L → toks (L + d) f l = ((toks L f l).1.map (shiftT d), (toks L f l).2.map (· + d))
  | 0, l, _ => rfl
  | f + 1, l, h => by
    have hl := left_len l false
    unfold toks
    by_cases h1 : left l false = []
    · simp only [h1, if_true]
      rfl
    · by_cases h2 : kind ((left l false).take (tlen (left l false))) = 0
      · simp only [h1, h2, if_false, if_true]
        have : L + d - (left l false).length = L - (left l false).length + d := by omega
        rw [this]
        rfl
      · simp only [h1, h2, if_false]
        have ih := toks_shift L d f ((left l false).drop (tlen (left l false))) (by rw [List.length_drop]; omega)
        rw [ih]
        have : L + d - (left l false).length = L - (left l false).length + d := by omega
        rw [this]
        rfl

theorem toks_left (L f f' : Nat) (l l' : List UInt8) (h : left l false = left l' false) (hf : l.length < f) (hf' : l'.length < f') : toks L f l = toks L f' l' := by
  match f, f' with
  | f + 1, f' + 1 =>
    have hl := left_len l false
    have hl' := left_len l' false
    unfold toks
    rw [h]
    by_cases h1 : left l' false = []
    · simp only [h1, if_true]
    · by_cases h2 : kind ((left l' false).take (tlen (left l' false))) = 0
      · simp only [h1, h2, if_false, if_true]
      · have hp := tlen_pos h2
        have hlp : 1 ≤ (left l' false).length := by
          rcases Nat.eq_zero_or_pos (left l' false).length with h0 | h0
          · exact absurd (List.eq_nil_of_length_eq_zero h0) h1
          · exact h0
        rw [h] at hl
        have e := toks_fuel L f f' ((left l' false).drop (tlen (left l' false))) (by rw [List.length_drop]; omega) (by rw [List.length_drop]; omega)
        simp only [h1, h2, if_false, e]

end Lx
end Go.Proofs.Ytcedigkknjioeaa
