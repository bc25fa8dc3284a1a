/- Plain laws on the tokens of a list of bytes: one step of the loop. Conditions: none. -/
import Derived.Test.YtcedigkknjioeaaStep
namespace Go.Proofs.Ytcedigkknjioeaa
open Go.RowKit Go.WideMaps Go.Maps
namespace Lx

theorem left_drop : ∀ (l : List UInt8) (c : Bool), left l c = l.drop (l.length - (left l c).length)
  | [], _ => by simp [left]
  | b :: l, true => by
    unfold left
    split
    · have h1 := left_drop l false
      have h2 := left_len l false
      rw [show (b :: l).length - (left l false).length = (l.length - (left l false).length) + 1 from by simp; omega, List.drop_succ_cons, ← h1]
    · have h1 := left_drop l true
      have h2 := left_len l true
      rw [show (b :: l).length - (left l true).length = (l.length - (left l true).length) + 1 from by simp; omega, List.drop_succ_cons, ← h1]
  | b :: l, false => by
    unfold left
    split
    · have h1 := left_drop l false
      have h2 := left_len l false
      rw [show (b :: l).length - (left l false).length = (l.length - (left l false).length) + 1 from by simp; omega, List.drop_succ_cons, ← h1]
    · split
      · have h1 := left_drop l true
        have h2 := left_len l true
        rw [show (b :: l).length - (left l true).length = (l.length - (left l true).length) + 1 from by simp; omega, List.drop_succ_cons, ← h1]
      · simp

theorem left_spl (l : List UInt8) : left l false = l.drop (spl l) := left_drop l false
theorem spl_le (l : List UInt8) : spl l ≤ l.length := by unfold spl; omega

theorem kind_nil : kind [] = 0 := by decide
theorem tlen_pos {l : List UInt8} (h : kind (l.take (tlen l)) ≠ 0) : 1 ≤ tlen l := by
  rcases Nat.eq_zero_or_pos (tlen l) with h0 | h0
  · rw [h0, List.take_zero] at h
    exact absurd kind_nil h
  · exact h0
theorem tlen_39 (r : List UInt8) : tlen (39 :: r) ≤ 1 := by
  match r with
  | [] => simp [tlen]
  | c :: r => by_cases h2 : upB c = true <;> simp [tlen, h2]
theorem tlen_ne (b : UInt8) (r : List UInt8) (h : b ≠ 39) : tlen (b :: r) = if nmB b then st 4 (b :: r) else if opB b then st 8 (b :: r) else 1 := by simp [tlen, h]
theorem tlen_le (l : List UInt8) : tlen l ≤ l.length := by
  match l with
  | [] => simp [tlen]
  | b :: r =>
    by_cases h1 : b = 39
    · subst h1
      have := tlen_39 r
      simp
      omega
    · rw [tlen_ne b r h1]
      have h4 := st_le 4 (b :: r)
      have h8 := st_le 8 (b :: r)
      by_cases h2 : nmB b = true
      · rw [if_pos h2]; exact h4
      · rw [if_neg h2]
        by_cases h3 : opB b = true
        · rw [if_pos h3]; exact h8
        · rw [if_neg h3]; simp

theorem toks_fuel (L : Nat) : ∀ (f f' : Nat) (l : List UInt8), l.length < f → l.length < f' → toks L f l = toks L f' l
  | 0, _, _, h, _ => absurd h (Nat.not_lt_zero _)
  | _ + 1, 0, _, _, h => absurd h (Nat.not_lt_zero _)
  | f + 1, f' + 1, l, h, h' => by
    unfold toks
    by_cases h1 : left l false = []
    · simp only [h1, if_true]
    · by_cases h2 : kind ((left l false).take (tlen (left l false))) = 0
      · simp only [h1, h2, if_false, if_true]
      · have hp := tlen_pos h2
        have hl := left_len l false
        have hlp : 1 ≤ (left l false).length := by
          rcases Nat.eq_zero_or_pos (left l false).length with h0 | h0
          · exact absurd (List.eq_nil_of_length_eq_zero h0) h1
          · exact h0
        have ih := toks_fuel L f f' ((left l false).drop (tlen (left l false))) (by rw [List.length_drop]; omega) (by rw [List.length_drop]; omega)
        simp only [h1, h2, if_false, ih]

/-- the tokens from place a on -/
def toksA (l : List UInt8) (a : Nat) : List Tok × Option Nat := toks l.length (l.length - a + 1) (l.drop a)
/-- where the token begins -/
def at1 (l : List UInt8) (a : Nat) : Nat := a + spl (l.drop a)
theorem at1_le {l : List UInt8} {a : Nat} (h : a ≤ l.length) : at1 l a ≤ l.length := by
  have := spl_le (l.drop a)
  rw [List.length_drop] at this
  unfold at1
  omega
def tok1 (l : List UInt8) (a : Nat) : List UInt8 := (l.drop (at1 l a)).take (tlen (l.drop (at1 l a)))

theorem toksA_step (l : List UInt8) (a : Nat) (h : a ≤ l.length) : toksA l a =
    if at1 l a = l.length then ([], none)
    else if kind (tok1 l a) = 0 then ([], some (at1 l a))
    else ((kind (tok1 l a), tok1 l a, at1 l a) :: (toksA l (at1 l a + tlen (l.drop (at1 l a)))).1, (toksA l (at1 l a + tlen (l.drop (at1 l a)))).2) := by
  have e : left (l.drop a) false = l.drop (at1 l a) := by rw [left_spl, List.drop_drop]; rfl
  have hle := at1_le h
  have e2 : l.length - (l.drop (at1 l a)).length = at1 l a := by rw [List.length_drop]; omega
  conv => lhs; unfold toksA toks
  simp only [e, e2]
  by_cases h1 : at1 l a = l.length
  · rw [if_pos h1, if_pos (by rw [h1, List.drop_length])]
  · rw [if_neg h1, if_neg (by intro h2; have := congrArg List.length h2; rw [List.length_drop] at this; simp at this; omega)]
    by_cases h2 : kind (tok1 l a) = 0
    · rw [if_pos h2, if_pos (by exact h2)]
    · rw [if_neg h2, if_neg (by exact h2)]
      have hp := tlen_pos h2
      have ht := tlen_le (l.drop (at1 l a))
      rw [List.length_drop] at ht
      have h3 : at1 l a ≥ a := by unfold at1; omega
      have ef : toks l.length (l.length - a) ((l.drop (at1 l a)).drop (tlen (l.drop (at1 l a)))) = toksA l (at1 l a + tlen (l.drop (at1 l a))) := by
        rw [List.drop_drop]
        exact toks_fuel _ _ _ _ (by rw [List.length_drop]; omega) (by rw [List.length_drop]; omega)
      rw [ef]
      rfl

def tcells (ts : List Tok) : List Value := ts.flatMap fun t => [.int .i64 t.1, .string ⟨t.2.1.toArray⟩, .int .i64 t.2.2]
theorem tcells_snoc (ts : List Tok) (t : Tok) : tcells (ts ++ [t]) = tcells ts ++ [.int .i64 t.1, .string ⟨t.2.1.toArray⟩, .int .i64 t.2.2] := by simp [tcells]
theorem ext_mk (s : ByteArray) (a b : Nat) : s.extract a b = ⟨((s.data.toList.drop a).take (b - a)).toArray⟩ := by
  rw [← Lib.extract_data]
theorem ext_ext (s : ByteArray) (a n : Nat) : ((s.extract a s.size).extract 0 n).data.toList = (s.data.toList.drop a).take n := by
  rw [Lib.extract_data, ext_end]
  simp
end Lx
end Go.Proofs.Ytcedigkknjioeaa
