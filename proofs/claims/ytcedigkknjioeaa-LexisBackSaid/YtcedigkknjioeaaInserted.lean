/- Plain law: the tokens of a source with blanks and a comment put in before a token. Conditions: the token before is not a quote. -/
import Derived.Test.YtcedigkknjioeaaInsert
namespace Go.Proofs.Ytcedigkknjioeaa
namespace Lx

theorem left_nl (l : List UInt8) : left (10 :: l) true = left l false := rfl
theorem left_in {b : UInt8} (h : b ≠ 10) (l : List UInt8) : left (b :: l) true = left l true := by
  show (if b = 10 then left l false else left l true) = _
  rw [if_neg h]
theorem left_sp {b : UInt8} (h : spB b = true) (l : List UInt8) : left (b :: l) false = left l false := by
  show (if spB b = true then left l false else _) = _
  rw [if_pos h]
theorem left_co (l : List UInt8) : left (45 :: 45 :: l) false = left (45 :: l) true := rfl
theorem left_idem : ∀ (l : List UInt8) (c : Bool), left (left l c) false = left l c
  | [], _ => rfl
  | b :: l, true => by
    by_cases hb : b = 10
    · subst hb
      rw [left_nl]; exact left_idem l false
    · rw [left_in hb]; exact left_idem l true
  | b :: l, false => by
    by_cases hs : spB b = true
    · rw [left_sp hs]; exact left_idem l false
    · by_cases hc : b = 45 ∧ l.head? = some 45
      · have e : left (b :: l) false = left l true := by
          show (if spB b = true then left l false else if b = 45 ∧ l.head? = some 45 then left l true else b :: l) = _
          rw [if_neg hs, if_pos hc]
        rw [e]; exact left_idem l true
      · have e : left (b :: l) false = b :: l := by
          show (if spB b = true then left l false else if b = 45 ∧ l.head? = some 45 then left l true else b :: l) = _
          rw [if_neg hs, if_neg hc]
        rw [e, e]

theorem left_at1 (l : List UInt8) (a : Nat) : left (l.drop a) false = l.drop (at1 l a) := by rw [left_spl, List.drop_drop]; rfl
theorem at1_ge (l : List UInt8) (a : Nat) : a ≤ at1 l a := Nat.le_add_right _ _
theorem at1_of {l : List UInt8} {a q : Nat} (ha : a ≤ q) (hq : q ≤ l.length) (h : left (l.drop a) false = l.drop q) : at1 l a = q := by
  unfold at1
  rw [spl_eq (k := q - a) (by rw [List.length_drop]; omega) (by rw [h, List.drop_drop]; congr 1; omega)]
  omega

def nextPos (l : List UInt8) (C : List Tok) : Nat := match C with
  | [] => l.length
  | t :: _ => t.2.2

theorem at1_next {l : List UInt8} {a : Nat} {C : List Tok} (ha : a ≤ l.length) (h : toksA l a = (C, none)) : at1 l a = nextPos l C := by
  rw [toksA_step l a ha] at h
  by_cases h1 : at1 l a = l.length
  · rw [if_pos h1] at h
    injection h with h2 _
    rw [← h2]
    exact h1
  · rw [if_neg h1] at h
    by_cases h2 : kind (tok1 l a) = 0
    · rw [if_pos h2] at h
      injection h with _ h3
      cases h3
    · rw [if_neg h2] at h
      injection h with h3 _
      rw [← h3]
      rfl

theorem toksA_cons {l : List UInt8} {a : Nat} {t : Tok} {R : List Tok} (ha : a ≤ l.length) (h : toksA l a = (t :: R, none)) :
    at1 l a ≠ l.length ∧ kind (tok1 l a) ≠ 0 ∧ t = (kind (tok1 l a), tok1 l a, at1 l a) ∧ toksA l (at1 l a + tlen (l.drop (at1 l a))) = (R, none) := by
  rw [toksA_step l a ha] at h
  by_cases h1 : at1 l a = l.length
  · rw [if_pos h1] at h
    injection h with h2 _
    cases h2
  · rw [if_neg h1] at h
    by_cases h2 : kind (tok1 l a) = 0
    · rw [if_pos h2] at h
      injection h with h3 _
      cases h3
    · rw [if_neg h2] at h
      injection h with h3 h4
      injection h3 with h5 h6
      exact ⟨h1, h2, h5.symm, Prod.ext h6 h4⟩

theorem end_le {l : List UInt8} {a : Nat} (ha : a ≤ l.length) : at1 l a + tlen (l.drop (at1 l a)) ≤ l.length := by
  have h1 := at1_le ha
  have h2 := tlen_le (l.drop (at1 l a))
  rw [List.length_drop] at h2
  omega

theorem reach_le : ∀ (B C : List Tok) (l : List UInt8) (a : Nat), a ≤ l.length → toksA l a = (B ++ C, none) → a ≤ nextPos l C
  | [], C, l, a, ha, h => by
    have h1 : at1 l a = nextPos l C := at1_next ha h
    rw [← h1]
    exact at1_ge l a
  | t :: B, C, l, a, ha, h => by
    obtain ⟨_, _, _, h4⟩ := toksA_cons ha h
    have := reach_le B C l _ (end_le ha) h4
    have := at1_ge l a
    omega

theorem ins_base {l i : List UInt8} {p a : Nat} (hi : Ins i) (hp : p ≤ l.length) (ha : a ≤ p) (h : left (l.drop a) false = l.drop p) :
    toksA (l.take p ++ (i ++ l.drop p)) a = ((toksA l a).1.map (shiftT i.length), (toksA l a).2.map (· + i.length)) := by
  have hy : left (l.drop p) false = l.drop p := by rw [← h]; exact left_idem _ _
  have hlen : (l.take p ++ (i ++ l.drop p)).length = l.length + i.length := by simp; omega
  have e1 : l.drop a = (l.take p).drop a ++ l.drop p := by
    conv => lhs; rw [← List.take_append_drop p l]
    rw [List.drop_append_of_le_length (by rw [List.length_take]; omega)]
  have e2 : (l.take p ++ (i ++ l.drop p)).drop a = (l.take p).drop a ++ (i ++ l.drop p) := by
    rw [List.drop_append_of_le_length (by rw [List.length_take]; omega)]
  have h1 : left ((l.take p ++ (i ++ l.drop p)).drop a) false = left (l.drop a) false := by
    rw [e2, h]
    exact ins_at hi hy _ _ (by rw [← e1]; exact h)
  have h2 : toksA (l.take p ++ (i ++ l.drop p)) a = toks (l.length + i.length) (l.length - a + 1) (l.drop a) := by
    unfold toksA
    rw [hlen]
    exact toks_left _ _ _ _ _ h1 (by rw [List.length_drop, hlen]; omega) (by rw [List.length_drop]; omega)
  rw [h2, toks_shift l.length i.length _ _ (by rw [List.length_drop]; omega)]
  rfl

theorem ins_main {i : List UInt8} (hi : Ins i) : ∀ (B C : List Tok) (l : List UInt8) (p a : Nat), p = nextPos l C → p ≤ l.length → a ≤ p → toksA l a = (B ++ C, none) → (∀ t, B.getLast? = some t → t.2.1 ≠ [39]) →
    toksA (l.take p ++ (i ++ l.drop p)) a = (B ++ C.map (shiftT i.length), none)
  | [], C, l, p, a, hpc, hp, ha, h, _ => by
    have h1 : at1 l a = nextPos l C := at1_next (by omega) h
    have h2 := left_at1 l a
    rw [h1, ← hpc] at h2
    rw [ins_base hi hp ha h2, h]
    rfl
  | t :: B, C, l, p, a, hpc, hp, ha, h, hlast => by
    obtain ⟨g1, g2, g3, g4⟩ := toksA_cons (by omega) h
    have hend := end_le (l := l) (a := a) (by omega)
    have hre := reach_le B C l _ hend g4
    rw [← hpc] at hre
    have hpos := tlen_pos (l := l.drop (at1 l a)) g2
    obtain ⟨q, hq⟩ : ∃ q, q = at1 l a := ⟨_, rfl⟩
    obtain ⟨n, hn⟩ : ∃ n, n = tlen (l.drop q) := ⟨_, rfl⟩
    rw [← hq] at g1 g4 hend hre hpos
    rw [← hn] at g4 hend hre hpos
    have haq : a ≤ q := by rw [hq]; exact at1_ge l a
    have hlt : (l.take p).length = p := by rw [List.length_take]; omega
    have e1 : ∀ b, b ≤ p → l.drop b = (l.take p).drop b ++ l.drop p := fun b hb => by
      conv => lhs; rw [← List.take_append_drop p l]
      rw [List.drop_append_of_le_length (by omega)]
    have e2 : ∀ b, b ≤ p → (l.take p ++ (i ++ l.drop p)).drop b = (l.take p).drop b ++ (i ++ l.drop p) := fun b hb => by
      rw [List.drop_append_of_le_length (by omega)]
    have hlen : (l.take p ++ (i ++ l.drop p)).length = l.length + i.length := by simp; omega
    have hzl : ((l.take p).drop q).length = p - q := by rw [List.length_drop, hlt]
    have hz : (l.take p).drop q ≠ [] := fun h0 => by rw [h0] at hzl; simp at hzl; omega
    have h1 : left (l.drop a) false = (l.take p).drop q ++ l.drop p := by rw [left_at1, ← hq]; exact e1 q (by omega)
    have h2 : left ((l.take p ++ (i ++ l.drop p)).drop a) false = (l.take p ++ (i ++ l.drop p)).drop q := by
      rw [e2 a ha, e2 q (by omega)]
      exact ins_before hi _ _ _ hz (by rw [← e1 a ha]; exact h1)
    have hat : at1 (l.take p ++ (i ++ l.drop p)) a = q := at1_of haq (by rw [hlen]; omega) h2
    have htz : tlen ((l.take p).drop q ++ l.drop p) = n := by rw [← e1 q (by omega)]; exact hn.symm
    have htok : tok1 l a = ((l.take p).drop q).take n := by
      unfold tok1
      rw [← hq, ← hn, e1 q (by omega), List.take_append_of_le_length (by rw [hzl]; omega)]
    have h39 : (l.take p).drop q ≠ [39] := fun h0 => by
      have hpq : p - q = 1 := by rw [← hzl, h0]; rfl
      have hn1 : n = 1 := by omega
      have ht : t.2.1 = [39] := by rw [g3, htok, h0, hn1]; rfl
      match B with
      | [] => exact hlast t rfl ht
      | t2 :: B =>
        obtain ⟨_, k2, _, k4⟩ := toksA_cons hend g4
        have := reach_le B C l _ (end_le hend) k4
        have := tlen_pos k2
        have := at1_ge l (q + n)
        omega
    have hti : tlen ((l.take p ++ (i ++ l.drop p)).drop q) = n := by
      rw [e2 q (by omega), tlen_ins hi hz h39 (by rw [htz, hzl]; omega), htz]
    have htok' : tok1 (l.take p ++ (i ++ l.drop p)) a = tok1 l a := by
      rw [htok]
      unfold tok1
      rw [hat, hti, e2 q (by omega), List.take_append_of_le_length (by rw [hzl]; omega)]
    have ih := ins_main hi B C l p (q + n) hpc hp (by omega) g4 (fun t2 h2 => hlast t2 (by
      cases B with
      | nil => cases h2
      | cons b B => exact h2))
    rw [toksA_step _ _ (by rw [hlen]; omega), hat, htok', hti, if_neg (by rw [hlen]; omega), if_neg g2, ih]
    rw [g3, ← hq]
    rfl

theorem left_com : ∀ (c y : List UInt8), (∀ b ∈ c, b ≠ 10) → left (c ++ (10 :: 13 :: y)) true = left y false
  | [], y, _ => by
    rw [List.nil_append, left_nl, left_sp (by decide)]
  | b :: c, y, h => by
    rw [List.cons_append, left_in (h b (by simp))]
    exact left_com c y (fun x hx => h x (by simp [hx]))

theorem ins_comment (c : List UInt8) (h : ∀ b ∈ c, b ≠ 10) : Ins (9 :: 32 :: 45 :: 45 :: 32 :: (c ++ [10, 13])) := by
  refine ⟨⟨_, rfl⟩, fun y b hy => ?_⟩
  have e : (9 :: 32 :: 45 :: 45 :: 32 :: (c ++ [10, 13])) ++ y = 9 :: 32 :: 45 :: 45 :: 32 :: (c ++ (10 :: 13 :: y)) := by simp
  rw [e]
  have hc : left (c ++ (10 :: 13 :: y)) true = left y false := left_com _ y h
  cases b
  · rw [left_sp (by decide), left_sp (by decide), left_co, left_in (by decide), left_in (by decide), hc, hy]
  · rw [left_in (by decide), left_in (by decide), left_in (by decide), left_in (by decide), left_in (by decide), hc, hy]

end Lx
end Go.Proofs.Ytcedigkknjioeaa
