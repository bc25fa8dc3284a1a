/- Plain laws: the line of a comment, and the tokens of a source into which a comment is put. Conditions: none. -/
import Derived.Test.YtcedigkknjioeaaComment
namespace Go.Proofs.Ytcedigkknjioeaa
open Go.RowKit Go.WideMaps Go.Maps

/-- the bytes that are no newline -/
def lineOf (l : List UInt8) : List UInt8 := l.filter (fun b => !decide (b = 10))
def lineB (l : List UInt8) : ByteArray := ⟨(lineOf l).toArray⟩
theorem lineB_size (l : List UInt8) : (lineB l).size = (lineOf l).length := rfl
theorem lineOf_len (l : List UInt8) : (lineOf l).length ≤ l.length := List.length_filter_le _ _
theorem lineB_take (c : ByteArray) (k : Nat) : (lineB (c.data.toList.take k)).size ≤ k := by
  rw [lineB_size]
  have h1 := lineOf_len (c.data.toList.take k)
  have h2 := List.length_take_le k c.data.toList
  omega
theorem line_succ (c : ByteArray) (k : Nat) (h : k < c.size) : lineOf (c.data.toList.take (k + 1)) = lineOf (c.data.toList.take k) ++ (if c[k]'h = 10 then [] else [c[k]'h]) := by
  have hl : k < c.data.toList.length := by rw [Lx.size_list]; exact h
  rw [List.take_succ_eq_append_getElem hl]
  unfold lineOf
  rw [List.filter_append, get_list c k h]
  by_cases hb : c[k]'h = 10
  · simp [hb]
  · simp [hb]
theorem line_skip (c : ByteArray) (k : Nat) (h : k < c.size) (hb : c[k]'h = 10) : lineB (c.data.toList.take k) = lineB (c.data.toList.take (k + 1)) := by
  unfold lineB
  rw [line_succ c k h, if_pos hb, List.append_nil]
theorem line_more (c : ByteArray) (k : Nat) (h : k < c.size) (hb : ¬ c[k]'h = 10) : lineB (c.data.toList.take k) ++ c.extract k (k + 1) = lineB (c.data.toList.take (k + 1)) := by
  have hl : k < c.data.toList.length := by rw [Lx.size_list]; exact h
  have e : (c.data.toList.drop k).take (k + 1 - k) = [c[k]'h] := by
    rw [show k + 1 - k = 1 from by omega, List.drop_eq_getElem_cons hl, get_list c k h]
    rfl
  unfold lineB
  rw [line_succ c k h, if_neg hb, Lx.ext_mk, e]
  apply ByteArray.ext
  simp
theorem line_all (c : ByteArray) (k : Nat) (h : c.size ≤ k) : c.data.toList.take k = c.data.toList := List.take_of_length_le (by rw [Lx.size_list]; exact h)


namespace Lx
theorem toks_few : ∀ (A : List Tok) (l : List UInt8) (a : Nat), a ≤ l.length → toksA l a = (A, none) → A.length + a ≤ l.length
  | [], l, a, ha, _ => by simpa using ha
  | t :: A, l, a, ha, h => by
    obtain ⟨_, h2, _, h4⟩ := toksA_cons ha h
    have h5 := toks_few A l _ (end_le ha) h4
    have h6 := tlen_pos h2
    have h7 := at1_ge l a
    simp only [List.length_cons]
    omega
theorem toks_pos : ∀ (A : List Tok) (l : List UInt8) (a : Nat), a ≤ l.length → toksA l a = (A, none) → ∀ t ∈ A, t.2.2 ≤ l.length
  | [], _, _, _, _, t, ht => by cases ht
  | t :: A, l, a, ha, h, u, hu => by
    obtain ⟨_, _, h3, h4⟩ := toksA_cons ha h
    rcases List.mem_cons.mp hu with rfl | hu
    · rw [h3]; exact at1_le ha
    · exact toks_pos A l _ (end_le ha) h4 u hu

/-- the tokens from number idx on, moved -/
def moved (T : List Tok) (idx d : Nat) : List Tok := T.take idx ++ (T.drop idx).map (shiftT d)
theorem moved_length (T : List Tok) (idx d : Nat) : (moved T idx d).length = T.length := by
  unfold moved
  rw [List.length_append, List.length_map, List.length_take, List.length_drop]
  omega
theorem moved_get (T : List Tok) (idx d j : Nat) : (moved T idx d)[j]? = if j < idx then T[j]? else (T[j]?).map (shiftT d) := by
  unfold moved
  by_cases h : j < idx
  · rw [if_pos h]
    by_cases hj : j < T.length
    · rw [List.getElem?_append_left (by rw [List.length_take]; omega), List.getElem?_take, if_pos h]
    · rw [List.getElem?_append_right (by rw [List.length_take]; omega), List.getElem?_map, List.getElem?_drop, List.length_take, List.getElem?_eq_none (by omega : T.length ≤ j), List.getElem?_eq_none (by omega)]
      rfl
  · rw [if_neg h]
    by_cases hi : idx ≤ T.length
    · rw [List.getElem?_append_right (by rw [List.length_take]; omega), List.getElem?_map, List.getElem?_drop, List.length_take]
      rw [show idx + (j - min idx T.length) = j from by omega]
    · rw [List.drop_of_length_le (by omega), List.map_nil, List.append_nil, List.getElem?_take, if_neg h, List.getElem?_eq_none (by omega : T.length ≤ j)]
      rfl
end Lx

theorem moved_k (T : List Lx.Tok) (idx d j : Nat) : kT (Lx.moved T idx d) j = kT T j := by
  unfold kT
  rw [Lx.moved_get]
  by_cases h : j < idx
  · rw [if_pos h]
  · rw [if_neg h]
    cases T[j]? <;> rfl
theorem moved_q (T : List Lx.Tok) (idx d j : Nat) : qT (Lx.moved T idx d) j = qT T j := by
  unfold qT
  rw [Lx.moved_get]
  by_cases h : j < idx
  · rw [if_pos h]
  · rw [if_neg h]
    cases T[j]? <;> rfl
theorem moved_p1 (T : List Lx.Tok) (idx d j : Nat) (h : j < idx) : pT (Lx.moved T idx d) j = pT T j := by
  unfold pT
  rw [Lx.moved_get, if_pos h]
theorem moved_p2 (T : List Lx.Tok) (idx d j : Nat) (h : idx ≤ j) (hj : j < T.length) : pT (Lx.moved T idx d) j = pT T j + d := by
  unfold pT
  rw [Lx.moved_get, if_neg (by omega), List.getElem?_eq_getElem hj]
  rfl

theorem pT_le (s : ByteArray) (A : List Lx.Tok) (hA : Lx.toksA s.data.toList 0 = (A, none)) (j : Nat) : pT (A ++ [(7, [], s.size)]) j ≤ s.size := by
  unfold pT
  by_cases h : j < (A ++ [((7 : Int), ([] : List UInt8), s.size)]).length
  · rw [List.getElem?_eq_getElem h]
    have hm := List.getElem_mem h
    rcases List.mem_append.mp hm with hm | hm
    · have := Lx.toks_pos A _ 0 (Nat.zero_le _) hA _ hm
      rw [Lx.size_list] at this
      exact this
    · rw [List.mem_singleton.mp hm]
      exact Nat.le_refl _
  · rw [List.getElem?_eq_none (by omega)]
    exact Nat.zero_le _

/-- what is put in -/
def putB (c : ByteArray) : ByteArray := ⟨#[9, 32, 45, 45, 32]⟩ ++ lineB c.data.toList ++ ⟨#[10, 13]⟩
def insB (s c : ByteArray) (p : Nat) : ByteArray := s.extract 0 p ++ putB c ++ s.extract p s.size
theorem putB_list (c : ByteArray) : (putB c).data.toList = 9 :: 32 :: 45 :: 45 :: 32 :: (lineOf c.data.toList ++ [10, 13]) := by
  unfold putB lineB
  simp
theorem putB_size (c : ByteArray) : (putB c).size = (lineOf c.data.toList).length + 7 := by
  rw [← Lx.size_list, putB_list]
  simp
theorem putB_le (c : ByteArray) : (putB c).size ≤ c.size + 7 := by
  have := lineOf_len c.data.toList
  rw [Lx.size_list] at this
  rw [putB_size]
  omega
theorem insB_list (s c : ByteArray) (p : Nat) : (insB s c p).data.toList = s.data.toList.take p ++ ((putB c).data.toList ++ s.data.toList.drop p) := by
  unfold insB
  rw [Lx.ext_mk, Lx.ext_mk]
  simp only [ByteArray.data_append, Array.toList_append, List.append_assoc, List.drop_zero, Nat.sub_zero]
  rw [List.take_of_length_le (l := s.data.toList.drop p) (by rw [List.length_drop, Lx.size_list]; exact Nat.le_refl _)]
theorem insB_size (s c : ByteArray) (p : Nat) (hp : p ≤ s.size) : (insB s c p).size = s.size + (putB c).size := by
  rw [← Lx.size_list, insB_list]
  simp only [List.length_append, List.length_take, List.length_drop, Lx.size_list]
  omega

theorem ins_tokens (s c : ByteArray) (A : List Lx.Tok) (idx : Nat) (hsum : s.size + c.size ≤ 11991) (hA : Lx.toksA s.data.toList 0 = (A, none)) (hi : idx ≤ A.length)
    (hq : idx = 0 ∨ (0 < idx ∧ (qT (A ++ [(7, [], s.size)]) (idx - 1)).toList ≠ [39])) (w : World) :
    Calls Try.prog 9 #[.string (insB s c (pT (A ++ [(7, [], s.size)]) idx))] w (TokOk (Lx.moved (A ++ [(7, [], s.size)]) idx (putB c).size) w) := by
  have hp : pT (A ++ [(7, [], s.size)]) idx = Lx.nextPos s.data.toList (A.drop idx) := by
    unfold pT
    by_cases h : idx < A.length
    · rw [List.getElem?_append_left h, List.getElem?_eq_getElem h, List.drop_eq_getElem_cons h]
      rfl
    · rw [List.getElem?_append_right (by omega), List.drop_of_length_le (by omega), show idx - A.length = 0 from by omega]
      show s.size = s.data.toList.length
      rw [Lx.size_list]
  have hle := pT_le s A hA idx
  have hIns : Lx.Ins (putB c).data.toList := by
    rw [putB_list]
    refine Lx.ins_comment _ fun b hb => ?_
    have := (List.mem_filter.mp hb).2
    simpa using this
  have hmain := Lx.ins_main hIns (A.take idx) (A.drop idx) s.data.toList (pT (A ++ [(7, [], s.size)]) idx) 0 hp (by rw [Lx.size_list]; exact hle) (Nat.zero_le _)
    (by rw [List.take_append_drop]; exact hA) (by
      intro t ht h39
      rcases hq with rfl | ⟨h0, hne⟩
      · cases ht
      · have hlt : idx - 1 < A.length := by omega
        rw [List.getLast?_eq_getElem?, List.length_take, show min idx A.length - 1 = idx - 1 from by omega, List.getElem?_take, if_pos (by omega)] at ht
        apply hne
        unfold qT
        rw [List.getElem?_append_left hlt, ht]
        show (ByteArray.mk t.2.1.toArray).toList = [39]
        rw [h39]
        decide +kernel)
  rw [← insB_list] at hmain
  have hsz := insB_size s c _ hle
  have hpl := putB_le c
  have hok := tokens_ok (insB s c (pT (A ++ [(7, [], s.size)]) idx)) _ w (by omega) hmain
  have e : (A.take idx ++ (A.drop idx).map (Lx.shiftT (putB c).data.toList.length)) ++ [((7 : Int), ([] : List UInt8), (insB s c (pT (A ++ [(7, [], s.size)]) idx)).size)] = Lx.moved (A ++ [(7, [], s.size)]) idx (putB c).size := by
    unfold Lx.moved
    rw [List.take_append_of_le_length hi, List.drop_append_of_le_length hi, List.map_append, List.append_assoc, hsz, Lx.size_list]
    rfl
  rw [e] at hok
  exact hok

end Go.Proofs.Ytcedigkknjioeaa
