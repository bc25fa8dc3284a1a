/- Plain laws: what is true of the tokens that Tokens leaves, and of what is joined of them. Conditions: none. -/
import Derived.Test.YtcedigkknjioeaaBack
import Derived.Test.YtcedigkknjioeaaCommentT
import Derived.Test.YtcedigkknjioeaaJoin
namespace Go.Proofs.Ytcedigkknjioeaa
open Go.RowKit Go.WideMaps Go.Maps

/-- where the token before ends -/
def befT (T : List Lx.Tok) (j : Nat) : Nat := match j with | 0 => 0 | i + 1 => pT T i + (qT T i).size

structure BF (s : ByteArray) (T : List Lx.Tok) (n : Nat) : Prop where
  pos : ∀ j, j < n → befT T j ≤ pT T j
  fit : ∀ j, j < n → pT T j + (qT T j).size ≤ s.size
  txt : ∀ j, j < n → s.extract (pT T j) (pT T j + (qT T j).size) = qT T j
  mid : ∀ j, j + 1 < n → kT T j ≠ 7 ∧ 1 ≤ (qT T j).size
  last : kT T (n - 1) = 7 ∧ qT T (n - 1) = ⟨#[]⟩ ∧ pT T (n - 1) = s.size
  ok : ∀ j, j < n → okT (kT T j) (qT T j).data.toList = true

namespace Lx
theorem kind_le (x : List UInt8) : kind x ≤ 6 ∧ 0 ≤ kind x := by
  unfold kind
  repeat' split
  all_goals decide

theorem fits_at : ∀ (A : List Tok) (l : List UInt8) (a j : Nat) (h : j < A.length), Fits l a A →
    (match j with | 0 => a | i + 1 => ((A[i]?).getD (0, [], 0)).2.2 + ((A[i]?).getD (0, [], 0)).2.1.length) ≤ (A[j]'h).2.2 ∧ (A[j]'h).2.2 + (A[j]'h).2.1.length ≤ l.length ∧
    (l.drop (A[j]'h).2.2).take (A[j]'h).2.1.length = (A[j]'h).2.1 ∧ (A[j]'h).1 = kind (A[j]'h).2.1 ∧ (A[j]'h).1 ≠ 0 ∧ 1 ≤ (A[j]'h).2.1.length
  | t :: A, l, a, 0, _, hf => ⟨hf.1, hf.2.1, hf.2.2.1, hf.2.2.2.1, hf.2.2.2.2.1, hf.2.2.2.2.2.1⟩
  | t :: A, l, a, j + 1, h, hf => by
    have hj : j < A.length := by simpa using h
    have ih := fits_at A l _ j hj hf.2.2.2.2.2.2
    refine ⟨?_, ih.2⟩
    have h1 := ih.1
    cases j with
    | zero => exact h1
    | succ i => exact h1
end Lx

theorem pq_in {A : List Lx.Tok} {e : Lx.Tok} {j : Nat} (h : j < A.length) : kT (A ++ [e]) j = (A[j]'h).1 ∧ qT (A ++ [e]) j = ⟨(A[j]'h).2.1.toArray⟩ ∧ pT (A ++ [e]) j = (A[j]'h).2.2 := by
  unfold kT qT pT
  rw [List.getElem?_append_left h, List.getElem?_eq_getElem h]
  exact ⟨rfl, rfl, rfl⟩
theorem pq_end {A : List Lx.Tok} {e : Lx.Tok} : kT (A ++ [e]) A.length = e.1 ∧ qT (A ++ [e]) A.length = ⟨e.2.1.toArray⟩ ∧ pT (A ++ [e]) A.length = e.2.2 := by
  unfold kT qT pT
  rw [List.getElem?_append_right (Nat.le_refl _), Nat.sub_self]
  exact ⟨rfl, rfl, rfl⟩
theorem mk_size (l : List UInt8) : (ByteArray.mk l.toArray).size = l.length := by rw [← Lx.size_list]

theorem bf_of (s : ByteArray) (A : List Lx.Tok) (hA : Lx.toksA s.data.toList 0 = (A, none)) : BF s (A ++ [(7, [], s.size)]) (A.length + 1) := by
  have hf := Lx.fits_of A s.data.toList 0 (Nat.zero_le _) hA
  have hsz : s.data.toList.length = s.size := Lx.size_list s
  have hat := fun j (h : j < A.length) => Lx.fits_at A s.data.toList 0 j h hf
  have hin := fun j (h : j < A.length) => pq_in (e := ((7 : Int), ([] : List UInt8), s.size)) h
  have hen := pq_end (A := A) (e := ((7 : Int), ([] : List UInt8), s.size))
  have hfit : ∀ j, j < A.length → pT (A ++ [(7, [], s.size)]) j + (qT (A ++ [(7, [], s.size)]) j).size ≤ s.size := fun j h => by
    obtain ⟨_, e2, e3⟩ := hin j h
    rw [e2, e3, mk_size, ← hsz]
    exact (hat j h).2.1
  refine ⟨fun j hj => ?_, fun j hj => ?_, fun j hj => ?_, fun j hj => ?_, ?_, fun j hj => ?_⟩
  · by_cases h : j < A.length
    · obtain ⟨_, _, e3⟩ := hin j h
      have h1 := (hat j h).1
      rw [e3]
      cases j with
      | zero => exact Nat.zero_le _
      | succ i =>
        have hi : i < A.length := by omega
        obtain ⟨_, f2, f3⟩ := hin i hi
        show pT _ i + (qT _ i).size ≤ _
        rw [f2, f3, mk_size]
        have h2 : ((A[i]?).getD (0, [], 0)).2.2 + ((A[i]?).getD (0, [], 0)).2.1.length ≤ (A[i + 1]'h).2.2 := h1
        rw [List.getElem?_eq_getElem hi] at h2
        exact h2
    · have e : j = A.length := by omega
      subst e
      rw [hen.2.2]
      cases hl : A.length with
      | zero => exact Nat.zero_le _
      | succ i => exact hfit i (by omega)
  · by_cases h : j < A.length
    · exact hfit j h
    · have e : j = A.length := by omega
      subst e
      rw [hen.2.1, hen.2.2]
      exact Nat.le_refl _
  · by_cases h : j < A.length
    · obtain ⟨_, e2, e3⟩ := hin j h
      rw [Lx.ext_mk, e2, e3, mk_size, Nat.add_sub_cancel_left, (hat j h).2.2.1]
    · have e : j = A.length := by omega
      subst e
      rw [Lx.ext_mk, hen.2.1, hen.2.2]
      show (ByteArray.mk ((List.drop s.size s.data.toList).take (s.size + 0 - s.size)).toArray) = _
      rw [show s.size + 0 - s.size = 0 from by omega]
      rfl
  · have h : j < A.length := by omega
    obtain ⟨e1, e2, _⟩ := hin j h
    obtain ⟨_, _, _, g1, g2, g3⟩ := hat j h
    rw [e1, e2, mk_size]
    refine ⟨fun h7 => ?_, g3⟩
    have := (Lx.kind_le (A[j]'h).2.1).1
    rw [← g1, h7] at this
    exact absurd this (by decide)
  · rw [Nat.add_sub_cancel]
    exact ⟨hen.1, hen.2.1, hen.2.2⟩
  · by_cases h : j < A.length
    · obtain ⟨e1, e2, _⟩ := hin j h
      obtain ⟨_, _, _, g1, g2, g3⟩ := hat j h
      rw [e1, e2]
      have h6 := (Lx.kind_le (A[j]'h).2.1).1
      rw [← g1] at h6
      unfold okT
      rw [if_neg (by omega), decide_eq_true g2]
      simpa using g1
    · have e : j = A.length := by omega
      subst e
      rw [hen.1, hen.2.1]
      rfl

/-! what is joined of the tokens -/
theorem jst_jl (s : ByteArray) (A : List Lx.Tok) (h7 : ∀ j (h : j < A.length), (A[j]'h).1 ≠ 7) : ∀ j, j ≤ A.length →
    (jst (kT (A ++ [(7, [], s.size)])) (qT (A ++ [(7, [], s.size)])) j).1 ++ Lx.jl (jst (kT (A ++ [(7, [], s.size)])) (qT (A ++ [(7, [], s.size)])) j).2 (A.drop j) = Lx.jl false A
  | 0, _ => by simp [jst]
  | j + 1, hj => by
    have h : j < A.length := by omega
    have ih := jst_jl s A h7 j (by omega)
    obtain ⟨e1, e2, _⟩ := pq_in (e := ((7 : Int), ([] : List UInt8), s.size)) h
    have ej : jst (kT (A ++ [(7, [], s.size)])) (qT (A ++ [(7, [], s.size)])) (j + 1) = ((jst (kT (A ++ [(7, [], s.size)])) (qT (A ++ [(7, [], s.size)])) j).1 ++ (if (jst (kT (A ++ [(7, [], s.size)])) (qT (A ++ [(7, [], s.size)])) j).2 then [32] else []) ++ (A[j]'h).2.1, !decide ((A[j]'h).2.1 = [39])) := by
      show (if kT _ j = 7 then _ else _) = _
      rw [e1, if_neg (h7 j h), e2]
    rw [← ih, List.drop_eq_getElem_cons h, ej]
    show _ = _ ++ ((if _ then [32] else []) ++ (A[j]'h).2.1 ++ Lx.jl (!decide ((A[j]'h).2.1 = [39])) (A.drop (j + 1)))
    simp only [List.append_assoc]

theorem joined (s : ByteArray) (A : List Lx.Tok) (hA : Lx.toksA s.data.toList 0 = (A, none)) :
    (jst (kT (A ++ [(7, [], s.size)])) (qT (A ++ [(7, [], s.size)])) (A.length + 1)).1 = Lx.jl false A := by
  have hf := Lx.fits_of A s.data.toList 0 (Nat.zero_le _) hA
  have h7 : ∀ j (h : j < A.length), (A[j]'h).1 ≠ 7 := fun j h e => by
    obtain ⟨_, _, _, g1, _⟩ := Lx.fits_at A s.data.toList 0 j h hf
    have := (Lx.kind_le (A[j]'h).2.1).1
    rw [← g1, e] at this
    exact absurd this (by decide)
  have h := jst_jl s A h7 A.length (Nat.le_refl _)
  rw [List.drop_length] at h
  have e : jst (kT (A ++ [(7, [], s.size)])) (qT (A ++ [(7, [], s.size)])) (A.length + 1) = jst (kT (A ++ [(7, [], s.size)])) (qT (A ++ [(7, [], s.size)])) A.length := by
    show (if kT _ A.length = 7 then _ else _) = _
    rw [if_pos (pq_end (A := A)).1]
  rw [e]
  simpa [Lx.jl] using h

/-- the tokens of what is joined -/
theorem back_tokens (s : ByteArray) (A : List Lx.Tok) (hA : Lx.toksA s.data.toList 0 = (A, none)) :
    ∃ A', Lx.toksA (Lx.jl false A) 0 = (A', none) ∧ A'.length = A.length ∧ ∀ (s2 : ByteArray) j, j < A.length + 1 → kT (A' ++ [(7, [], s2.size)]) j = kT (A ++ [(7, [], s.size)]) j ∧ qT (A' ++ [(7, [], s2.size)]) j = qT (A ++ [(7, [], s.size)]) j := by
  have hf := Lx.fits_of A s.data.toList 0 (Nat.zero_le _) hA
  have hall : ∀ t ∈ A, t.1 = Lx.kind t.2.1 ∧ t.1 ≠ 0 := fun t ht => by
    obtain ⟨j, hj, rfl⟩ := List.mem_iff_getElem.mp ht
    obtain ⟨_, _, _, g1, g2, _⟩ := Lx.fits_at A s.data.toList 0 j hj hf
    exact ⟨g1, g2⟩
  obtain ⟨A', h1, h2⟩ := Lx.back_main A false (Lx.jl false A).length ((Lx.jl false A).length - 0 + 1) hall (Lx.qf_of A _ 0 (Nat.zero_le _) hA) (by omega)
  have hl : A'.length = A.length := by simpa using congrArg List.length h2
  refine ⟨A', h1, hl, fun s2 j hj => ?_⟩
  by_cases h : j < A.length
  · obtain ⟨e1, e2, _⟩ := pq_in (e := ((7 : Int), ([] : List UInt8), s.size)) h
    obtain ⟨f1, f2, _⟩ := pq_in (A := A') (e := ((7 : Int), ([] : List UInt8), s2.size)) (j := j) (by omega)
    have h3 : (A'.map Lx.strip)[j]? = (A.map Lx.strip)[j]? := by rw [h2]
    rw [List.getElem?_map, List.getElem?_map, List.getElem?_eq_getElem h, List.getElem?_eq_getElem (by omega : j < A'.length)] at h3
    injection h3 with h3
    injection h3 with h4 h5
    rw [e1, e2, f1, f2, h4, h5]
    exact ⟨rfl, rfl⟩
  · have e : j = A.length := by omega
    subst e
    obtain ⟨e1, e2, _⟩ := pq_end (A := A) (e := ((7 : Int), ([] : List UInt8), s.size))
    obtain ⟨f1, f2, _⟩ := pq_end (A := A') (e := ((7 : Int), ([] : List UInt8), s2.size))
    rw [hl] at f1 f2
    rw [e1, e2, f1, f2]
    exact ⟨rfl, rfl⟩

end Go.Proofs.Ytcedigkknjioeaa
