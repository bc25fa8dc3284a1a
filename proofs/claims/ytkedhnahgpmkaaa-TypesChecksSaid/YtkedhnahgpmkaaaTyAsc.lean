/- Plain: numbers put into a set and sorted are the numbers added one by one, each in its place. Conditions: none. -/
import Derived.Test.YtkedhnahgpmkaaaTyNums
import Derived.Test.YtkedhnahgpmkaaaTyCol
import Derived.Lib.SlKeysI
namespace Go.Proofs.Ytkedhnahgpmkaaa
open Go.RowKit Go.Maps

namespace Ty
theorem addI_nil (n : Int) : addI [] n = [n] := rfl
theorem addI_cons (x : Int) (l : List Int) (n : Int) : addI (x :: l) n = if x < n then x :: addI l n else if x = n then x :: l else n :: x :: l := by
  have hp : posI (x :: l) n = if x < n then posI l n + 1 else 0 := by
    unfold posI
    rw [List.takeWhile_cons]
    by_cases h : x < n
    · rw [if_pos (by simpa using h), if_pos h, List.length_cons]
    · rw [if_neg (by simpa using h), if_neg h]; rfl
  unfold addI
  rw [hp]
  by_cases h : x < n
  · rw [if_pos h, if_pos h, List.getElem?_cons_succ, List.take_succ_cons, List.drop_succ_cons]
    split <;> simp
  · rw [if_neg h, if_neg h, List.getElem?_cons_zero]
    by_cases h2 : x = n
    · rw [if_pos (by rw [h2]), if_pos h2]
    · rw [if_neg (by intro e; injection e with e; exact h2 e), if_neg h2]
      simp

theorem addI_mem (n y : Int) : ∀ l : List Int, y ∈ addI l n ↔ y ∈ l ∨ y = n
  | [] => by rw [addI_nil]; simp
  | x :: l => by
    rw [addI_cons]
    by_cases h : x < n
    · rw [if_pos h, List.mem_cons, addI_mem n y l, List.mem_cons, or_assoc]
    · rw [if_neg h]
      by_cases h2 : x = n
      · rw [if_pos h2, List.mem_cons]
        constructor
        · exact .inl
        · rintro (h3 | h3)
          · exact h3
          · exact .inl (h3.trans h2.symm)
      · rw [if_neg h2, List.mem_cons]
        constructor
        · rintro (h3 | h3)
          · exact .inr h3
          · exact .inl h3
        · rintro (h3 | h3)
          · exact .inr h3
          · exact .inl h3
theorem addI_asc (n : Int) : ∀ l : List Int, l.Pairwise (· < ·) → (addI l n).Pairwise (· < ·)
  | [], _ => by rw [addI_nil]; simp
  | x :: l, h => by
    obtain ⟨h1, h2⟩ := List.pairwise_cons.mp h
    rw [addI_cons]
    by_cases h3 : x < n
    · rw [if_pos h3]
      refine List.pairwise_cons.mpr ⟨fun y hy => ?_, addI_asc n l h2⟩
      rcases (addI_mem n y l).mp hy with hy | hy
      · exact h1 y hy
      · rw [hy]; exact h3
    · rw [if_neg h3]
      by_cases h4 : x = n
      · rw [if_pos h4]; exact h
      · rw [if_neg h4]
        refine List.pairwise_cons.mpr ⟨fun y hy => ?_, h⟩
        rcases List.mem_cons.mp hy with hy | hy
        · rw [hy]; omega
        · have := h1 y hy; omega
theorem adds_asc : ∀ (l s : List Int), s.Pairwise (· < ·) → (l.foldl addI s).Pairwise (· < ·) ∧ ∀ y, y ∈ l.foldl addI s ↔ y ∈ s ∨ y ∈ l
  | [], s, h => ⟨h, fun y => by simp⟩
  | x :: l, s, h => by
    rw [List.foldl_cons]
    obtain ⟨h1, h2⟩ := adds_asc l (addI s x) (addI_asc x s h)
    refine ⟨h1, fun y => ?_⟩
    rw [h2 y, addI_mem, List.mem_cons, or_assoc]

/-- the numbers of a list, ascending, each once -/
def ascOf (l : List Int) : List Int := l.foldl addI []
theorem asc_asc (l : List Int) : (ascOf l).Pairwise (· < ·) := (adds_asc l [] List.Pairwise.nil).1
theorem asc_mem (l : List Int) (y : Int) : y ∈ ascOf l ↔ y ∈ l := by rw [ascOf, (adds_asc l [] List.Pairwise.nil).2 y]; simp

theorem lit_key (x : Int) : WideAt.IsKeyLit (.int .i64 x) := by simp [WideAt.IsKeyLit]
theorem iset_tidy (l : List Int) : Tidy (iset l) := tidy_setOf _ _ (fun k hk => by obtain ⟨x, _, rfl⟩ := List.mem_map.mp hk; exact lit_key x)
theorem iset_has (l : List Int) (x : Int) : has (iset l) (.int .i64 x) = decide (x ∈ l) := by
  unfold iset
  rw [has_setOf _ _ _ (fun k hk => by obtain ⟨y, _, rfl⟩ := List.mem_map.mp hk; exact lit_key y)]
  rw [Bool.eq_iff_iff, List.any_eq_true, decide_eq_true_iff]
  constructor
  · rintro ⟨k, hk, hs⟩
    obtain ⟨y, hy, rfl⟩ := List.mem_map.mp hk
    have : y = x := by simpa [Lit.sameKey] using hs
    rw [← this]; exact hy
  · intro h
    exact ⟨.int .i64 x, List.mem_map.mpr ⟨x, h, rfl⟩, by simp [Lit.sameKey]⟩
theorem iset_keys : ∀ (l : List Int) (es0 : List (Lit × DataW Unit)), (∀ p ∈ es0, ∃ x, p.1 = .int .i64 x) → ∀ es, (l.map (Lit.int .i64)).foldl (fun (m : DataW Unit) x => m.put x (.lit (.bool true))) (DataW.map es0) = DataW.map es → ∀ p ∈ es, ∃ x, p.1 = .int .i64 x
  | [], es0, h0, es, h => by
    have : es0 = es := by simpa using h
    rw [← this]; exact h0
  | x :: l, es0, h0, es, h => by
    rw [List.map_cons, List.foldl_cons] at h
    have e : (DataW.map es0).put (.int .i64 x) (.lit (.bool true)) = .map (DataW.insert (.int .i64 x, .lit (.bool true)) (es0.filter fun p => !p.1.sameKey (.int .i64 x))) := rfl
    rw [e] at h
    refine iset_keys l _ (fun p hp => ?_) es h
    have hp2 := (Go.WideShapes.insert_perm (.int .i64 x, .lit (.bool true)) (es0.filter fun p => !p.1.sameKey (.int .i64 x))).mem_iff.mp hp
    rcases List.mem_cons.mp hp2 with hp2 | hp2
    · rw [hp2]; exact ⟨x, rfl⟩
    · exact h0 p (List.mem_filter.mp hp2).1
theorem asc_perm (l : List Int) : (ascOf l).Perm (intKeys (iset l)) := by
  obtain ⟨es, hes, hp⟩ := iset_tidy l
  have hk := iset_keys l [] (fun p hp => by cases hp) es hes
  rw [hes]
  refine perm_intKeys hp hk ((asc_asc l).imp (fun h => by omega)) (fun x => ?_)
  rw [← hes, iset_has, asc_mem, decide_eq_true_iff]
theorem sorted_asc {l ss : List Int} (h : ss.Perm (intKeys (iset l))) : ss.mergeSort (fun x y => decide (x ≤ y)) = ascOf l := by
  have h1 := mergeSort_of_perm_i (h.trans (asc_perm l).symm)
  refine h1.trans (List.mergeSort_of_pairwise ((asc_asc l).imp (fun h => ?_)))
  simp only [leI, decide_eq_true_eq]
  omega

/-! collected in one way or the other -/
theorem fr_col {t : Ty} (hg : Good t) : ∀ (k : Nat) (l s : List Int), (wlk frF t k l).foldl addI s = wlk (colF 1) t k (l.foldl addI s) := by
  have h0 : ∀ (t : Ty) (k : Nat) (l s : List Int), (frF t k l).foldl addI s = colF 1 t k (l.foldl addI s) := fun t k l s => by
    unfold frF colF
    by_cases h : t.op = 1 ∧ (k : Int) ≤ t.n
    · rw [if_pos h, if_pos ⟨h.1, .inr h.2⟩, if_pos rfl, List.foldl_append]; rfl
    · rw [if_neg h, if_neg (fun h2 => h ⟨h2.1, by rcases h2.2 with h3 | h3; exact absurd rfl h3; exact h3⟩)]
  induction hg with
  | var op n _ _ _ => intro k l s; rw [wlk_leaf, wlk_leaf, h0]
  | con s' _ _ => intro k l s; rw [wlk_leaf, wlk_leaf, h0]
  | node op x y h hx hy ihx ihy => intro k l s; rw [wlk_node, wlk_node, ihy, ihx, h0]
theorem num_col {op : Int} (hop : op ≠ 1) {t : Ty} (hg : Good t) : ∀ (k : Nat) (l s : List Int), (wlk (numF op) t k l).foldl addI s = wlk (colF op) t k (l.foldl addI s) := by
  have h0 : ∀ (t : Ty) (k : Nat) (l s : List Int), (numF op t k l).foldl addI s = colF op t k (l.foldl addI s) := fun t k l s => by
    unfold numF colF
    by_cases h : t.op = op
    · rw [if_pos h, if_pos ⟨h, .inl hop⟩, if_neg hop, List.foldl_append]; rfl
    · rw [if_neg h, if_neg (fun h2 => h h2.1)]
  induction hg with
  | var op n _ _ _ => intro k l s; rw [wlk_leaf, wlk_leaf, h0]
  | con s' _ _ => intro k l s; rw [wlk_leaf, wlk_leaf, h0]
  | node op x y h hx hy ihx ihy => intro k l s; rw [wlk_node, wlk_node, ihy, ihx, h0]
/-- the numbers of a type's free variables, of its metavariables (6), of its rigid variables (7) -/
def colT (op : Int) (t : Ty) : List Int := wlk (colF op) t 0 []
theorem fr_asc {t : Ty} (hg : Good t) : ascOf (wlk frF t 0 []) = colT 1 t := fr_col hg 0 [] []
theorem num_asc {op : Int} (hop : op ≠ 1) {t : Ty} (hg : Good t) : ascOf (wlk (numF op) t 0 []) = colT op t := num_col hop hg 0 [] []
end Ty
end Go.Proofs.Ytkedhnahgpmkaaa
