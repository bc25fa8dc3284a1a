/- Plain: a list of distinct numbers as a map from each to its place from the end; what is done with a leaf when variables are bound. Conditions: none. -/
import Derived.Test.YtkedhnahgpmkaaaTyNums
namespace Go.Proofs.Ytkedhnahgpmkaaa
open Go.RowKit Go.WideMaps Go.Maps

namespace Ty
/-- each number of a list, the last one first, leads to how many stand behind it -/
def msetR (m : Int) : List Int → DataW Unit
  | [] => .map []
  | x :: r => (msetR m r).put (.int .i64 x) (.lit (.int .i64 (m - 1 - r.length)))
def mset (m : Int) (l : List Int) : DataW Unit := msetR m l.reverse
theorem mset_snoc (m : Int) (l : List Int) (x : Int) : mset m (l ++ [x]) = (mset m l).put (.int .i64 x) (.lit (.int .i64 (m - 1 - l.length))) := by
  unfold mset
  rw [List.reverse_append, List.reverse_cons, List.reverse_nil, List.nil_append, List.singleton_append, msetR, List.length_reverse]
theorem msetR_map (m : Int) : ∀ r : List Int, IsMap (msetR m r)
  | [] => isMap_empty
  | x :: r => by rw [msetR]; exact (msetR_map m r).put _ _
theorem ikey (x : Int) : WideAt.IsKeyLit (.int .i64 x) := by simp [WideAt.IsKeyLit]
theorem ikey_ne {x y : Int} (h : x ≠ y) : (Lit.int .i64 x) ≠ .int .i64 y := fun e => h (by injection e)
theorem msetR_has (m n : Int) : ∀ r : List Int, has (msetR m r) (.int .i64 n) = decide (n ∈ r)
  | [] => by simp [msetR, has_eq]
  | x :: r => by
    rw [msetR]
    by_cases h : n = x
    · subst h
      rw [has_put_same (msetR_map m r) (ikey n)]
      simp
    · rw [has_put_other (ikey_ne h), msetR_has m n r]
      simp [h]
theorem mset_has (m n : Int) (l : List Int) : has (mset m l) (.int .i64 n) = decide (n ∈ l) := by unfold mset; rw [msetR_has]; simp
theorem msetR_at (m n : Int) (z : DataW Unit) : ∀ (r : List Int) (i : Nat), r.Nodup → r.reverse[i]? = some n → (msetR m r).atKey (.int .i64 n) z = .lit (.int .i64 (m - 1 - i))
  | [], i, _, h => by simp at h
  | x :: r, i, hnd, h => by
    rw [List.reverse_cons] at h
    obtain ⟨hx, hr⟩ := List.nodup_cons.mp hnd
    rw [msetR]
    by_cases hi : i < r.reverse.length
    · rw [List.getElem?_append_left hi] at h
      have hmem : n ∈ r := by
        have := List.mem_of_getElem? h
        simpa using this
      have hne : n ≠ x := fun e => hx (by rw [← e]; exact hmem)
      rw [atKey_put_other (ikey_ne hne)]
      exact msetR_at m n z r i hr h
    · rw [List.getElem?_append_right (by omega)] at h
      have h0 : i - r.reverse.length = 0 := by
        rcases Nat.eq_zero_or_pos (i - r.reverse.length) with h1 | h1
        · exact h1
        · rw [List.getElem?_eq_none (by simp; simp at h1; omega)] at h; cases h
      rw [h0] at h
      have hn : x = n := by simpa using h
      subst hn
      rw [atKey_put_same (msetR_map m r) (ikey x), show i = r.length from by simp at h0 hi; omega]
theorem mset_at {m n : Int} {l : List Int} {i : Nat} (z : DataW Unit) (hnd : l.Nodup) (h : l[i]? = some n) : (mset m l).atKey (.int .i64 n) z = .lit (.int .i64 (m - 1 - i)) := by
  unfold mset
  exact msetR_at m n z l.reverse i (List.pairwise_reverse.mpr (hnd.imp (fun h => Ne.symm h))) (by rw [List.reverse_reverse]; exact h)

/-- where a number stands -/
def idxN (l : List Int) (n : Int) : Option Nat := l.findIdx? (fun x => x == n)
theorem idx_none {l : List Int} {n : Int} : idxN l n = none ↔ n ∉ l := by
  unfold idxN
  rw [List.findIdx?_eq_none_iff]
  constructor
  · intro h hm
    have := h n hm
    simp at this
  · intro h x hx
    have : x ≠ n := fun e => h (by rw [← e]; exact hx)
    simpa using this
theorem idx_some {l : List Int} {n : Int} {i : Nat} (h : idxN l n = some i) : l[i]? = some n ∧ i < l.length := by
  unfold idxN at h
  obtain ⟨hi, hp, _⟩ := List.findIdx?_eq_some_iff_getElem.mp h
  refine ⟨?_, hi⟩
  rw [List.getElem?_eq_getElem hi]
  have : l[i] = n := by simpa using hp
  rw [this]
theorem idx_at {l : List Int} {n : Int} {i : Nat} (hi : i < l.length) (h : l[i]'hi = n) (hb : ∀ k (hk : k < i), l[k]'(by omega) ≠ n) : idxN l n = some i := by
  unfold idxN
  refine List.findIdx?_eq_some_iff_getElem.mpr ⟨hi, by simpa using h, fun k hk => ?_⟩
  have := hb k hk
  simpa using this

/-- what is done with a leaf when variables of a kind are bound -/
def bdF (op : Int) (l : List Int) (t : Ty) (k : Nat) (_ : Unit) : Ty × Unit :=
  if t.op = op ∧ (idxN l t.n).isSome = true then (.mk 1 ((l.length : Int) - 1 - ((idxN l t.n).getD 0 : Nat) + k) [] [], ())
  else if t.op = 1 ∧ (k : Int) ≤ t.n then (.mk 1 (t.n + l.length) t.s [], ()) else (t, ())
/-- numbers of variables, no two the same, not too many -/
def distB (l : List Int) : Bool := decide (l.length ≤ 600) && (l.all (fun n => decide (0 ≤ n) && decide (n ≤ 9999)) && decide l.Nodup)
end Ty
end Go.Proofs.Ytkedhnahgpmkaaa
