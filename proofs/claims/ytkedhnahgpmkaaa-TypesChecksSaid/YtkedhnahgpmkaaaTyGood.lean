/- Plain: well-formed types of any size and depth, and how they are built anew by a function of their leaves. Conditions: none. -/
import Derived.Test.YtkedhnahgpmkaaaTyHold
import Derived.Test.YtkedhnahgpmkaaaTySize
namespace Go.Proofs.Ytkedhnahgpmkaaa
open Go.RowKit

namespace Ty
inductive Good : Ty → Prop where
  | var (op n : Int) : (op = 1 ∨ op = 6 ∨ op = 7) → 0 ≤ n → n ≤ 9999 → Good (.mk op n [] [])
  | con (s : List UInt8) : s ≠ [] → s.length ≤ 40 → Good (.mk 2 0 s [])
  | node (op : Int) (x y : Ty) : (op = 3 ∨ op = 4 ∨ op = 5) → Good x → Good y → Good (.mk op 0 [] [x, y])

mutual
theorem good_of_prop : ∀ (t : Ty) (d c : Nat), (prop t d c).1 = true → Good t
  | .mk op n s a, d, c, h => by
    rw [prop] at h
    by_cases h1 : 600 < c + 1 ∨ 40 < d
    · rw [if_pos h1] at h; cases h
    · rw [if_neg h1] at h
      unfold headK at h
      by_cases k1 : op = 1 ∨ op = 6 ∨ op = 7
      · rw [if_pos k1] at h
        by_cases k2 : 0 ≤ n ∧ n ≤ 9999 ∧ s = []
        · rw [if_pos k2] at h
          obtain ⟨k2, k3, rfl⟩ := k2
          simp only at h
          by_cases k4 : a.length = 0
          · obtain rfl : a = [] := by simpa using k4
            exact Good.var op n k1 k2 k3
          · rw [if_neg k4] at h; cases h
        · rw [if_neg k2] at h; cases h
      · rw [if_neg k1] at h
        by_cases k2 : op = 2
        · rw [if_pos k2] at h
          subst k2
          by_cases k3 : n = 0 ∧ s ≠ [] ∧ s.length ≤ 40
          · rw [if_pos k3] at h
            obtain ⟨rfl, k3, k4⟩ := k3
            simp only at h
            by_cases k5 : a.length = 0
            · obtain rfl : a = [] := by simpa using k5
              exact Good.con s k3 k4
            · rw [if_neg k5] at h; cases h
          · rw [if_neg k3] at h; cases h
        · rw [if_neg k2] at h
          by_cases k3 : op = 3 ∨ op = 4 ∨ op = 5
          · rw [if_pos k3] at h
            by_cases k4 : n = 0 ∧ s = []
            · rw [if_pos k4] at h
              obtain ⟨rfl, rfl⟩ := k4
              simp only at h
              by_cases k5 : a.length = 2
              · rw [if_pos k5] at h
                have hall := goods_of_props a (d + 1) (c + 1) h
                match a, k5, hall with
                | [x, y], _, hall => exact Good.node op x y k3 (hall x (by simp)) (hall y (by simp))
              · rw [if_neg k5] at h; cases h
            · rw [if_neg k4] at h; cases h
          · rw [if_neg k3] at h; cases h
theorem goods_of_props : ∀ (l : List Ty) (d c : Nat), (props l d c).1 = true → ∀ x ∈ l, Good x
  | [], _, _, _ => fun x hx => by cases hx
  | y :: l, d, c, h => by
    rw [props] at h
    by_cases h1 : (prop y d c).1 = true
    · rw [if_pos h1] at h
      intro x hx
      rcases List.mem_cons.mp hx with hxy | hx
      · rw [hxy]; exact good_of_prop y d c h1
      · exact goods_of_props l d _ h x hx
    · rw [if_neg h1] at h; exact absurd h h1
end
theorem Good.of {t : Ty} (h : isProper t = true) : Good t := good_of_prop t 1 0 h

/-- how many foralls a type is around its second part -/
def undN (op : Int) : Nat := if op = 4 then 1 else 0
theorem undN_le (op : Int) : undN op ≤ 1 := by unfold undN; split <;> omega

mutual
/-- a type built anew by a function of its leaves, which is told how many foralls are around -/
def reb {σ : Type} (f : Ty → Nat → σ → Ty × σ) : Ty → Nat → σ → Ty × σ
  | .mk op n s a, k, st => if a.isEmpty then f (.mk op n s a) k st else (.mk op 0 [] (rebs f a op 0 k st).1, (rebs f a op 0 k st).2)
def rebs {σ : Type} (f : Ty → Nat → σ → Ty × σ) : List Ty → Int → Nat → Nat → σ → List Ty × σ
  | [], _, _, _, st => ([], st)
  | x :: l, op, i, k, st => ((reb f x (k + i * undN op) st).1 :: (rebs f l op (i + 1) k (reb f x (k + i * undN op) st).2).1, (rebs f l op (i + 1) k (reb f x (k + i * undN op) st).2).2)
end
theorem reb_leaf {σ : Type} (f : Ty → Nat → σ → Ty × σ) (op n : Int) (s : List UInt8) (k : Nat) (st : σ) : reb f (.mk op n s []) k st = f (.mk op n s []) k st := by rw [reb]; rfl
theorem reb_node {σ : Type} (f : Ty → Nat → σ → Ty × σ) (op n : Int) (s : List UInt8) (x y : Ty) (k : Nat) (st : σ) :
    reb f (.mk op n s [x, y]) k st = (.mk op 0 [] [(reb f x k st).1, (reb f y (k + undN op) (reb f x k st).2).1], (reb f y (k + undN op) (reb f x k st).2).2) := by
  rw [reb, rebs, rebs, rebs]
  simp
theorem nodes_node (op n : Int) (s : List UInt8) (x y : Ty) : nodes (.mk op n s [x, y]) = 1 + nodes x + nodes y := by
  rw [nodes, nodess, nodess, nodess]; omega
theorem nodes_pos (t : Ty) : 1 ≤ nodes t := by rw [nodes_eq]; omega

end Ty
end Go.Proofs.Ytkedhnahgpmkaaa
