/- Plain: shifted there and back; variables put back where they were bound. Conditions: as named. -/
import Derived.Test.YtkedhnahgpmkaaaTyBind
import Derived.Test.YtkedhnahgpmkaaaTyPShift
namespace Go.Proofs.Ytkedhnahgpmkaaa
open Go.RowKit

namespace Ty
theorem reb_st {f : Ty → Nat → Bool → Ty × Bool} (hf : ∀ x k st, (f x k st).2 = true → st = true) {t : Ty} (hg : Good t) : ∀ k st, (reb f t k st).2 = true → st = true := by
  induction hg with
  | var op n h1 h2 h3 => intro k st h; rw [reb_leaf] at h; exact hf _ _ _ h
  | con s h1 h2 => intro k st h; rw [reb_leaf] at h; exact hf _ _ _ h
  | node op x y h hx hy ihx ihy => intro k st h; rw [reb_node] at h; exact ihx _ _ (ihy _ _ h)
theorem shF_st (d f : Int) (x : Ty) (k : Nat) (st : Bool) (h : (shF d f x k st).2 = true) : st = true := by
  unfold shF at h
  by_cases h1 : x.op = 1 ∧ (k : Int) + f ≤ x.n
  · rw [if_pos h1] at h
    rw [Bool.and_eq_true] at h
    exact h.1
  · rw [if_neg h1] at h
    exact h
theorem shF_no {d f op n : Int} {s : List UInt8} {k : Nat} {st : Bool} (h : ¬ (op = 1 ∧ (k : Int) + f ≤ n)) : shF d f (.mk op n s []) k st = (.mk op n s [], st) := if_neg h
theorem shF_yes {d f n : Int} {s : List UInt8} {k : Nat} {st : Bool} (h : (k : Int) + f ≤ n) : shF d f (.mk 1 n s []) k st = (.mk 1 (n + d) s [], st && decide ((k : Int) + f ≤ n + d)) := if_pos ⟨rfl, h⟩
theorem putF_no {l : List Ty} {op n : Int} {s : List UInt8} {k : Nat} {st : Unit} (h : ¬ (op = 1 ∧ (k : Int) ≤ n)) : putF l (.mk op n s []) k st = (.mk op n s [], st) := if_neg h
theorem putF_far {l : List Ty} {n : Int} {s : List UInt8} {k : Nat} {st : Unit} (h : (k : Int) ≤ n) (h2 : (l.length : Int) ≤ n - k) : putF l (.mk 1 n s []) k st = (.mk 1 (n - l.length) s [], st) := by
  unfold putF
  rw [if_pos (show (mk 1 n s []).op = 1 ∧ (k : Int) ≤ (mk 1 n s []).n from ⟨rfl, h⟩), if_pos (show (l.length : Int) ≤ (mk 1 n s []).n - k from h2)]
  rfl
theorem putF_at {l : List Ty} {n : Int} {s : List UInt8} {k i : Nat} {st : Unit} {x : Ty} (h : (k : Int) ≤ n) (h2 : ¬ (l.length : Int) ≤ n - k) (hi : l.length - 1 - (n - k).toNat = i) (hx : l[i]? = some x) : putF l (.mk 1 n s []) k st = ((shiftT k 0 x).1, st) := by
  unfold putF
  rw [if_pos (show (mk 1 n s []).op = 1 ∧ (k : Int) ≤ (mk 1 n s []).n from ⟨rfl, h⟩), if_neg (show ¬ (l.length : Int) ≤ (mk 1 n s []).n - k from h2)]
  show (match l[(l.length - 1 - (n - k).toNat)]? with | some x => ((shiftT k 0 x).1, st) | none => (Ty.mk 1 n s [], st)) = _
  rw [hi, hx]

/-- there and back -/
theorem sh_back (d : Int) (hd : 0 ≤ d) {t : Ty} (hg : Good t) : ∀ (k : Nat), (reb (shF d 0) t k true).2 = true ∧ reb (shF (-d) 0) (reb (shF d 0) t k true).1 k true = (t, true) := by
  induction hg with
  | var op n h1 h2 h3 =>
    intro k
    rw [reb_leaf]
    by_cases h : op = 1 ∧ (k : Int) + 0 ≤ n
    · obtain ⟨rfl, h⟩ := h
      rw [shF_yes h]
      refine ⟨by simp; omega, ?_⟩
      show reb (shF (-d) 0) (.mk 1 (n + d) [] []) k true = _
      rw [reb_leaf, shF_yes (by omega), show n + d + -d = n from by omega, decide_eq_true h]
      rfl
    · rw [shF_no h]
      refine ⟨rfl, ?_⟩
      show reb (shF (-d) 0) (.mk op n [] []) k true = _
      rw [reb_leaf, shF_no h]
  | con s h1 h2 =>
    intro k
    have h : ¬ ((2 : Int) = 1 ∧ (k : Int) + 0 ≤ 0) := fun e => absurd e.1 (by decide)
    rw [reb_leaf, shF_no h]
    refine ⟨rfl, ?_⟩
    show reb (shF (-d) 0) (.mk 2 0 s []) k true = _
    rw [reb_leaf, shF_no h]
  | node op x y h hx hy ihx ihy =>
    intro k
    obtain ⟨x1, x2⟩ := ihx k
    obtain ⟨y1, y2⟩ := ihy (k + undN op)
    rw [reb_node, x1]
    refine ⟨y1, ?_⟩
    show reb (shF (-d) 0) (.mk op 0 [] [(reb (shF d 0) x k true).1, (reb (shF d 0) y (k + undN op) true).1]) k true = _
    rw [reb_node, x2]
    show (Ty.mk op 0 [] [x, (reb (shF (-d) 0) (reb (shF d 0) y (k + undN op) true).1 (k + undN op) true).1], (reb (shF (-d) 0) (reb (shF d 0) y (k + undN op) true).1 (k + undN op) true).2) = _
    rw [y2]
theorem shift_back (d : Int) (hd : 0 ≤ d) {t : Ty} (hg : Good t) : (shiftT d 0 t).2 = true ∧ shiftT (-d) 0 (shiftT d 0 t).1 = (t, true) := sh_back d hd hg 0

/-- types put for variables that do not occur -/
theorem pu_back (l : List Ty) {t : Ty} (hg : Good t) : ∀ (k : Nat) (st : Bool), (reb (putF l) (reb (shF l.length 0) t k st).1 k ()).1 = t := by
  induction hg with
  | var op n h1 h2 h3 =>
    intro k st
    rw [reb_leaf]
    by_cases h : op = 1 ∧ (k : Int) + 0 ≤ n
    · obtain ⟨rfl, h⟩ := h
      rw [shF_yes h]
      show (reb (putF l) (.mk 1 (n + l.length) [] []) k ()).1 = _
      rw [reb_leaf, putF_far (by omega) (by omega), show n + (l.length : Int) - l.length = n from by omega]
    · rw [shF_no h]
      show (reb (putF l) (.mk op n [] []) k ()).1 = _
      rw [reb_leaf, putF_no (by omega)]
  | con s h1 h2 =>
    intro k st
    rw [reb_leaf, shF_no (fun e => absurd e.1 (by decide))]
    show (reb (putF l) (.mk 2 0 s []) k ()).1 = _
    rw [reb_leaf, putF_no (fun e => absurd e.1 (by decide))]
  | node op x y h hx hy ihx ihy =>
    intro k st
    rw [reb_node]
    show (reb (putF l) (.mk op 0 [] [(reb (shF l.length 0) x k st).1, (reb (shF l.length 0) y (k + undN op) (reb (shF l.length 0) x k st).2).1]) k ()).1 = _
    rw [reb_node]
    show Ty.mk op 0 [] [(reb (putF l) (reb (shF l.length 0) x k st).1 k ()).1, (reb (putF l) (reb (shF l.length 0) y (k + undN op) (reb (shF l.length 0) x k st).2).1 (k + undN op) ()).1] = _
    rw [ihx, ihy]
theorem put_back (l : List Ty) {t : Ty} (hg : Good t) : putT l (shiftT l.length 0 t).1 = t := pu_back l hg 0 true

/-- the variables of a kind with these numbers -/
def ownT (op : Int) (l : List Int) : List Ty := l.map fun n => .mk op n [] []
theorem ownT_len (op : Int) (l : List Int) : (ownT op l).length = l.length := by unfold ownT; simp
/-- the variables put for what binding them made -/
theorem bd_back (op : Int) (hop : op = 6 ∨ op = 7) (l : List Int) {t : Ty} (hg : Good t) : ∀ (k : Nat), (reb (putF (ownT op l)) (reb (bdF op l) t k ()).1 k ()).1 = t := by
  induction hg with
  | var op' n h1 h2 h3 =>
    intro k
    rw [reb_leaf]
    unfold bdF
    by_cases h : (mk op' n [] []).op = op ∧ (idxN l (mk op' n [] []).n).isSome = true
    · rw [if_pos h]
      obtain ⟨he, hs⟩ := h
      have he' : op' = op := he
      subst he'
      obtain ⟨i, hi⟩ := Option.isSome_iff_exists.mp hs
      have hi2 : idxN l n = some i := hi
      obtain ⟨e1, e2⟩ := idx_some hi2
      rw [show (mk op' n [] []).n = n from rfl, hi2]
      show (reb (putF (ownT op' l)) (.mk 1 ((l.length : Int) - 1 - (i : Nat) + k) [] []) k ()).1 = _
      rw [reb_leaf, putF_at (i := i) (x := .mk op' n [] []) (by omega) (by rw [ownT_len]; omega) (by rw [ownT_len]; omega) (by unfold ownT; rw [List.getElem?_map, e1]; rfl)]
      unfold shiftT
      rw [reb_leaf, shF_no (by omega)]
    · rw [if_neg h]
      by_cases h' : (mk op' n [] []).op = 1 ∧ (k : Int) ≤ (mk op' n [] []).n
      · rw [if_pos h']
        obtain ⟨he, hk⟩ := h'
        have he' : op' = 1 := he
        subst he'
        have hk' : (k : Int) ≤ n := hk
        show (reb (putF (ownT op l)) (.mk 1 (n + l.length) [] []) k ()).1 = _
        rw [reb_leaf, putF_far (by omega) (by rw [ownT_len]; omega), ownT_len, show n + (l.length : Int) - l.length = n from by omega]
      · rw [if_neg h']
        show (reb (putF (ownT op l)) (.mk op' n [] []) k ()).1 = _
        rw [reb_leaf, putF_no (show ¬ (op' = 1 ∧ (k : Int) ≤ n) from h')]
  | con s h1 h2 =>
    intro k
    rw [reb_leaf]
    unfold bdF
    rw [if_neg (fun e => by have : (2 : Int) = op := e.1; omega), if_neg (fun e => by have : (2 : Int) = 1 := e.1; omega)]
    show (reb (putF (ownT op l)) (.mk 2 0 s []) k ()).1 = _
    rw [reb_leaf, putF_no (fun e => absurd e.1 (by decide))]
  | node op' x y h hx hy ihx ihy =>
    intro k
    rw [reb_node]
    show (reb (putF (ownT op l)) (.mk op' 0 [] [(reb (bdF op l) x k ()).1, (reb (bdF op l) y (k + undN op') ()).1]) k ()).1 = _
    rw [reb_node]
    show Ty.mk op' 0 [] [(reb (putF (ownT op l)) (reb (bdF op l) x k ()).1 k ()).1, (reb (putF (ownT op l)) (reb (bdF op l) y (k + undN op') ()).1 (k + undN op') ()).1] = _
    rw [ihx, ihy]
theorem bind_back (op : Int) (hop : op = 6 ∨ op = 7) (l : List Int) {t : Ty} (hg : Good t) : putT (ownT op l) (bindT op l t) = t := bd_back op hop l hg 0

theorem leaf_proper {op n : Int} (hop : op = 6 ∨ op = 7) (hn : 0 ≤ n ∧ n ≤ 9999) : isProper (.mk op n [] []) = true := by
  unfold isProper
  rw [prop]
  rw [if_neg (by omega)]
  unfold headK
  rw [if_pos (by omega), if_pos ⟨hn.1, hn.2, rfl⟩]
  rfl
theorem own_proper {op : Int} (hop : op = 6 ∨ op = 7) {l : List Int} (h : distB l = true) : propersT (ownT op l) = true := by
  unfold distB at h
  rw [Bool.and_eq_true, Bool.and_eq_true, decide_eq_true_eq] at h
  obtain ⟨h1, h2, _⟩ := h
  unfold propersT
  rw [Bool.and_eq_true, decide_eq_true_eq, ownT_len]
  refine ⟨h1, List.all_eq_true.mpr fun x hx => ?_⟩
  unfold ownT at hx
  obtain ⟨n, hn, rfl⟩ := List.mem_map.mp hx
  have := List.all_eq_true.mp h2 n hn
  rw [Bool.and_eq_true, decide_eq_true_eq, decide_eq_true_eq] at this
  exact leaf_proper hop this
def intT : Ty := .mk 2 0 [73, 110, 116] []
theorem intT_proper : isProper intT = true := by decide +kernel
theorem ints_proper {n : Nat} (h : n ≤ 600) : propersT (List.replicate n intT) = true := by
  unfold propersT
  rw [Bool.and_eq_true, decide_eq_true_eq, List.length_replicate]
  refine ⟨h, List.all_eq_true.mpr fun x hx => ?_⟩
  rw [(List.mem_replicate.mp hx).2]
  exact intT_proper
mutual
theorem same_reflk : ∀ t : Ty, same t t = true
  | .mk o n s a => by
    rw [same]
    simp [sames_reflk a]
theorem sames_reflk : ∀ l : List Ty, sames l l = true
  | [] => by rw [sames]
  | x :: l => by
    rw [sames, same_reflk x, sames_reflk l]
    rfl
end
end Ty
end Go.Proofs.Ytkedhnahgpmkaaa
