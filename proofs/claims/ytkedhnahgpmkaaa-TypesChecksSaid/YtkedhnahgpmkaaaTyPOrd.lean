/- What the program's order returns. Conditions: the types lie in memory, are well formed, and have at most 600 nodes. -/
import Derived.Test.YtkedhnahgpmkaaaTyPSize
import Derived.Test.YtkedhnahgpmkaaaTyCmp
namespace Go.Proofs.Ytkedhnahgpmkaaa
open Go.RowKit

namespace Ty
/-- how lists of types are ordered: by the first two that differ, then by their lengths -/
def cfn : List Ty → List Ty → Int
  | [], [] => 0
  | [], _ :: _ => -1
  | _ :: _, [] => 1
  | x :: a, y :: b => if ord x y ≠ 0 then ord x y else cfn a b
theorem cfn_ords : ∀ {a b : List Ty}, a.length = b.length → cfn a b = ords a b
  | [], [], _ => by rw [cfn, ords_nil]
  | [], _ :: _, h => by cases h
  | _ :: _, [], h => by cases h
  | x :: a, y :: b, h => by rw [cfn, ords_cons, cfn_ords (by simpa using h)]
theorem cfn_drop {a b : List Ty} {j : Nat} (h1 : j < a.length) (h2 : j < b.length) : cfn (a.drop j) (b.drop j) = if ord (a[j]'h1) (b[j]'h2) ≠ 0 then ord (a[j]'h1) (b[j]'h2) else cfn (a.drop (j + 1)) (b.drop (j + 1)) := by
  rw [List.drop_eq_getElem_cons h1, List.drop_eq_getElem_cons h2, cfn]
theorem cfn_more {a b : List Ty} {j : Nat} (h1 : j < a.length) (h2 : b.length ≤ j) : cfn (a.drop j) (b.drop j) = 1 := by
  rw [List.drop_eq_getElem_cons h1, List.drop_of_length_le h2, cfn]
theorem cfn_less {a b : List Ty} {j : Nat} (h1 : a.length ≤ j) (h2 : j < b.length) : cfn (a.drop j) (b.drop j) = -1 := by
  rw [List.drop_eq_getElem_cons h2, List.drop_of_length_le h1, cfn]
theorem cfn_end {a b : List Ty} {j : Nat} (h1 : a.length ≤ j) (h2 : b.length ≤ j) : cfn (a.drop j) (b.drop j) = 0 := by
  rw [List.drop_of_length_le h1, List.drop_of_length_le h2, cfn]

def POrdC (t : Ty) : Prop := ∀ (u : Ty) (va vb : Value) (w : World), V w t va → V w u vb → Good t → Good u → nodes t ≤ 600 → nodes u ≤ 600 → Calls Try.prog 80 #[va, vb] w fun e w' => e = .returned (.int .i64 (ord t u)) ∧ Below w.heap.size w w'

set_option maxHeartbeats 16000000 in
theorem cfn_of (a b : List Ty) (hE : ∀ (i : Nat) (h : i < a.length), POrdC (a[i]'h)) (hga : ∀ (i : Nat) (h : i < a.length), Good (a[i]'h) ∧ nodes (a[i]'h) ≤ 600) (hgb : ∀ (i : Nat) (h : i < b.length), Good (b[i]'h) ∧ nodes (b[i]'h) ≤ 600) (base base' : Option Addr) (cap cap' : Nat) (w : World) (ha : Sl w base a) (hb : Sl w base' b) :
    Calls Try.prog 113 #[.slice base a.length cap, .slice base' b.length cap', .func (.func 80) #[] #[]] w fun e w' => e = .returned (.int .i64 (cfn a b)) ∧ Below w.heap.size w w' := by
  obtain ⟨hla, ha⟩ := ha
  obtain ⟨hlb, hb⟩ := hb
  unfold maxLen at hla hlb
  obtain ⟨n, hn⟩ : ∃ n, n = a.length := ⟨_, rfl⟩
  obtain ⟨m, hm⟩ : ∃ m, m = b.length := ⟨_, rfl⟩
  rw [← hn] at hla ⊢
  rw [← hm] at hlb ⊢
  have HE := Lib.hid hE
  have HGA := Lib.hid hga
  have HGB := Lib.hid hgb
  have HN := Lib.hid hn
  have HM := Lib.hid hm
  have HA := Lib.hid ha
  have HB := Lib.hid hb
  clear hE hga hgb hn hm ha hb
  go_enter Try.func113, Try.ntmps113
  go_wp2_with fail
  go_loopw [13] (fun i wr => ∃ j : Nat, j ≤ n ∧ j ≤ m ∧ i = .int .i64 j ∧ Below w.heap.size w wr ∧ Hid (cfn (a.drop j) (b.drop j) = cfn a b)) (fun i _ => n - (intOf i).toNat)
  case atStart => exact ⟨0, Nat.zero_le _, Nat.zero_le _, rfl, Below.refl _ _, Lib.hid (by rw [List.drop_zero, List.drop_zero])⟩
  case round =>
    obtain ⟨j, hj, hjm, rfl, hbl, hall⟩ := hrel
    have HBL := Lib.hid hbl
    clear hbl
    by_cases hlt : j < n
    · have h1 : j < a.length := by rw [← HN.out]; exact hlt
      rcases HA.out with h0 | ⟨g, o, rfl, hra⟩
      · exact absurd h0 (List.ne_nil_of_length_pos (by omega))
      obtain ⟨xb, xc, c0, c1, c2, c3, hvx⟩ := at_v ((row_at h1 hra).next HBL.out)
      by_cases hlm : j < m
      · have h2 : j < b.length := by rw [← HM.out]; exact hlm
        rcases HB.out with h0 | ⟨g', o', rfl, hrb⟩
        · exact absurd h0 (List.ne_nil_of_length_pos (by omega))
        obtain ⟨yb, yc, d0, d1, d2, d3, hvy⟩ := at_v ((row_at h2 hrb).next HBL.out)
        have hdrop := cfn_drop h1 h2
        have hcx := HE.out j h1
        have hgx := HGA.out j h1
        have hgy := HGB.out j h2
        obtain ⟨x, hx⟩ : ∃ x, x = a[j]'h1 := ⟨_, rfl⟩
        obtain ⟨y, hy⟩ : ∃ y, y = b[j]'h2 := ⟨_, rfl⟩
        rw [← hx] at c0 c1 c2 c3 hvx hcx hgx hdrop
        rw [← hy] at d0 d1 d2 d3 hvy hgy hdrop
        have hcall := fun w2 (hb : Below wr.heap.size wr w2) => hcx y _ _ w2 (hvx.next hb) (hvy.next hb) hgx.1 hgy.1 hgx.2 hgy.2
        have hb1 : ∀ o1 o2, Below wr.heap.size wr ((wr.alloc o1).alloc o2) := fun o1 o2 => below_two wr o1 o2
        have hba : Below wr.heap.size wr (wr.alloc (Obj.cells #[.int .i64 x.op, .int .i64 x.n, .string x.name, .slice xb x.args.length xc] 24)) := (Below.refl _ _).alloc (Nat.le_refl _) _
        have d0 := keeps hba _ _ d0
        have d1 := keeps hba _ _ d1
        have d2 := keeps hba _ _ d2
        have d3 := keeps hba _ _ d3
        have HCALL := Lib.hid hcall
        have HB1 := Lib.hid hb1
        have HD := Lib.hid hdrop
        have hq := decide_eq_false (show ¬ (m : Int) ≤ (j : Int) by omega)
        clear hcall hcx hvx hvy hx hy hra hrb hdrop hgx hgy hb1 hba
        generalize x.op = xo at *
        generalize x.n = xn at *
        generalize x.name = xs at *
        generalize x.args.length = xl at *
        generalize y.op = yo at *
        generalize y.n = yn at *
        generalize y.name = ys at *
        generalize y.args.length = yl at *
        generalize ord x y = c at *
        cases hz : (c != 0) with
        | false =>
          have HALL : Hid (cfn (a.drop (j + 1)) (b.drop (j + 1)) = cfn a b) := Lib.hid (by
            have := HD.out
            rw [if_neg (by have : c = 0 := by simpa using hz
                           omega)] at this
            rw [← this, hall.out])
          go_wp2_with fail
          refine (HCALL.out _ (HB1.out _ _)).mono ?_
          rintro e w2 ⟨rfl, hb2⟩
          have HB2 := Lib.hid (HBL.out.trans (((HB1.out _ _).trans (hb2.mono (HB1.out _ _).size)).mono HBL.out.size))
          clear hb2
          go_wp2_with fail
          go_roundw
          case rel => exact ⟨j + 1, by omega, by omega, by go_num, HB2.out, HALL⟩
          case measure => simp [intOf]; omega
        | true =>
          have HO : Hid (cfn a b = c) := Lib.hid (by
            have := HD.out
            rw [if_pos (by simpa using hz)] at this
            rw [← hall.out, this])
          go_wp2_with fail
          refine (HCALL.out _ (HB1.out _ _)).mono ?_
          rintro e w2 ⟨rfl, hb2⟩
          have HB2 := Lib.hid (HBL.out.trans (((HB1.out _ _).trans (hb2.mono (HB1.out _ _).size)).mono HBL.out.size))
          clear hb2
          go_wp2_with fail
          go_ret
          exact ⟨ret_int (by rw [HO.out]), HB2.out⟩
      · have HO : Hid (cfn a b = 1) := Lib.hid (by rw [← hall.out]; exact cfn_more h1 (by rw [← HM.out]; omega))
        have hq := decide_eq_true (show (m : Int) ≤ (j : Int) by omega)
        have HA1 : Hid (∀ o, Below wr.heap.size wr (wr.alloc o)) := Lib.hid (fun o => (Below.refl _ _).alloc (Nat.le_refl _) _)
        clear hvx hra
        generalize (a[j]'h1).op = xo at *
        generalize (a[j]'h1).n = xn at *
        generalize (a[j]'h1).name = xs at *
        generalize (a[j]'h1).args.length = xl at *
        go_wp2_with fail
        go_ret
        exact ⟨ret_int (by rw [HO.out]), HBL.out.trans ((HA1.out _).mono HBL.out.size)⟩
    · by_cases hlm : n < m
      · have HO : Hid (cfn a b = -1) := Lib.hid (by rw [← hall.out]; exact cfn_less (by rw [← HN.out]; omega) (by rw [← HM.out]; omega))
        go_wp2_with fail
        go_ret
        exact ⟨ret_int (by rw [HO.out]), HBL.out⟩
      · have HO : Hid (cfn a b = 0) := Lib.hid (by rw [← hall.out]; exact cfn_end (by rw [← HN.out]; omega) (by rw [← HM.out]; omega))
        go_wp2_with fail
        go_ret
        exact ⟨ret_int (by rw [HO.out]), HBL.out⟩

/-- the order of well-formed types, as it is computed at once from all its parts -/
theorem ord_or (t u : Ty) (hl : t.op = u.op → t.args.length = u.args.length) : ord t u = orI (cmpI (nodes t) (nodes u)) (cmpI t.op u.op) (cmpI t.n u.n) (cmpS t.s u.s) (cfn t.args u.args) := by
  rw [ord_eq]
  unfold orI
  by_cases h : t.op = u.op
  · rw [cfn_ords (hl h)]
  · have : cmpI t.op u.op ≠ 0 := fun e => h (cmpI_zero e)
    rw [if_pos this, if_pos this]
end Ty
end Go.Proofs.Ytkedhnahgpmkaaa
