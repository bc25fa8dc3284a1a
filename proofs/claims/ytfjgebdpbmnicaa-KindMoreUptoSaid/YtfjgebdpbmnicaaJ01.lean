/- What the reference's Same and SameAll return for types. Conditions: the types lie in memory. -/
import Derived.Test.YtfjgebdpbmnicaaJ00
import Derived.Test.YtfjgebdpbmnicaaProg
import Derived.WalkKit
import Derived.ProofKit
import Derived.WalkMore
import Derived.Lib.Hide
import Derived.Lib.IndexLaws
import Derived.Deep.RegionWith
namespace Go.Proofs.Ytfjgebdpbmnicaa
open Go.RowKit

theorem ret_bool {x y : Bool} (h : x = y) : Ending.returned (.bool x) = .returned (.bool y) := by rw [h]

namespace Ty
mutual
def same : Ty → Ty → Bool
  | .mk o n s a, .mk o' n' s' b => o == o' && (n == n' && (s == s' && sames a b))
def sames : List Ty → List Ty → Bool
  | [], [] => true
  | x :: a, y :: b => same x y && sames a b
  | _, _ => false
end
theorem same_eq (t u : Ty) : same t u = (t.op == u.op && (t.n == u.n && (t.s == u.s && sames t.args u.args))) := by
  cases t; cases u; rw [same]; rfl
theorem sames_len : ∀ {a b : List Ty}, a.length ≠ b.length → sames a b = false
  | [], [], h => absurd rfl h
  | [], _ :: _, _ => by rw [sames]; all_goals simp
  | _ :: _, [], _ => by rw [sames]; all_goals simp
  | x :: a, y :: b, h => by
    rw [sames, sames_len (by simpa using h)]
    simp
theorem sames_true : ∀ {a b : List Ty}, a.length = b.length → (∀ i (h1 : i < a.length) (h2 : i < b.length), same (a[i]'h1) (b[i]'h2) = true) → sames a b = true
  | [], [], _, _ => by rw [sames]
  | [], _ :: _, h, _ => by cases h
  | _ :: _, [], h, _ => by cases h
  | x :: a, y :: b, hl, h => by
    rw [sames, sames_true (by simpa using hl) (fun i h1 h2 => h (i + 1) (by simpa using h1) (by simpa using h2))]
    have := h 0 (by simp) (by simp)
    simpa using this
theorem sames_false : ∀ {a b : List Ty} (i : Nat) (h1 : i < a.length) (h2 : i < b.length), same (a[i]'h1) (b[i]'h2) = false → sames a b = false
  | x :: a, y :: b, 0, _, _, h => by
    rw [sames, show same x y = false from h]
    rfl
  | x :: a, y :: b, i + 1, h1, h2, h => by
    rw [sames, sames_false i (by simpa using h1) (by simpa using h2) h]
    simp

/-- the value that stands at a place -/
theorem at_v {w : World} {b o : Nat} {t : Ty} (h : At w b o t) : ∃ base cap, w.cell? ⟨b, o, none⟩ = some (.int .i64 t.op) ∧ w.cell? ⟨b, o + 1, none⟩ = some (.int .i64 t.n) ∧ w.cell? ⟨b, o + 2, none⟩ = some (.string t.name) ∧ w.cell? ⟨b, o + 3, none⟩ = some (.slice base t.args.length cap) ∧
    V w t (.agg #[.int .i64 t.op, .int .i64 t.n, .string t.name, .slice base t.args.length cap]) := by
  obtain ⟨h0, h1, h2, hs, base, cap, h3, hl⟩ := at_iff.mp h
  exact ⟨base, cap, h0, h1, h2, h3, base, cap, rfl, hs, hl⟩

/-- what Same is to do for one type -/
def SameC (ta : Ty) : Prop := ∀ (tb : Ty) (va vb : Value) (w : World), V w ta va → V w tb vb → Calls Try.prog 19 #[va, vb] w fun e w' => e = .returned (.bool (same ta tb)) ∧ Below w.heap.size w w'

set_option maxHeartbeats 8000000 in
theorem sames_of (a b : List Ty) (hE : ∀ (i : Nat) (h : i < a.length), SameC (a[i]'h)) (base base' : Option Addr) (cap cap' : Nat) (w : World) (ha : Sl w base a) (hb : Sl w base' b) :
    Calls Try.prog 51 #[.slice base a.length cap, .slice base' b.length cap'] w fun e w' => e = .returned (.bool (sames a b)) ∧ Below w.heap.size w w' := by
  obtain ⟨hla, ha⟩ := ha
  obtain ⟨hlb, hb⟩ := hb
  unfold maxLen at hla hlb
  by_cases hl : a.length = b.length
  · obtain ⟨n, hn⟩ : ∃ n, n = a.length := ⟨_, rfl⟩
    have hn' : n = b.length := by omega
    rw [← hn, ← hn']
    rw [← hn] at hla
    have HE := Lib.hid hE
    have HN := Lib.hid hn
    have HN' := Lib.hid hn'
    have HA := Lib.hid ha
    have HB := Lib.hid hb
    clear hE hn hn' ha hb hl hlb
    go_enter Try.func51, Try.ntmps51
    go_wp2_with fail
    go_loopw [13] (fun i wr => ∃ j : Nat, j ≤ n ∧ i = .int .i64 j ∧ Below w.heap.size w wr ∧ Hid (∀ k (h1 : k < a.length) (h2 : k < b.length), k < j → same (a[k]'h1) (b[k]'h2) = true)) (fun i _ => n - (intOf i).toNat)
    case atStart => exact ⟨0, Nat.zero_le _, rfl, Below.refl _ _, Lib.hid (fun k _ _ h => absurd h (Nat.not_lt_zero _))⟩
    case round =>
      obtain ⟨j, hj, rfl, hbl, hall⟩ := hrel
      by_cases hlt : j < n
      · have h1 : j < a.length := by rw [← HN.out]; exact hlt
        have h2 : j < b.length := by rw [← HN'.out]; exact hlt
        rcases HA.out with h0 | ⟨g, o, rfl, hra⟩
        · exact absurd h0 (List.ne_nil_of_length_pos (by omega))
        rcases HB.out with h0 | ⟨g', o', rfl, hrb⟩
        · exact absurd h0 (List.ne_nil_of_length_pos (by omega))
        obtain ⟨ba, ca, c0, c1, c2, c3, hva⟩ := at_v (row_at h1 (hra.next hbl))
        obtain ⟨bb, cb, d0, d1, d2, d3, hvb⟩ := at_v (row_at h2 (hrb.next hbl))
        have HC := Lib.hid (HE.out j h1)
        have HBL := Lib.hid hbl
        have HVA := Lib.hid hva
        have HVB := Lib.hid hvb
        obtain ⟨ta, hta⟩ : ∃ ta, ta = a[j]'h1 := ⟨_, rfl⟩
        obtain ⟨tb, htb⟩ : ∃ tb, tb = b[j]'h2 := ⟨_, rfl⟩
        rw [← hta] at HC HVA c0 c1 c2 c3
        rw [← htb] at HVB d0 d1 d2 d3
        have HTA := Lib.hid hta
        have HTB := Lib.hid htb
        clear hva hvb hbl hta htb hra hrb
        have hsv : ∀ v, same ta tb = v → ∀ w2, Below wr.heap.size wr w2 → Calls Try.prog 19 #[.agg #[.int .i64 ta.op, .int .i64 ta.n, .string ta.name, .slice ba ta.args.length ca], .agg #[.int .i64 tb.op, .int .i64 tb.n, .string tb.name, .slice bb tb.args.length cb]] w2 fun e w' => e = .returned (.bool v) ∧ Below w2.heap.size w2 w' := fun v hv w2 hb => by
          subst hv
          exact HC.out tb _ _ w2 (HVA.out.next hb) (HVB.out.next hb)
        have HSV := Lib.hid hsv
        clear hsv HC HVA HVB
        generalize ta.args.length = la at *
        generalize tb.args.length = lb at *
        generalize ta.op = oa at *
        generalize tb.op = ob at *
        generalize ta.n = na at *
        generalize tb.n = nb at *
        generalize ta.name = sa at *
        generalize tb.name = sb at *
        cases hs : same ta tb with
        | true =>
          have HS := Lib.hid (HSV.out true hs)
          have HALL : Hid (∀ k (h1 : k < a.length) (h2 : k < b.length), k < j + 1 → same (a[k]'h1) (b[k]'h2) = true) := Lib.hid (fun k h3 h4 hk => by
            by_cases hkj : k = j
            · subst hkj
              rw [← HTA.out, ← HTB.out]; exact hs
            · exact hall.out k h3 h4 (by omega))
          clear hs HSV
          go_wp2_with fail
          first | (go_region_with (go_at_call 19; refine (HS.out _ ((Below.refl _ _).drew)).mono ?_; rintro e w2 ⟨rfl, hb2⟩)) | fail
          all_goals
            have HB2 : Hid (Below w.heap.size w w2) := Lib.hid (by first | exact HBL.out.trans (hb2.mono HBL.out.size) | exact HBL.out.drew.trans (hb2.mono HBL.out.size))
            clear hb2
            go_wp2_with fail
            go_roundw
            case rel => exact ⟨j + 1, by omega, by go_num, HB2.out, HALL⟩
            case measure => simp [intOf]; omega
        | false =>
          have HS := Lib.hid (HSV.out false hs)
          have HF : Hid (sames a b = false) := Lib.hid (sames_false j h1 h2 (by rw [← HTA.out, ← HTB.out]; exact hs))
          clear hs HSV
          go_wp2_with fail
          first | (go_region_with (go_at_call 19; refine (HS.out _ ((Below.refl _ _).drew)).mono ?_; rintro e w2 ⟨rfl, hb2⟩)) | fail
          all_goals
            have HB2 : Hid (Below w.heap.size w w2) := Lib.hid (by first | exact HBL.out.trans (hb2.mono HBL.out.size) | exact HBL.out.drew.trans (hb2.mono HBL.out.size))
            clear hb2
            go_wp2_with fail
            go_ret
            exact ⟨ret_bool (by rw [HF.out]), HB2.out⟩
      · have HT : Hid (sames a b = true) := Lib.hid (sames_true (by rw [← HN.out, ← HN'.out]) (fun k h1 h2 => hall.out k h1 h2 (by have := HN.out; omega)))
        have HBL := Lib.hid hbl
        clear hbl
        go_wp2_with fail
        go_ret
        exact ⟨ret_bool (by rw [HT.out]), HBL.out⟩
  · have HF : Hid (sames a b = false) := Lib.hid (sames_len hl)
    have hne : ((a.length : Int) != (b.length : Int)) = true := by simp; omega
    clear hE ha hb hl
    generalize a.length = n at *
    generalize b.length = m at *
    go_enter Try.func51, Try.ntmps51
    go_wp2_with fail
    go_ret
    exact ⟨ret_bool (by rw [HF.out]), Below.refl _ _⟩

set_option maxHeartbeats 8000000 in
theorem same_step (ta : Ty) (hA : ∀ (i : Nat) (h : i < ta.args.length), SameC (ta.args[i]'h)) : SameC ta := by
  intro tb va vb w ⟨ba, ca, ea, hsa, hla⟩ ⟨bb, cb, eb, hsb, hlb⟩
  subst ea eb
  have HSA := Lib.hid (fun w2 (hb : Below w.heap.size w w2) => sames_of ta.args tb.args hA ba bb ca cb w2 (hla.next hb) (hlb.next hb))
  have heq := same_eq ta tb
  have hnm : (ta.name.toList == tb.name.toList) = (ta.s == tb.s) := by
    rw [Lib.toList_data, Lib.toList_data]
    unfold name
    simp
  clear hla hlb hsa hsb hA
  generalize sames ta.args tb.args = r at *
  generalize ta.args.length = la at *
  generalize tb.args.length = lb at *
  generalize ta.op = oa at *
  generalize tb.op = ob at *
  generalize ta.n = na at *
  generalize tb.n = nb at *
  generalize ta.name = sa at *
  generalize tb.name = sb at *
  generalize hq : (ta.s == tb.s) = q at *
  have HEQ := Lib.hid heq
  clear heq hq
  cases h1 : (oa == ob) with
  | false =>
    have HE : Hid (same ta tb = false) := Lib.hid (by rw [HEQ.out, h1]; rfl)
    go_enter Try.func19, Try.ntmps19
    go_wp2_with fail
    go_ret
    exact ⟨ret_bool (by rw [HE.out]), ((Below.refl _ _).alloc (Nat.le_refl _) _).alloc (by simp) _⟩
  | true =>
    cases h2 : (na == nb) with
    | false =>
      have HE : Hid (same ta tb = false) := Lib.hid (by rw [HEQ.out, h1, h2]; rfl)
      go_enter Try.func19, Try.ntmps19
      go_wp2_with fail
      go_ret
      exact ⟨ret_bool (by rw [HE.out]), ((Below.refl _ _).alloc (Nat.le_refl _) _).alloc (by simp) _⟩
    | true =>
      cases q with
      | false =>
        have HE : Hid (same ta tb = false) := Lib.hid (by rw [HEQ.out, h1, h2]; rfl)
        go_enter Try.func19, Try.ntmps19
        go_wp2_with fail
        go_ret
        exact ⟨ret_bool (by rw [HE.out]), ((Below.refl _ _).alloc (Nat.le_refl _) _).alloc (by simp) _⟩
      | true =>
        have HE : Hid (same ta tb = r) := Lib.hid (by rw [HEQ.out, h1, h2]; simp)
        have hb0 : Hid (∀ o1 o2, Below w.heap.size w ((w.alloc o1).alloc o2)) := Lib.hid (fun o1 o2 => ((Below.refl _ _).alloc (Nat.le_refl _) _).alloc (by simp) _)
        go_enter Try.func19, Try.ntmps19
        go_wp2_with fail
        refine (HSA.out _ (hb0.out _ _)).mono ?_
        rintro e w2 ⟨rfl, hb2⟩
        have HB2 : Hid (Below w.heap.size w w2) := Lib.hid ((hb0.out _ _).trans (hb2.mono (hb0.out _ _).size))
        clear hb2
        go_wp2_with fail
        go_ret
        exact ⟨ret_bool (by rw [HE.out]), HB2.out⟩

theorem same_any : ∀ ta : Ty, SameC ta := by
  intro ta
  induction hm : SizeOf.sizeOf ta using Nat.strongRecOn generalizing ta with
  | ind m ih =>
    refine same_step ta (fun i h => ih (SizeOf.sizeOf (ta.args[i]'h)) ?_ _ rfl)
    have hmem : ta.args[i]'h ∈ ta.args := List.getElem_mem h
    have h1 := List.sizeOf_lt_of_mem hmem
    subst hm
    cases ta with
    | mk o n s a =>
      have h2 : SizeOf.sizeOf (Ty.mk o n s a) = 1 + SizeOf.sizeOf o + SizeOf.sizeOf n + SizeOf.sizeOf s + SizeOf.sizeOf a := by simp
      have h3 : (Ty.mk o n s a).args = a := rfl
      simp only [h3] at h1 ⊢
      omega

theorem sames_any (a b : List Ty) (base base' : Option Addr) (cap cap' : Nat) (w : World) (ha : Sl w base a) (hb : Sl w base' b) :
    Calls Try.prog 51 #[.slice base a.length cap, .slice base' b.length cap'] w fun e w' => e = .returned (.bool (sames a b)) ∧ Below w.heap.size w w' :=
  sames_of a b (fun _ _ => same_any _) base base' cap cap' w ha hb

end Ty
end Go.Proofs.Ytfjgebdpbmnicaa
