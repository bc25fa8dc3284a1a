/- What the reference's Size, under and SameInts return. Conditions: the type lies in memory and has no more nodes than a number can count. -/
import Derived.Test.YtkedhnahgpmkaaaTyMore
import Derived.Deep.QuietTactic
import Derived.BigQuiet
namespace Go.Proofs.Ytkedhnahgpmkaaa
open Go.RowKit

theorem ret_int {k : IntKind} {a b : Int} (h : a = b) : Ending.returned (.int k a) = .returned (.int k b) := by rw [h]

namespace Ty
mutual
def nodes : Ty → Nat
  | .mk _ _ _ a => 1 + nodess a
def nodess : List Ty → Nat
  | [] => 0
  | x :: l => nodes x + nodess l
end
theorem nodes_eq (t : Ty) : nodes t = 1 + nodess t.args := by cases t; rw [nodes]; rfl
theorem nodess_nil : nodess [] = 0 := by rw [nodess]
theorem nodess_cons (x : Ty) (l : List Ty) : nodess (x :: l) = nodes x + nodess l := by rw [nodess]
mutual
theorem prop_nodes : ∀ (t : Ty) (d c : Nat), (prop t d c).1 = true → (prop t d c).2 = c + nodes t
  | .mk op n s a, d, c, h => by
    rw [prop] at h ⊢
    rw [nodes]
    by_cases h1 : 600 < c + 1 ∨ 40 < d
    · rw [if_pos h1] at h; cases h
    · rw [if_neg h1] at h ⊢
      cases hk : headK op n s with
      | none => rw [hk] at h; cases h
      | some k =>
        rw [hk] at h
        simp only at h ⊢
        by_cases h2 : a.length = k
        · rw [if_pos h2] at h ⊢
          rw [props_nodes a (d + 1) (c + 1) h]
          omega
        · rw [if_neg h2] at h; cases h
theorem props_nodes : ∀ (l : List Ty) (d c : Nat), (props l d c).1 = true → (props l d c).2 = c + nodess l
  | [], d, c, _ => by rw [props, nodess]; rfl
  | x :: l, d, c, h => by
    rw [props] at h ⊢
    rw [nodess]
    by_cases h1 : (prop x d c).1 = true
    · rw [if_pos h1] at h ⊢
      rw [props_nodes l d _ h, prop_nodes x d c h1]
      omega
    · rw [if_neg h1] at h; exact absurd h h1
end
theorem proper_nodes (t : Ty) (h : isProper t = true) : nodes t ≤ 600 := by
  have h1 := prop_nodes t 1 0 h
  have h2 := prop_le t 1 0 h
  omega

def SizeC (t : Ty) : Prop := ∀ (v : Value) (w : World), V w t v → nodes t ≤ 1000000 → Calls Try.prog 23 #[v] w fun e w' => e = .returned (.int .i64 (nodes t)) ∧ Below w.heap.size w w'

set_option maxHeartbeats 4000000 in
theorem size_step (t : Ty) (hA : ∀ (i : Nat) (h : i < t.args.length), SizeC (t.args[i]'h)) : SizeC t := by
  intro v w hv hn
  obtain ⟨base, cap, ev, hs, hl⟩ := hv
  subst ev
  have HA := Lib.hid hA
  have HL := Lib.hid hl
  have HNE := Lib.hid (nodes_eq t)
  have HLA : Hid (t.args.length ≤ 9223372036854775807) := Lib.hid (by have := hl.1; unfold maxLen at this; omega)
  have hnn : nodess t.args ≤ 999999 := by rw [nodes_eq] at hn; omega
  have HNN := Lib.hid hnn
  clear hA hl hs hn hnn
  obtain ⟨la, hla⟩ : ∃ la, la = t.args.length := ⟨_, rfl⟩
  rw [← hla] at HLA ⊢
  have HLN := Lib.hid hla
  have hlab := HLA.out
  clear hla
  generalize t.op = op at *
  generalize t.n = nn at *
  generalize t.name = na at *
  go_enter Try.func23, Try.ntmps23
  go_wp2_with fail
  go_loopw [3, 9] (fun s i wr => ∃ (j m : Nat), j ≤ la ∧ i = .int .i64 j ∧ s = .int .i64 m ∧ Below w.heap.size w wr ∧ Hid (m + nodess (t.args.drop j) = 1 + nodess t.args)) (fun _ i _ => la - (intOf i).toNat)
  case atStart => exact ⟨0, 1, Nat.zero_le _, rfl, rfl, (Below.refl _ _).alloc (Nat.le_refl _) _, Lib.hid (by rw [List.drop_zero])⟩
  case round =>
    obtain ⟨j, m, hj, rfl, rfl, hbl, hsum⟩ := hrel
    have HBL := Lib.hid hbl
    clear hbl
    by_cases hlt : j < la
    · have h1 : j < t.args.length := by rw [← HLN.out]; exact hlt
      rcases HL.out.2 with h0 | ⟨g, o, rfl, hrow⟩
      · exact absurd h0 (List.ne_nil_of_length_pos (by omega))
      obtain ⟨xb, xc, c0, c1, c2, c3, hvx⟩ := at_v ((row_at h1 hrow).next HBL.out)
      have hsum2 := hsum.out
      rw [List.drop_eq_getElem_cons h1, nodess_cons] at hsum2
      have hcx := HA.out j h1
      obtain ⟨x, hx⟩ : ∃ x, x = t.args[j]'h1 := ⟨_, rfl⟩
      rw [← hx] at c0 c1 c2 c3 hvx hcx hsum2
      have hnx : nodes x ≤ 1000000 ∧ m + nodes x ≤ 1000000 := by have := HNN.out; omega
      have hcall := fun w2 (hb : Below wr.heap.size wr w2) => hcx _ w2 (hvx.next hb) hnx.1
      have HCALL := Lib.hid hcall
      have HSUM := Lib.hid hsum2
      have hm2 := hnx.2
      clear hcall hcx hvx hx hrow hsum2 hnx
      generalize nodes x = nx at *
      generalize x.op = xo at *
      generalize x.n = xn at *
      generalize x.name = xs at *
      generalize x.args.length = xl at *
      have HA1 : Hid (∀ o, Below wr.heap.size wr (wr.alloc o)) := Lib.hid (fun o => (Below.refl _ _).alloc (Nat.le_refl _) _)
      go_wp2_with fail
      refine (HCALL.out _ (HA1.out _)).mono ?_
      rintro e w2 ⟨rfl, hb2⟩
      have HB2 := Lib.hid (HBL.out.trans (((HA1.out _).trans (hb2.mono (HA1.out _).size)).mono HBL.out.size))
      clear hb2
      go_wp2_with fail
      go_roundw
      case rel => exact ⟨j + 1, m + nx, by omega, by go_num, by go_num, HB2.out, Lib.hid (by have := HSUM.out; omega)⟩
      case measure => simp [intOf]; omega
    · have hm : m = nodes t := by
        have := hsum.out
        rw [List.drop_of_length_le (by rw [← HLN.out]; omega), nodess_nil] at this
        rw [HNE.out]; omega
      have HM := Lib.hid hm
      clear hm
      go_wp2_with fail
      go_ret
      exact ⟨ret_int (by rw [HM.out]), HBL.out⟩

theorem size_any : ∀ t : Ty, SizeC t := by
  intro t
  induction hm : SizeOf.sizeOf t using Nat.strongRecOn generalizing t with
  | ind m ih => exact size_step t (fun i h => ih _ (by rw [← hm]; exact size_arg t i h) _ rfl)

/-- how many variables the part with a number binds -/
def underN (op i : Int) : Int := if op = 4 ∧ i = 1 then 1 else 0

set_option maxHeartbeats 2000000 in
theorem under_any (t : Ty) (v : Value) (i : Int) (w : World) (hv : V w t v) : Calls Try.prog 100 #[v, .int .i64 i] w fun e w' => e = .returned (.int .i64 (underN t.op i)) ∧ Below w.heap.size w w' := by
  obtain ⟨b, c, e, _, _⟩ := hv
  subst e
  generalize t.args.length = la at *
  generalize t.op = op at *
  generalize t.n = nn at *
  generalize t.name = na at *
  by_cases h4 : op = 4
  · have q4 : (op == 4) = true := by simpa using h4
    by_cases h1 : i = 1
    · have q1 : (i == 1) = true := by simpa using h1
      have HX : Hid (underN op i = 1) := Lib.hid (if_pos ⟨h4, h1⟩)
      clear h4 h1
      go_enter Try.func100, Try.ntmps100
      go_wp2_with fail
      go_ret
      exact ⟨ret_int (by rw [HX.out]), (Below.refl _ _).alloc (Nat.le_refl _) _⟩
    · have q1 : (i == 1) = false := by simpa using h1
      have HX : Hid (underN op i = 0) := Lib.hid (if_neg (fun h => h1 h.2))
      clear h4 h1
      go_enter Try.func100, Try.ntmps100
      go_wp2_with fail
      go_ret
      exact ⟨ret_int (by rw [HX.out]), (Below.refl _ _).alloc (Nat.le_refl _) _⟩
  · have q4 : (op == 4) = false := by simpa using h4
    have HX : Hid (underN op i = 0) := Lib.hid (if_neg (fun h => h4 h.1))
    clear h4
    go_enter Try.func100, Try.ntmps100
    go_wp2_with fail
    go_ret
    exact ⟨ret_int (by rw [HX.out]), (Below.refl _ _).alloc (Nat.le_refl _) _⟩

end Ty
end Go.Proofs.Ytkedhnahgpmkaaa
