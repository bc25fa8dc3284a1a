/- Whether all types of a list are proper, as isFormed asks. Conditions: the list lies in memory. -/
import Derived.Test.YtfjgebdpbmnicaaJ26
import Derived.Test.YtfjgebdpbmnicaaJ16
namespace Go.Proofs.Ytfjgebdpbmnicaa
open Go.RowKit

namespace Ty
set_option maxHeartbeats 2000000 in
theorem notp37_any (x : Ty) (v : Value) (w : World) (hv : V w x v) : Calls Try.prog 37 #[v] w fun e w' => e = .returned (.bool (!isProper x)) ∧ Below w.heap.size w w' := by
  have hty := fun W (hb : Below w.heap.size w W) => isprop_any x v W (hv.next hb)
  obtain ⟨b, c, ev, _, _⟩ := hv
  subst ev
  obtain ⟨c0, c1, c2, c3⟩ := box4 w (.int .i64 x.op) (.int .i64 x.n) (.string x.name) (.slice b x.args.length c)
  have hb1 : Below w.heap.size w (w.alloc (Obj.cells #[.int .i64 x.op, .int .i64 x.n, .string x.name, .slice b x.args.length c] 36)) := (Below.refl _ _).alloc (Nat.le_refl _) _
  have HC := Lib.hid hty
  have HB := Lib.hid hb1
  clear hty hb1
  generalize isProper x = p at *
  go_enter Try.func37, Try.ntmps37
  go_wp2_with fail
  refine (HC.out _ HB.out).mono ?_
  rintro e w2 ⟨rfl, hb⟩
  have HB2 := Lib.hid (HB.out.trans (hb.mono HB.out.size))
  clear hb
  go_wp2_with fail
  go_ret
  exact ⟨rfl, HB2.out⟩

set_option maxHeartbeats 4000000 in
theorem index37_any (l : List Ty) (base : Option Addr) (cap : Nat) (w : World) (hl : Sl w base l) : Calls Try.prog 65 #[.slice base l.length cap, .func (.func 37) #[] #[]] w (IdxP l w) := by
  have hla := hl.1
  unfold maxLen at hla
  obtain ⟨n, hn⟩ : ∃ n, n = l.length := ⟨_, rfl⟩
  rw [← hn] at hla ⊢
  have HN := Lib.hid hn
  have HL := Lib.hid hl
  clear hn hl
  go_enter Try.func65, Try.ntmps65
  go_wp2_with fail
  go_loopw [8] (fun i wr => ∃ j : Nat, j ≤ n ∧ i = .int .i64 j ∧ Below w.heap.size w wr ∧ Hid (∀ k (h : k < l.length), k < j → isProper (l[k]'h) = true)) (fun i _ => n - (intOf i).toNat)
  case atStart => exact ⟨0, Nat.zero_le _, rfl, Below.refl _ _, Lib.hid (fun k _ h => absurd h (Nat.not_lt_zero _))⟩
  case round =>
    obtain ⟨j, hj, rfl, hbl, hall⟩ := hrel
    have HBL := Lib.hid hbl
    clear hbl
    by_cases hlt : j < n
    · have h1 : j < l.length := by rw [← HN.out]; exact hlt
      rcases HL.out.2 with h0 | ⟨g, o, rfl, hrow⟩
      · exact absurd h0 (List.ne_nil_of_length_pos (by omega))
      obtain ⟨xb, xc, c0, c1, c2, c3, hvx⟩ := at_v (row_at h1 (hrow.next HBL.out))
      have HC := Lib.hid (notp37_any _ _ _ hvx)
      have HF := Lib.hid (fun h => allB_false h1 h)
      have HT := Lib.hid (fun (h : isProper (l[j]'h1) = true) (k : Nat) (h2 : k < l.length) (h3 : k < j + 1) => show isProper (l[k]'h2) = true from by
        by_cases hkj : k = j
        · subst hkj; exact h
        · exact hall.out k h2 (by omega))
      obtain ⟨x, hx⟩ : ∃ x, x = l[j]'h1 := ⟨_, rfl⟩
      rw [← hx] at c0 c1 c2 c3 HC HF HT
      clear hx hvx hrow
      generalize hp : isProper x = p at *
      have HP := Lib.hid hp
      clear hp
      generalize x.op = xo at *
      generalize x.n = xn at *
      generalize x.name = xs at *
      generalize x.args.length = xl at *
      cases p with
      | true =>
        go_wp2_with fail
        refine HC.out.mono ?_
        rintro e w2 ⟨rfl, hb2⟩
        have HB2 := Lib.hid (HBL.out.trans (hb2.mono HBL.out.size))
        clear hb2
        go_wp2_with fail
        go_roundw
        case rel => exact ⟨j + 1, by omega, by go_num, HB2.out, Lib.hid (HT.out (by first | rfl | trivial))⟩
        case measure => simp [intOf]; omega
      | false =>
        go_wp2_with fail
        refine HC.out.mono ?_
        rintro e w2 ⟨rfl, hb2⟩
        have HB2 := Lib.hid (HBL.out.trans (hb2.mono HBL.out.size))
        clear hb2
        go_wp2_with fail
        go_ret
        exact ⟨(j : Int), rfl, by rw [HF.out (by first | rfl | trivial)]; simp, HB2.out⟩
    · have HT : Hid (allB l = true) := Lib.hid (allB_true.mpr (fun k h => hall.out k h (by have := HN.out; omega)))
      go_wp2_with fail
      go_ret
      exact ⟨-1, rfl, by rw [HT.out]; rfl, HBL.out⟩

set_option maxHeartbeats 2000000 in
theorem contains37_any (l : List Ty) (base : Option Addr) (cap : Nat) (w : World) (hl : Sl w base l) : Calls Try.prog 36 #[.slice base l.length cap, .func (.func 37) #[] #[]] w fun e w' => e = .returned (.bool (!(allB l))) ∧ Below w.heap.size w w' := by
  have HC := Lib.hid (index37_any l base cap w hl)
  clear hl
  generalize l.length = n at *
  go_enter Try.func36, Try.ntmps36
  go_wp2_with fail
  refine HC.out.mono ?_
  rintro e w2 ⟨r, rfl, hr, hb⟩
  have HR := Lib.hid hr
  have HB := Lib.hid hb
  clear hr hb
  go_wp2_with fail
  go_ret
  exact ⟨ret_bool HR.out, HB.out⟩

end Ty
end Go.Proofs.Ytfjgebdpbmnicaa
