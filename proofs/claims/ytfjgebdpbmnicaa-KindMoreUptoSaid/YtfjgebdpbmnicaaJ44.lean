/- Whether all kinds of a list of rigid variables are proper, as isFormed asks. Conditions: the list lies in memory. -/
import Derived.Test.YtfjgebdpbmnicaaJ43
import Derived.Test.YtfjgebdpbmnicaaJ24
namespace Go.Proofs.Ytfjgebdpbmnicaa
open Go.RowKit

namespace Ty

/-- a kind in the row of a list of rigid variables, with what stands beside it -/
def RigAt (w : World) (b o : Nat) (k : Ty) : Prop := At w b o k ∧ ∃ (lv : Int), w.cell? ⟨b, o + 4, none⟩ = some (.int .i64 lv)
set_option maxHeartbeats 2000000 in
theorem notp41_any (x : Ty) (b : Option Addr) (c : Nat) (lv : Int) (w : World) (hv : V w x (.agg #[.int .i64 x.op, .int .i64 x.n, .string x.name, .slice b x.args.length c])) : Calls Try.prog 41 #[.agg #[.int .i64 x.op, .int .i64 x.n, .string x.name, .slice b x.args.length c, .int .i64 lv]] w fun e w' => e = .returned (.bool (!isProper x)) ∧ Below w.heap.size w w' := by
  have hty := fun W (hb : Below w.heap.size w W) => isprop_any x _ W (hv.next hb)
  have c0 := cell_of_row (w.alloc (Obj.cells #[.int .i64 x.op, .int .i64 x.n, .string x.name, .slice b x.args.length c, .int .i64 lv] 96)) w.heap.size 0 _ 96 (0, 0) (heap_alloc_new w _)
  have c1 := cell_of_row (w.alloc (Obj.cells #[.int .i64 x.op, .int .i64 x.n, .string x.name, .slice b x.args.length c, .int .i64 lv] 96)) w.heap.size 1 _ 96 (0, 0) (heap_alloc_new w _)
  have c2 := cell_of_row (w.alloc (Obj.cells #[.int .i64 x.op, .int .i64 x.n, .string x.name, .slice b x.args.length c, .int .i64 lv] 96)) w.heap.size 2 _ 96 (0, 0) (heap_alloc_new w _)
  have c3 := cell_of_row (w.alloc (Obj.cells #[.int .i64 x.op, .int .i64 x.n, .string x.name, .slice b x.args.length c, .int .i64 lv] 96)) w.heap.size 3 _ 96 (0, 0) (heap_alloc_new w _)
  have hb1 : Below w.heap.size w (w.alloc (Obj.cells #[.int .i64 x.op, .int .i64 x.n, .string x.name, .slice b x.args.length c, .int .i64 lv] 96)) := (Below.refl _ _).alloc (Nat.le_refl _) _
  have HC := Lib.hid hty
  have HB := Lib.hid hb1
  clear hty hb1 hv
  generalize isProper x = p at *
  go_enter Try.func41, Try.ntmps41
  go_wp2_with fail
  refine (HC.out _ HB.out).mono ?_
  rintro e w2 ⟨rfl, hb⟩
  have HB2 := Lib.hid (HB.out.trans (hb.mono HB.out.size))
  clear hb
  go_wp2_with fail
  go_ret
  exact ⟨rfl, HB2.out⟩
theorem RigAt.next {w w' : World} (hb : Below w.heap.size w w') {b o : Nat} {k : Ty} (h : RigAt w b o k) : RigAt w' b o k := by
  obtain ⟨h1, lv, k4⟩ := h
  exact ⟨h1.next hb, lv, keeps hb _ _ k4⟩
set_option maxHeartbeats 4000000 in
theorem index41_any (l : List Ty) (base : Option Addr) (cap : Nat) (w : World) (hl : SlG 5 RigAt w base l) : Calls Try.prog 67 #[.slice base l.length cap, .func (.func 41) #[] #[]] w (IdxP l w) := by
  have hla := hl.1
  unfold maxLen at hla
  obtain ⟨n, hn⟩ : ∃ n, n = l.length := ⟨_, rfl⟩
  rw [← hn] at hla ⊢
  have HN := Lib.hid hn
  have HL := Lib.hid hl
  clear hn hl
  go_enter Try.func67, Try.ntmps67
  go_wp2_with fail
  go_loopw [8] (fun i wr => ∃ j : Nat, j ≤ n ∧ i = .int .i64 j ∧ Below w.heap.size w wr ∧ Hid (∀ k (h : k < l.length), k < j → isProper (l[k]'h) = true)) (fun i _ => n - (intOf i).toNat)
  case atStart => exact ⟨0, Nat.zero_le _, rfl, Below.refl _ _, Lib.hid (fun k _ h => absurd h (Nat.not_lt_zero _))⟩
  case round =>
    obtain ⟨j, hj, rfl, hbl, hall⟩ := hrel
    have HBL := Lib.hid hbl
    clear hbl
    by_cases hlt : j < n
    · have h1 : j < l.length := by rw [← HN.out]; exact hlt
      rcases HL.out.2 with h0 | ⟨g, o, rfl, hrow⟩
      · exact absurd h0 (List.ne_nil_of_length_pos (by omega))
      obtain ⟨hat, lv, k4⟩ := (hrow j h1).next HBL.out
      obtain ⟨xb, xc, c0, c1, c2, c3, hvx⟩ := at_v hat
      have HC := Lib.hid (notp41_any _ _ _ lv _ hvx)
      have HF := Lib.hid (fun h => allB_false h1 h)
      have HT := Lib.hid (fun (h : isProper (l[j]'h1) = true) (k : Nat) (h2 : k < l.length) (h3 : k < j + 1) => show isProper (l[k]'h2) = true from by
        by_cases hkj : k = j
        · subst hkj; exact h
        · exact hall.out k h2 (by omega))
      obtain ⟨x, hx⟩ : ∃ x, x = l[j]'h1 := ⟨_, rfl⟩
      rw [← hx] at c0 c1 c2 c3 HC HF HT
      clear hx hvx hrow hat
      generalize hp : isProper x = p at *
      have HP := Lib.hid hp
      clear hp
      generalize x.op = xo at *
      generalize x.n = xn at *
      generalize x.name = xs at *
      generalize x.args.length = xl at *
      cases p with
      | true =>
        go_wp2_with fail
        refine HC.out.mono ?_
        rintro e w2 ⟨rfl, hb2⟩
        have HB2 := Lib.hid (HBL.out.trans (hb2.mono HBL.out.size))
        clear hb2
        go_wp2_with fail
        go_roundw
        case rel => exact ⟨j + 1, by omega, by go_num, HB2.out, Lib.hid (HT.out (by first | rfl | trivial))⟩
        case measure => simp [intOf]; omega
      | false =>
        go_wp2_with fail
        refine HC.out.mono ?_
        rintro e w2 ⟨rfl, hb2⟩
        have HB2 := Lib.hid (HBL.out.trans (hb2.mono HBL.out.size))
        clear hb2
        go_wp2_with fail
        go_ret
        exact ⟨(j : Int), rfl, by rw [HF.out (by first | rfl | trivial)]; simp, HB2.out⟩
    · have HT : Hid (allB l = true) := Lib.hid (allB_true.mpr (fun k h => hall.out k h (by have := HN.out; omega)))
      go_wp2_with fail
      go_ret
      exact ⟨-1, rfl, by rw [HT.out]; rfl, HBL.out⟩
set_option maxHeartbeats 2000000 in
theorem contains41_any (l : List Ty) (base : Option Addr) (cap : Nat) (w : World) (hl : SlG 5 RigAt w base l) : Calls Try.prog 40 #[.slice base l.length cap, .func (.func 41) #[] #[]] w fun e w' => e = .returned (.bool (!(allB l))) ∧ Below w.heap.size w w' := by
  have HC := Lib.hid (index41_any l base cap w hl)
  clear hl
  generalize l.length = n at *
  go_enter Try.func40, Try.ntmps40
  go_wp2_with fail
  refine HC.out.mono ?_
  rintro e w2 ⟨r, rfl, hr, hb⟩
  have HR := Lib.hid hr
  have HB := Lib.hid hb
  clear hr hb
  go_wp2_with fail
  go_ret
  exact ⟨ret_bool HR.out, HB.out⟩
end Ty
end Go.Proofs.Ytfjgebdpbmnicaa
