/- Whether all kinds of a list of metavariables are proper, as isFormed asks. Conditions: the list lies in memory. -/
import Derived.Test.YtfjgebdpbmnicaaJ43
import Derived.Test.YtfjgebdpbmnicaaJ24
import Derived.Test.YtfjgebdpbmnicaaJ44
namespace Go.Proofs.Ytfjgebdpbmnicaa
open Go.RowKit

namespace Ty

/-- a kind in the row of a list of metavariables, with what stands beside it -/
def MetAt (w : World) (b o : Nat) (k : Ty) : Prop := At w b o k ∧ ∃ (lv : Int) (sol : Bool) (vp : Int) (vq : Int) (vs : ByteArray) (md : Option Addr × Nat × Nat), w.cell? ⟨b, o + 4, none⟩ = some (.int .i64 lv) ∧ w.cell? ⟨b, o + 5, none⟩ = some (.bool sol) ∧ w.cell? ⟨b, o + 6, none⟩ = some (.int .i64 vp) ∧ w.cell? ⟨b, o + 7, none⟩ = some (.int .i64 vq) ∧ w.cell? ⟨b, o + 8, none⟩ = some (.string vs) ∧ w.cell? ⟨b, o + 9, none⟩ = some (.slice md.1 md.2.1 md.2.2)
set_option maxHeartbeats 2000000 in
theorem notp39_any (x : Ty) (b : Option Addr) (c : Nat) (lv : Int) (sol : Bool) (vp : Int) (vq : Int) (vs : ByteArray) (md : Option Addr × Nat × Nat) (w : World) (hv : V w x (.agg #[.int .i64 x.op, .int .i64 x.n, .string x.name, .slice b x.args.length c])) : Calls Try.prog 39 #[.agg #[.int .i64 x.op, .int .i64 x.n, .string x.name, .slice b x.args.length c, .int .i64 lv, .bool sol, .int .i64 vp, .int .i64 vq, .string vs, .slice md.1 md.2.1 md.2.2]] w fun e w' => e = .returned (.bool (!isProper x)) ∧ Below w.heap.size w w' := by
  have hty := fun W (hb : Below w.heap.size w W) => isprop_any x _ W (hv.next hb)
  have c0 := cell_of_row (w.alloc (Obj.cells #[.int .i64 x.op, .int .i64 x.n, .string x.name, .slice b x.args.length c, .int .i64 lv, .bool sol, .int .i64 vp, .int .i64 vq, .string vs, .slice md.1 md.2.1 md.2.2] 92)) w.heap.size 0 _ 92 (0, 0) (heap_alloc_new w _)
  have c1 := cell_of_row (w.alloc (Obj.cells #[.int .i64 x.op, .int .i64 x.n, .string x.name, .slice b x.args.length c, .int .i64 lv, .bool sol, .int .i64 vp, .int .i64 vq, .string vs, .slice md.1 md.2.1 md.2.2] 92)) w.heap.size 1 _ 92 (0, 0) (heap_alloc_new w _)
  have c2 := cell_of_row (w.alloc (Obj.cells #[.int .i64 x.op, .int .i64 x.n, .string x.name, .slice b x.args.length c, .int .i64 lv, .bool sol, .int .i64 vp, .int .i64 vq, .string vs, .slice md.1 md.2.1 md.2.2] 92)) w.heap.size 2 _ 92 (0, 0) (heap_alloc_new w _)
  have c3 := cell_of_row (w.alloc (Obj.cells #[.int .i64 x.op, .int .i64 x.n, .string x.name, .slice b x.args.length c, .int .i64 lv, .bool sol, .int .i64 vp, .int .i64 vq, .string vs, .slice md.1 md.2.1 md.2.2] 92)) w.heap.size 3 _ 92 (0, 0) (heap_alloc_new w _)
  have hb1 : Below w.heap.size w (w.alloc (Obj.cells #[.int .i64 x.op, .int .i64 x.n, .string x.name, .slice b x.args.length c, .int .i64 lv, .bool sol, .int .i64 vp, .int .i64 vq, .string vs, .slice md.1 md.2.1 md.2.2] 92)) := (Below.refl _ _).alloc (Nat.le_refl _) _
  have HC := Lib.hid hty
  have HB := Lib.hid hb1
  clear hty hb1 hv
  generalize isProper x = p at *
  go_enter Try.func39, Try.ntmps39
  go_wp2_with fail
  refine (HC.out _ HB.out).mono ?_
  rintro e w2 ⟨rfl, hb⟩
  have HB2 := Lib.hid (HB.out.trans (hb.mono HB.out.size))
  clear hb
  go_wp2_with fail
  go_ret
  exact ⟨rfl, HB2.out⟩
theorem MetAt.next {w w' : World} (hb : Below w.heap.size w w') {b o : Nat} {k : Ty} (h : MetAt w b o k) : MetAt w' b o k := by
  obtain ⟨h1, lv, sol, vp, vq, vs, md, k4, k5, k6, k7, k8, k9⟩ := h
  exact ⟨h1.next hb, lv, sol, vp, vq, vs, md, keeps hb _ _ k4, keeps hb _ _ k5, keeps hb _ _ k6, keeps hb _ _ k7, keeps hb _ _ k8, keeps hb _ _ k9⟩
set_option maxHeartbeats 4000000 in
theorem index39_any (l : List Ty) (base : Option Addr) (cap : Nat) (w : World) (hl : SlG 10 MetAt w base l) : Calls Try.prog 66 #[.slice base l.length cap, .func (.func 39) #[] #[]] w (IdxP l w) := by
  have hla := hl.1
  unfold maxLen at hla
  obtain ⟨n, hn⟩ : ∃ n, n = l.length := ⟨_, rfl⟩
  rw [← hn] at hla ⊢
  have HN := Lib.hid hn
  have HL := Lib.hid hl
  clear hn hl
  go_enter Try.func66, Try.ntmps66
  go_wp2_with fail
  go_loopw [8] (fun i wr => ∃ j : Nat, j ≤ n ∧ i = .int .i64 j ∧ Below w.heap.size w wr ∧ Hid (∀ k (h : k < l.length), k < j → isProper (l[k]'h) = true)) (fun i _ => n - (intOf i).toNat)
  case atStart => exact ⟨0, Nat.zero_le _, rfl, Below.refl _ _, Lib.hid (fun k _ h => absurd h (Nat.not_lt_zero _))⟩
  case round =>
    obtain ⟨j, hj, rfl, hbl, hall⟩ := hrel
    have HBL := Lib.hid hbl
    clear hbl
    by_cases hlt : j < n
    · have h1 : j < l.length := by rw [← HN.out]; exact hlt
      rcases HL.out.2 with h0 | ⟨g, o, rfl, hrow⟩
      · exact absurd h0 (List.ne_nil_of_length_pos (by omega))
      obtain ⟨hat, lv, sol, vp, vq, vs, md, k4, k5, k6, k7, k8, k9⟩ := (hrow j h1).next HBL.out
      obtain ⟨xb, xc, c0, c1, c2, c3, hvx⟩ := at_v hat
      have HC := Lib.hid (notp39_any _ _ _ lv sol vp vq vs md _ hvx)
      have HF := Lib.hid (fun h => allB_false h1 h)
      have HT := Lib.hid (fun (h : isProper (l[j]'h1) = true) (k : Nat) (h2 : k < l.length) (h3 : k < j + 1) => show isProper (l[k]'h2) = true from by
        by_cases hkj : k = j
        · subst hkj; exact h
        · exact hall.out k h2 (by omega))
      obtain ⟨x, hx⟩ : ∃ x, x = l[j]'h1 := ⟨_, rfl⟩
      rw [← hx] at c0 c1 c2 c3 HC HF HT
      clear hx hvx hrow hat
      generalize hp : isProper x = p at *
      have HP := Lib.hid hp
      clear hp
      generalize x.op = xo at *
      generalize x.n = xn at *
      generalize x.name = xs at *
      generalize x.args.length = xl at *
      cases p with
      | true =>
        go_wp2_with fail
        refine HC.out.mono ?_
        rintro e w2 ⟨rfl, hb2⟩
        have HB2 := Lib.hid (HBL.out.trans (hb2.mono HBL.out.size))
        clear hb2
        go_wp2_with fail
        go_roundw
        case rel => exact ⟨j + 1, by omega, by go_num, HB2.out, Lib.hid (HT.out (by first | rfl | trivial))⟩
        case measure => simp [intOf]; omega
      | false =>
        go_wp2_with fail
        refine HC.out.mono ?_
        rintro e w2 ⟨rfl, hb2⟩
        have HB2 := Lib.hid (HBL.out.trans (hb2.mono HBL.out.size))
        clear hb2
        go_wp2_with fail
        go_ret
        exact ⟨(j : Int), rfl, by rw [HF.out (by first | rfl | trivial)]; simp, HB2.out⟩
    · have HT : Hid (allB l = true) := Lib.hid (allB_true.mpr (fun k h => hall.out k h (by have := HN.out; omega)))
      go_wp2_with fail
      go_ret
      exact ⟨-1, rfl, by rw [HT.out]; rfl, HBL.out⟩
set_option maxHeartbeats 2000000 in
theorem contains39_any (l : List Ty) (base : Option Addr) (cap : Nat) (w : World) (hl : SlG 10 MetAt w base l) : Calls Try.prog 38 #[.slice base l.length cap, .func (.func 39) #[] #[]] w fun e w' => e = .returned (.bool (!(allB l))) ∧ Below w.heap.size w w' := by
  have HC := Lib.hid (index39_any l base cap w hl)
  clear hl
  generalize l.length = n at *
  go_enter Try.func38, Try.ntmps38
  go_wp2_with fail
  refine HC.out.mono ?_
  rintro e w2 ⟨r, rfl, hr, hb⟩
  have HR := Lib.hid hr
  have HB := Lib.hid hb
  clear hr hb
  go_wp2_with fail
  go_ret
  exact ⟨ret_bool HR.out, HB.out⟩
end Ty
end Go.Proofs.Ytfjgebdpbmnicaa

/- What isFormed returns. Conditions: the walker's lists lie in memory. -/
namespace Go.Proofs.Ytfjgebdpbmnicaa
open Go.RowKit

namespace Ty
/-- all kinds of variables are proper, and are not too many -/
def formedB (ctx metas rigids : List Ty) : Bool := decide (ctx.length ≤ 40) && (allB ctx && (allB metas && allB rigids))
set_option maxHeartbeats 8000000 in
theorem isformed_any (E : Nat) (ctx metas rigids : List Ty) (xb mb rb : Option Addr) (xc mc rc : Nat) (w : World) (hc : Sl w xb ctx) (hm : SlG 10 MetAt w mb metas) (hr : SlG 5 RigAt w rb rigids) :
    Calls Try.prog 14 #[.agg #[.pointer (some ⟨E, 0, none⟩), .slice mb metas.length mc, .slice rb rigids.length rc, .slice xb ctx.length xc]] w fun e w' => e = .returned (.bool (formedB ctx metas rigids)) ∧ Below w.heap.size w w' := by
  have hl := hc.1
  unfold maxLen at hl
  have H1 := Lib.hid (fun W (hb : Below w.heap.size w W) => contains37_any ctx xb xc W (hc.next hb))
  have H2 := Lib.hid (fun W (hb : Below w.heap.size w W) => contains39_any metas mb mc W (SlG.next (R := MetAt) (fun _ _ h _ _ _ => MetAt.next h) hb hm))
  have H3 := Lib.hid (fun W (hb : Below w.heap.size w W) => contains41_any rigids rb rc W (SlG.next (R := RigAt) (fun _ _ h _ _ _ => RigAt.next h) hb hr))
  clear hc hm hr
  obtain ⟨xn, hxn⟩ : ∃ n, n = ctx.length := ⟨_, rfl⟩
  obtain ⟨mn, hmn⟩ : ∃ n, n = metas.length := ⟨_, rfl⟩
  obtain ⟨rn, hrn⟩ : ∃ n, n = rigids.length := ⟨_, rfl⟩
  unfold formedB
  rw [← hxn] at hl H1 ⊢
  rw [← hmn] at H2 ⊢
  rw [← hrn] at H3 ⊢
  clear hxn hmn hrn
  have hb1 : Below w.heap.size w (w.alloc (Obj.cells #[.pointer (some ⟨E, 0, none⟩), .slice mb mn mc, .slice rb rn rc, .slice xb xn xc] 61)) := (Below.refl _ _).alloc (Nat.le_refl _) _
  have hx1 : (w.alloc (Obj.cells #[.pointer (some ⟨E, 0, none⟩), .slice mb mn mc, .slice rb rn rc, .slice xb xn xc] 61)).heap[w.heap.size]? = some (Obj.cells #[.pointer (some ⟨E, 0, none⟩), .slice mb mn mc, .slice rb rn rc, .slice xb xn xc] 61) := heap_alloc_new _ _
  obtain ⟨W1, hW1⟩ : ∃ W1, W1 = w.alloc (Obj.cells #[.pointer (some ⟨E, 0, none⟩), .slice mb mn mc, .slice rb rn rc, .slice xb xn xc] 61) := ⟨_, rfl⟩
  have c1 := cell_of_row W1 w.heap.size 1 _ 61 (0, 0) (by rw [hW1]; exact hx1)
  have c2 := cell_of_row W1 w.heap.size 2 _ 61 (0, 0) (by rw [hW1]; exact hx1)
  have c3 := cell_of_row W1 w.heap.size 3 _ 61 (0, 0) (by rw [hW1]; exact hx1)
  have d1 : W1.cell? ⟨w.heap.size, 1, none⟩ = some (.slice mb mn mc) := c1
  have d2 : W1.cell? ⟨w.heap.size, 2, none⟩ = some (.slice rb rn rc) := c2
  have d3 : W1.cell? ⟨w.heap.size, 3, none⟩ = some (.slice xb xn xc) := c3
  clear c1 c2 c3 hx1
  have HB := Lib.hid (show Below w.heap.size w W1 from by rw [hW1]; exact hb1)
  clear hb1
  by_cases h40 : xn ≤ 40
  · have q40 : decide ((xn : Int) ≤ 40) = true := decide_eq_true (by omega)
    rw [decide_eq_true h40]
    clear h40
    generalize allB ctx = p1 at *
    generalize allB metas = p2 at *
    generalize allB rigids = p3 at *
    cases p1 with
    | false =>
      go_enter Try.func14, Try.ntmps14
      go_upto_region 1 with fail
      rw [← hW1]
      clear hW1
      go_wp2_with fail
      refine (H1.out _ HB.out).mono ?_
      rintro e w2 ⟨rfl, hb2⟩
      have HB2 := Lib.hid (HB.out.trans (hb2.mono HB.out.size))
      clear hb2
      go_wp2_with fail
      go_ret
      exact ⟨rfl, HB2.out⟩
    | true =>
      cases p2 with
      | false =>
        go_enter Try.func14, Try.ntmps14
        go_upto_region 1 with fail
        rw [← hW1]
        clear hW1
        go_wp2_with fail
        refine (H1.out _ HB.out).mono ?_
        rintro e w2 ⟨rfl, hb2⟩
        have HB2 := Lib.hid (HB.out.trans (hb2.mono HB.out.size))
        have e1 := keeps hb2 _ _ d1
        have e2 := keeps hb2 _ _ d2
        clear hb2
        go_wp2_with fail
        refine (H2.out _ HB2.out).mono ?_
        rintro e w3 ⟨rfl, hb2⟩
        have HB3 := Lib.hid (HB2.out.trans (hb2.mono HB2.out.size))
        clear hb2
        go_wp2_with fail
        go_ret
        exact ⟨rfl, HB3.out⟩
      | true =>
        go_enter Try.func14, Try.ntmps14
        go_upto_region 1 with fail
        rw [← hW1]
        clear hW1
        go_wp2_with fail
        refine (H1.out _ HB.out).mono ?_
        rintro e w2 ⟨rfl, hb2⟩
        have HB2 := Lib.hid (HB.out.trans (hb2.mono HB.out.size))
        have e1 := keeps hb2 _ _ d1
        have e2 := keeps hb2 _ _ d2
        clear hb2
        go_wp2_with fail
        refine (H2.out _ HB2.out).mono ?_
        rintro e w3 ⟨rfl, hb2⟩
        have HB3 := Lib.hid (HB2.out.trans (hb2.mono HB2.out.size))
        have f2 := keeps hb2 _ _ e2
        clear hb2
        go_wp2_with fail
        refine (H3.out _ HB3.out).mono ?_
        rintro e w4 ⟨rfl, hb2⟩
        have HB4 := Lib.hid (HB3.out.trans (hb2.mono HB3.out.size))
        clear hb2
        go_wp2_with fail
        go_ret
        exact ⟨rfl, HB4.out⟩
  · have q40 : decide ((xn : Int) ≤ 40) = false := decide_eq_false (by omega)
    rw [decide_eq_false h40]
    clear h40
    go_enter Try.func14, Try.ntmps14
    go_upto_region 1 with fail
    rw [← hW1]
    clear hW1
    go_wp2_with fail
    go_ret
    exact ⟨rfl, HB.out⟩
end Ty
end Go.Proofs.Ytfjgebdpbmnicaa
