/- What the program's same and Same return. Conditions: the types lie in memory. -/
import Derived.Test.YtfjgebdpbmnicaaJ05
import Derived.Test.YtfjgebdpbmnicaaJ02
import Derived.Test.YtfjgebdpbmnicaaJ07
namespace Go.Proofs.Ytfjgebdpbmnicaa
open Go.RowKit

namespace Ty
def PSameC (ta : Ty) : Prop := ∀ (tb : Ty) (b o b' o' : Nat) (w : World), At w b o ta → At w b' o' tb → Calls Try.prog 83 #[.pointer (some ⟨b, o, none⟩), .pointer (some ⟨b', o', none⟩)] w fun e w' => e = .returned (.bool (same ta tb)) ∧ Below w.heap.size w w'

theorem below_drewN (w : World) (n : Nat) (base : Nat) : Below base w (w.drewN n) := ⟨rfl, rfl, rfl, Nat.le_refl _, fun _ _ => rfl⟩

set_option maxHeartbeats 16000000 in
theorem psame_step (ta : Ty) (hA : ∀ (i : Nat) (h : i < ta.args.length), PSameC (ta.args[i]'h)) : PSameC ta := by
  intro tb b o b' o' w ha hb
  obtain ⟨ba, ca, c0, c1, c2, c3, _⟩ := at_v ha
  obtain ⟨bb, cb, d0, d1, d2, d3, _⟩ := at_v hb
  have heq := same_eq ta tb
  have hnm : (ta.name.toList == tb.name.toList) = (ta.s == tb.s) := by rw [Lib.toList_data, Lib.toList_data]; unfold name; simp
  have hla : ta.args.length ≤ 9223372036854775807 := by obtain ⟨_, _, _, _, _, _, _, h9⟩ := at_iff.mp ha; have := h9.1; unfold maxLen at this; omega
  have hlb : tb.args.length ≤ 9223372036854775807 := by obtain ⟨_, _, _, _, _, _, _, h9⟩ := at_iff.mp hb; have := h9.1; unfold maxLen at this; omega
  have HAA := Lib.hid ha
  have HBB := Lib.hid hb
  have HEQ := Lib.hid heq
  have HA := Lib.hid hA
  clear heq hA ha hb
  cases h1 : (ta.op == tb.op) with
  | false =>
    have HE : Hid (same ta tb = false) := Lib.hid (by rw [HEQ.out, h1]; rfl)
    have h1' : (ta.op != tb.op) = true := by unfold bne; rw [h1]; rfl
    clear hnm HAA HBB HEQ HA
    generalize ta.args.length = la at *
    generalize tb.args.length = lb at *
    generalize ta.op = oa at *
    generalize tb.op = ob at *
    generalize ta.n = na at *
    generalize tb.n = nb at *
    generalize ta.name = sa at *
    generalize tb.name = sb at *
    clear hla hlb
    go_enter Try.func83, Try.ntmps83
    go_wp2_with fail
    go_quiet (fail)
    go_wp2_with fail
    go_ret
    exact ⟨ret_bool (by rw [HE.out]), below_drewN _ _ _⟩
  | true =>
    have h1' : (ta.op != tb.op) = false := by unfold bne; rw [h1]; rfl
    cases h2 : (ta.n == tb.n) with
    | false =>
      have HE : Hid (same ta tb = false) := Lib.hid (by rw [HEQ.out, h1, h2]; rfl)
      have h2' : (ta.n != tb.n) = true := by unfold bne; rw [h2]; rfl
      clear hnm HAA HBB HEQ HA
      generalize ta.args.length = la at *
      generalize tb.args.length = lb at *
      generalize ta.op = oa at *
      generalize tb.op = ob at *
      generalize ta.n = na at *
      generalize tb.n = nb at *
      generalize ta.name = sa at *
      generalize tb.name = sb at *
      clear hla hlb
      go_enter Try.func83, Try.ntmps83
      go_wp2_with fail
      go_quiet (fail)
      go_wp2_with fail
      go_ret
      exact ⟨ret_bool (by rw [HE.out]), below_drewN _ _ _⟩
    | true =>
      have h2' : (ta.n != tb.n) = false := by unfold bne; rw [h2]; rfl
      cases h3 : (ta.s == tb.s) with
      | false =>
        have HE : Hid (same ta tb = false) := Lib.hid (by rw [HEQ.out, h1, h2, h3]; rfl)
        rw [h3] at hnm
        have h3' : (ta.name.toList != tb.name.toList) = true := by unfold bne; rw [hnm]; rfl
        clear HAA HBB HEQ HA h3
        generalize ta.args.length = la at *
        generalize tb.args.length = lb at *
        generalize ta.op = oa at *
        generalize tb.op = ob at *
        generalize ta.n = na at *
        generalize tb.n = nb at *
        generalize ta.name = sa at *
        generalize tb.name = sb at *
        clear hla hlb
        go_enter Try.func83, Try.ntmps83
        go_wp2_with fail
        go_quiet (fail)
        go_wp2_with fail
        go_ret
        exact ⟨ret_bool (by rw [HE.out]), below_drewN _ _ _⟩
      | true =>
        rw [h3] at hnm
        have h3' : (ta.name.toList != tb.name.toList) = false := by unfold bne; rw [hnm]; rfl
        by_cases hl : ta.args.length = tb.args.length
        · have HE : Hid (same ta tb = sames ta.args tb.args) := Lib.hid (by rw [HEQ.out, h1, h2, h3]; simp)
          have q4 : ((ta.args.length : Int) == (tb.args.length : Int)) = true := by simp; omega
          have q4' : ((ta.args.length : Int) != (tb.args.length : Int)) = false := by simp; omega
          obtain ⟨la, hla0⟩ : ∃ la, la = ta.args.length := ⟨_, rfl⟩
          obtain ⟨lb, hlb0⟩ : ∃ lb, lb = tb.args.length := ⟨_, rfl⟩
          rw [← hla0, ← hlb0] at q4 q4'
          rw [← hla0] at c3 hla
          rw [← hlb0] at d3 hlb
          have HL := Lib.hid hl
          have HLA := Lib.hid hla0
          have HLB := Lib.hid hlb0
          have C3 := Lib.hid c3
          have D3 := Lib.hid d3
          clear HEQ h3 hl hla0 hlb0
          generalize ta.op = oa at *
          generalize tb.op = ob at *
          generalize ta.n = na at *
          generalize tb.n = nb at *
          generalize ta.name = sa at *
          generalize tb.name = sb at *
          go_enter Try.func83, Try.ntmps83
          go_wp2_with fail
          go_quiet (fail)
          go_wp2_with fail
          clear c0 c1 c2 d0 d1 d2 c3 d3 h1 h1' h2 h2' h3' hnm q4 q4'
          go_loopw [55] (fun i wr => ∃ j : Nat, j ≤ la ∧ i = .int .i64 j ∧ Below w.heap.size w wr ∧ Hid (∀ k (h1 : k < ta.args.length) (h2 : k < tb.args.length), k < j → same (ta.args[k]'h1) (tb.args[k]'h2) = true)) (fun i _ => la - (intOf i).toNat)
          case atStart => exact ⟨0, Nat.zero_le _, rfl, below_drewN _ _ _, Lib.hid (fun k _ _ h => absurd h (Nat.not_lt_zero _))⟩
          case round =>
            obtain ⟨j, hj, rfl, hbl, hall⟩ := hrel
            by_cases hlt : j < la
            · have e1 : j < ta.args.length := by rw [← HLA.out]; exact hlt
              have e2 : j < tb.args.length := by rw [← HL.out, ← HLA.out]; exact hlt
              have hlt2 : j < lb := by rw [HLB.out]; exact e2
              have x3 := keeps hbl _ _ C3.out
              have y3 := keeps hbl _ _ D3.out
              obtain ⟨_, _, _, _, b2, c2, z3, hsa⟩ := at_iff.mp (HAA.out.next hbl)
              obtain ⟨_, _, _, _, b4, c4, z4, hsb⟩ := at_iff.mp (HBB.out.next hbl)
              have hb2 : b2 = ba := by rw [x3] at z3; injection z3 with z3; injection z3 with z3; exact z3.symm
              have hb4 : b4 = bb := by rw [y3] at z4; injection z4 with z4; injection z4 with z4; exact z4.symm
              subst hb2 hb4
              rcases hsa.2 with h0 | ⟨g, o2, rfl, hra⟩
              · exact absurd h0 (List.ne_nil_of_length_pos (by omega))
              rcases hsb.2 with h0 | ⟨g', o2', rfl, hrb⟩
              · exact absurd h0 (List.ne_nil_of_length_pos (by omega))
              have hcall : ∀ v, same (ta.args[j]'e1) (tb.args[j]'e2) = v → ∀ w2, Below wr.heap.size wr w2 → Calls Try.prog 83 #[.pointer (some ⟨g, o2 + j * 4, none⟩), .pointer (some ⟨g', o2' + j * 4, none⟩)] w2 fun e w' => e = .returned (.bool v) ∧ Below w2.heap.size w2 w' := fun v hv w2 hb => by
                subst hv
                exact HA.out j e1 _ _ _ _ _ w2 ((row_at e1 hra).next hb) ((row_at e2 hrb).next hb)
              have HC := Lib.hid hcall
              have HBL := Lib.hid hbl
              clear hcall hra hrb hsa hsb z3 z4 hbl
              cases hs : same (ta.args[j]'e1) (tb.args[j]'e2) with
              | true =>
                have HS := Lib.hid (HC.out true hs)
                have HALL : Hid (∀ k (h1 : k < ta.args.length) (h2 : k < tb.args.length), k < j + 1 → same (ta.args[k]'h1) (tb.args[k]'h2) = true) := Lib.hid (fun k h3 h4 hk => by
                  by_cases hkj : k = j
                  · subst hkj; exact hs
                  · exact hall.out k h3 h4 (by omega))
                clear hs HC
                go_wp2_with fail
                first | (go_region_with (go_at_call 83; refine (HS.out _ ((Below.refl _ _).drew)).mono ?_; rintro e w2 ⟨rfl, hb2⟩)) | fail
                all_goals
                  have HB2 : Hid (Below w.heap.size w w2) := Lib.hid (by first | exact HBL.out.trans (hb2.mono HBL.out.size) | exact HBL.out.drew.trans (hb2.mono HBL.out.size))
                  clear hb2
                  go_wp2_with fail
                  go_roundw
                  case rel => exact ⟨j + 1, by omega, by go_num, HB2.out, HALL⟩
                  case measure => simp [intOf]; omega
              | false =>
                have HS := Lib.hid (HC.out false hs)
                have HF : Hid (same ta tb = false) := Lib.hid (by rw [HE.out]; exact sames_false j e1 e2 hs)
                clear hs HC
                go_wp2_with fail
                first | (go_region_with (go_at_call 83; refine (HS.out _ ((Below.refl _ _).drew)).mono ?_; rintro e w2 ⟨rfl, hb2⟩)) | fail
                all_goals
                  have HB2 : Hid (Below w.heap.size w w2) := Lib.hid (by first | exact HBL.out.trans (hb2.mono HBL.out.size) | exact HBL.out.drew.trans (hb2.mono HBL.out.size))
                  clear hb2
                  go_wp2_with fail
                  go_ret
                  exact ⟨ret_bool (by rw [HF.out]), HB2.out⟩
            · have HT : Hid (same ta tb = true) := Lib.hid (by rw [HE.out]; exact sames_true HL.out (fun k h1 h2 => hall.out k h1 h2 (by have := HLA.out; omega)))
              have HBL := Lib.hid hbl
              clear hbl
              go_wp2_with fail
              go_ret
              exact ⟨ret_bool (by rw [HT.out]), HBL.out⟩
        · have HE : Hid (same ta tb = false) := Lib.hid (by rw [HEQ.out, sames_len hl]; simp)
          have q4 : ((ta.args.length : Int) == (tb.args.length : Int)) = false := by simp; omega
          have q4' : ((ta.args.length : Int) != (tb.args.length : Int)) = true := by simp; omega
          clear HAA HBB HEQ HA h3 hl
          generalize ta.args.length = la at *
          generalize tb.args.length = lb at *
          generalize ta.op = oa at *
          generalize tb.op = ob at *
          generalize ta.n = na at *
          generalize tb.n = nb at *
          generalize ta.name = sa at *
          generalize tb.name = sb at *

          go_enter Try.func83, Try.ntmps83
          go_wp2_with fail
          go_quiet (fail)
          go_wp2_with fail
          go_ret
          exact ⟨ret_bool (by rw [HE.out]), below_drewN _ _ _⟩

theorem psame_any : ∀ ta : Ty, PSameC ta := by
  intro ta
  induction hm : SizeOf.sizeOf ta using Nat.strongRecOn generalizing ta with
  | ind m ih => exact psame_step ta (fun i h => ih _ (by rw [← hm]; exact size_arg ta i h) _ rfl)

set_option maxHeartbeats 2000000 in
theorem Same_any (t u : Ty) (va vb : Value) (w : World) (ha : V w t va) (hb : V w u vb) : Calls Try.prog 68 #[va, vb] w fun e w' => e = .returned (.bool (same t u)) ∧ Below w.heap.size w w' := by
  obtain ⟨ba, ca, ea, hsa, hla⟩ := ha
  obtain ⟨bb, cb, eb, hsb, hlb⟩ := hb
  subst ea eb
  have hx := (box_at (cap := ca) hsa hla).next ((Below.refl _ _).alloc (Nat.le_refl _) (Obj.cells #[.int .i64 u.op, .int .i64 u.n, .string u.name, .slice bb u.args.length cb] 36))
  have hy := box_at (cap := cb) (w := w.alloc (Obj.cells #[.int .i64 t.op, .int .i64 t.n, .string t.name, .slice ba t.args.length ca] 36)) hsb (hlb.next ((Below.refl _ _).alloc (Nat.le_refl _) _))
  have hcall := psame_any t u _ _ _ _ _ hx hy
  have hb2 := below_two w (Obj.cells #[.int .i64 t.op, .int .i64 t.n, .string t.name, .slice ba t.args.length ca] 36) (Obj.cells #[.int .i64 u.op, .int .i64 u.n, .string u.name, .slice bb u.args.length cb] 36)
  rw [show (w.alloc (Obj.cells #[.int .i64 t.op, .int .i64 t.n, .string t.name, .slice ba t.args.length ca] 36)).heap.size = w.heap.size + 1 from by simp] at hcall
  have HC := Lib.hid hcall
  have HB := Lib.hid hb2
  clear hcall hb2 hx hy hla hlb hsa hsb
  go_enter Try.func68, Try.ntmps68
  go_wp2_with fail
  refine HC.out.mono ?_
  rintro e w2 ⟨rfl, hb2⟩
  have HB2 := Lib.hid (HB.out.trans (hb2.mono HB.out.size))
  clear hb2
  go_wp2_with fail
  go_ret
  exact ⟨rfl, HB2.out⟩
end Ty
end Go.Proofs.Ytfjgebdpbmnicaa
