/- What the program's holds and Type return for any type. Conditions: the type lies in memory; the count lies in a box of its own. -/
import Derived.Test.YtkedhnahgpmkaaaTyForm
import Derived.Test.YtkedhnahgpmkaaaTyPropD
namespace Go.Proofs.Ytkedhnahgpmkaaa
open Go.RowKit

namespace Ty
theorem prop_form (t : Ty) (d c : Nat) : prop t d c = if 600 < c + 1 ∨ 40 < d then (false, c + 1) else if formB t.op t.n t.s t.args.length = true then props t.args (d + 1) (c + 1) else (false, c + 1) := by
  rw [prop_eq]
  by_cases h : 600 < c + 1 ∨ 40 < d
  · rw [if_pos h, if_pos h]
  · rw [if_neg h, if_neg h]
    unfold formB
    cases headK t.op t.n t.s with
    | none => simp
    | some k => by_cases hk : t.args.length = k <;> simp [hk]

theorem hold_entered {w : World} {P0 c : Nat} (hp : PBox w P0 c) :
    w.grownBy (w.setCell ⟨P0, 0, none⟩ (.int .i64 ((c : Int) + 1))) (some P0) ∧ PBox (w.setCell ⟨P0, 0, none⟩ (.int .i64 ((c : Int) + 1))) P0 (c + 1) := by
  have hlt : P0 < w.heap.size := lt_of_block hp
  have hsz : (w.setCell ⟨P0, 0, none⟩ (.int .i64 ((c : Int) + 1))).heap.size = w.heap.size := by simp [World.setCell]
  refine ⟨⟨rfl, rfl, rfl, ?_, fun j hj hne => ?_⟩, ?_⟩
  · omega
  · exact Below.heap_setCell _ _ _ _ (by intro e; exact hne (by rw [e]))
  · show (w.heap.modify P0 _)[P0]? = _
    rw [Array.getElem?_modify, if_pos rfl, hp]
    rfl

def HoldC (t : Ty) : Prop := ∀ (w0 : World) (b o d c P0 : Nat) (w : World), At w0 b o t → w0.heap.size ≤ P0 → Below w0.heap.size w0 w → PBox w P0 c → d ≤ 41 → c ≤ 600 →
  Calls Try.prog 90 #[.pointer (some ⟨b, o, none⟩), .int .i64 d, .pointer (some ⟨P0, 0, none⟩)] w (PropP t d c P0 w)

set_option maxHeartbeats 8000000 in
theorem hold_step (t : Ty) (hA : ∀ (i : Nat) (h : i < t.args.length), HoldC (t.args[i]'h)) : HoldC t := by
  intro w0 b o d c P0 w hat hP hb hp hd hc
  have heq := prop_form t d c
  obtain ⟨m1, m2, m3⟩ := prop_enter hp
  obtain ⟨n1, n2⟩ := hold_entered hp
  have hat1 := hat.next (grown_below hb n1 hP)
  have hfc := fun w2 (h2 : Below w0.heap.size w0 w2) => form_any t b o w2 (hat.next h2)
  have hb1 := grown_below hb n1 hP
  obtain ⟨wa, hwa⟩ : ∃ wa, wa = w.setCell ⟨P0, 0, none⟩ (.int .i64 ((c : Int) + 1)) := ⟨_, rfl⟩
  rw [← hwa] at n1 n2 hat1 hb1
  have p0 : wa.cell? ⟨P0, 0, none⟩ = some (.int .i64 ((c : Int) + 1)) := by
    have := cell_of_row wa P0 0 _ 3 (0, 0) n2
    simpa using this
  have HWA := Lib.hid hwa
  have HFC := Lib.hid (hfc _ hb1)
  have HAT := Lib.hid hat
  have HA := Lib.hid hA
  have HB1 := Lib.hid hb1
  have HEQ := Lib.hid heq
  have N1 := Lib.hid n1
  have N2 := Lib.hid n2
  clear hwa hat hb hb1 heq n1 n2 hp hA hfc
  by_cases ho : 40 < d
  · have q1 : decide ((40 : Int) < (d : Int)) = true := decide_eq_true (by omega)
    have HE : Hid (prop t d c = (false, c + 1)) := Lib.hid (by rw [HEQ.out, if_pos (.inr ho)])
    clear hat1 ho
    go_enter Try.func90, Try.ntmps90
    go_upto_region 2 with fail
    rw [← HWA.out]
    clear m1 m2
    go_wp2_with fail
    go_ret
    exact ⟨ret_bool (by rw [HE.out]), N1.out, by rw [HE.out]; exact N2.out⟩
  · have q1 : decide ((40 : Int) < (d : Int)) = false := decide_eq_false (by omega)
    by_cases h6 : 600 < c + 1
    · have q2 : decide ((600 : Int) < (c : Int) + 1) = true := decide_eq_true (by omega)
      have HE : Hid (prop t d c = (false, c + 1)) := Lib.hid (by rw [HEQ.out, if_pos (.inl h6)])
      clear hat1 ho h6
      go_enter Try.func90, Try.ntmps90
      go_upto_region 2 with fail
      rw [← HWA.out]
      clear m1 m2
      go_wp2_with fail
      go_ret
      exact ⟨ret_bool (by rw [HE.out]), N1.out, by rw [HE.out]; exact N2.out⟩
    · have q2 : decide ((600 : Int) < (c : Int) + 1) = false := decide_eq_false (by omega)
      have heq := HEQ.out
      rw [if_neg (by omega)] at heq
      have ho1 : c + 1 ≤ 600 := by omega
      have ho2 : d ≤ 40 := by omega
      cases hf : formB t.op t.n t.s t.args.length with
      | false =>
        have HE : Hid (prop t d c = (false, c + 1)) := Lib.hid (by rw [heq, hf]; simp)
        rw [hf] at HFC
        clear hat1 ho h6 heq hf
        go_enter Try.func90, Try.ntmps90
        go_upto_region 2 with fail
        rw [← HWA.out]
        clear m1 m2
        go_wp2_with (go_at_call 117; refine HFC.out.mono ?_; rintro e w2 ⟨rfl, rfl⟩)
        go_ret
        exact ⟨ret_bool (by rw [HE.out]), N1.out, by rw [HE.out]; exact N2.out⟩
      | true =>
        have HE : Hid (prop t d c = props t.args (d + 1) (c + 1)) := Lib.hid (by rw [heq, hf]; simp)
        rw [hf] at HFC
        obtain ⟨base, cap, x0, x1, x2, x3, hvv⟩ := at_v hat1
        have hlab : t.args.length ≤ 9223372036854775807 := by obtain ⟨_, _, _, _, _, _, _, h9⟩ := at_iff.mp hat1; have := h9.1; unfold maxLen at this; omega
        obtain ⟨la, hla⟩ : ∃ la, la = t.args.length := ⟨_, rfl⟩
        rw [← hla] at x3 hlab
        have HLN := Lib.hid hla
        clear hat1 ho h6 heq hf hla hvv x0 x1 x2
        go_enter Try.func90, Try.ntmps90
        go_upto_region 2 with fail
        rw [← HWA.out]
        clear m1 m2
        go_wp2_with (go_at_call 117; refine HFC.out.mono ?_; rintro e w2 ⟨rfl, rfl⟩)
        go_loopw [31] (fun i wr => ∃ (j cj : Nat), j ≤ la ∧ i = .int .i64 j ∧ w.grownBy wr (some P0) ∧ Below w0.heap.size w0 wr ∧ PBox wr P0 cj ∧ cj ≤ 600 ∧ Hid (props (t.args.drop j) (d + 1) cj = props t.args (d + 1) (c + 1))) (fun i _ => la - (intOf i).toNat)
        case atStart => exact ⟨0, c + 1, Nat.zero_le _, rfl, N1.out, HB1.out, N2.out, ho1, Lib.hid (by rw [List.drop_zero])⟩
        case round =>
          obtain ⟨j, cj, hj, rfl, hgr, hbw, hpb, hcj, hpr⟩ := hrel
          have HBW := Lib.hid hbw
          by_cases hlt : j < la
          · have h1 : j < t.args.length := by rw [← HLN.out]; exact hlt
            obtain ⟨_, _, _, _, b2, c2, y3, hsl⟩ := at_iff.mp (HAT.out.next HBW.out)
            obtain ⟨_, _, _, _, b3, c3, z3, hsl0⟩ := at_iff.mp HAT.out
            have hbe : b2 = b3 := by
              have := keeps HBW.out _ _ z3
              rw [y3] at this
              injection this with this
              injection this
            rcases hsl0.2 with h0 | ⟨g, o', hg, hrow0⟩
            · exact absurd h0 (List.ne_nil_of_length_pos (by omega))
            rw [hbe, hg, ← HLN.out] at y3
            have hdrop : props (t.args.drop j) (d + 1) cj = if (prop (t.args[j]'h1) (d + 1) cj).1 = true then props (t.args.drop (j + 1)) (d + 1) (prop (t.args[j]'h1) (d + 1) cj).2 else prop (t.args[j]'h1) (d + 1) cj := by rw [List.drop_eq_getElem_cons h1, props_cons]
            have hpl := prop_le (t.args[j]'h1) (d + 1) cj
            have hcall := HA.out j h1 w0 g (o' + j * 4) (d + 1) cj P0 wr (row_at h1 hrow0) hP hbw hpb (by omega) hcj
            rw [show ((d + 1 : Nat) : Int) = (d : Int) + 1 from by omega] at hcall
            have HCALL := Lib.hid hcall
            have HDROP := Lib.hid hdrop
            have HPL := Lib.hid hpl
            have HGR := Lib.hid hgr
            clear hcall hdrop hpl hgr hpb hrow0 hsl hsl0 hbe hg z3 hbw
            obtain ⟨px, hpx⟩ : ∃ px, px = prop (t.args[j]'h1) (d + 1) cj := ⟨_, rfl⟩
            unfold PropP at HCALL
            rw [← hpx] at HCALL HDROP HPL
            clear hpx
            obtain ⟨r, cx⟩ := px
            simp only at HCALL HDROP HPL
            cases r with
            | true =>
              go_wp2_with fail
              refine HCALL.out.mono ?_
              rintro e w2 ⟨rfl, hg2, hp2⟩
              have HG2 := Lib.hid (grown_trans HGR.out hg2)
              have HP2 := Lib.hid hp2
              have HB2 := Lib.hid (grown_below HBW.out hg2 hP)
              clear hg2 hp2
              go_wp2_with fail
              go_roundw
              case rel => exact ⟨j + 1, cx, by omega, by go_num, HG2.out, HB2.out, HP2.out, (by simpa using HPL.out), Lib.hid (by rw [← hpr.out, HDROP.out]; simp)⟩
              case measure => simp [intOf]; omega
            | false =>
              have HF : Hid (prop t d c = (false, cx)) := Lib.hid (by rw [HE.out, ← hpr.out, HDROP.out, if_neg (by simp)])
              go_wp2_with fail
              refine HCALL.out.mono ?_
              rintro e w2 ⟨rfl, hg2, hp2⟩
              have HG2 := Lib.hid (grown_trans HGR.out hg2)
              have HP2 := Lib.hid hp2
              clear hg2 hp2
              go_wp2_with fail
              go_ret
              exact ⟨ret_bool (by rw [HF.out]), HG2.out, by rw [HF.out]; exact HP2.out⟩
          · have HT : Hid (prop t d c = (true, cj)) := Lib.hid (by rw [HE.out, ← hpr.out, List.drop_of_length_le (by rw [← HLN.out]; omega), props_nil])
            have HGR := Lib.hid hgr
            have HPB := Lib.hid hpb
            clear hgr hpb hbw
            go_wp2_with fail
            go_ret
            exact ⟨ret_bool (by rw [HT.out]), HGR.out, by rw [HT.out]; exact HPB.out⟩

theorem hold_any : ∀ t : Ty, HoldC t := by
  intro t
  induction hm : SizeOf.sizeOf t using Nat.strongRecOn generalizing t with
  | ind m ih => exact hold_step t (fun i h => ih _ (by rw [← hm]; exact size_arg t i h) _ rfl)

end Ty
end Go.Proofs.Ytkedhnahgpmkaaa
