/- What the reference's proper returns, at types with the operators 1, 6 and 7. Conditions: the type lies in memory; the count lies in a box of its own. -/
import Derived.Test.YtfjgebdpbmnicaaJ02
import Derived.Test.YtfjgebdpbmnicaaJ03
namespace Go.Proofs.Ytfjgebdpbmnicaa
open Go.RowKit

namespace Ty
end Ty
end Go.Proofs.Ytfjgebdpbmnicaa

/- What the reference's proper returns, at types with the operators 2. Conditions: the type lies in memory; the count lies in a box of its own. -/
namespace Go.Proofs.Ytfjgebdpbmnicaa
open Go.RowKit

namespace Ty
end Ty
end Go.Proofs.Ytfjgebdpbmnicaa

/- What the reference's proper returns, at types with the operators 3, 4 and 5. Conditions: the type lies in memory; the count lies in a box of its own. -/
namespace Go.Proofs.Ytfjgebdpbmnicaa
open Go.RowKit

namespace Ty
end Ty
end Go.Proofs.Ytfjgebdpbmnicaa

/- What the reference's proper and Proper return for any type. Conditions: the type lies in memory. -/
namespace Go.Proofs.Ytfjgebdpbmnicaa
open Go.RowKit

namespace Ty
theorem size_arg (t : Ty) (i : Nat) (h : i < t.args.length) : SizeOf.sizeOf (t.args[i]'h) < SizeOf.sizeOf t := by
  have h1 := List.sizeOf_lt_of_mem (List.getElem_mem h)
  cases t with
  | mk o n s a =>
    have h2 : SizeOf.sizeOf (Ty.mk o n s a) = 1 + SizeOf.sizeOf o + SizeOf.sizeOf n + SizeOf.sizeOf s + SizeOf.sizeOf a := by simp
    have h3 : (Ty.mk o n s a).args = a := rfl
    simp only [h3] at h1 ⊢
    omega

/-- a type is proper -/
def isProper (t : Ty) : Bool := (prop t 1 0).1

end Ty
end Go.Proofs.Ytfjgebdpbmnicaa

/- What the program's holds and Type return for any type. Conditions: the type lies in memory; the count lies in a box of its own. -/
namespace Go.Proofs.Ytfjgebdpbmnicaa
open Go.RowKit

namespace Ty
theorem prop_form (t : Ty) (d c : Nat) : prop t d c = if 600 < c + 1 ∨ 40 < d then (false, c + 1) else if formB t.op t.n t.s t.args.length = true then props t.args (d + 1) (c + 1) else (false, c + 1) := by
  rw [prop_eq]
  by_cases h : 600 < c + 1 ∨ 40 < d
  · rw [if_pos h, if_pos h]
  · rw [if_neg h, if_neg h]
    unfold formB
    cases headK t.op t.n t.s with
    | none => simp
    | some k => by_cases hk : t.args.length = k <;> simp [hk]

theorem hold_entered {w : World} {P0 c : Nat} (hp : PBox w P0 c) :
    w.grownBy (w.setCell ⟨P0, 0, none⟩ (.int .i64 ((c : Int) + 1))) (some P0) ∧ PBox (w.setCell ⟨P0, 0, none⟩ (.int .i64 ((c : Int) + 1))) P0 (c + 1) := by
  have hlt : P0 < w.heap.size := lt_of_block hp
  have hsz : (w.setCell ⟨P0, 0, none⟩ (.int .i64 ((c : Int) + 1))).heap.size = w.heap.size := by simp [World.setCell]
  refine ⟨⟨rfl, rfl, rfl, ?_, fun j hj hne => ?_⟩, ?_⟩
  · omega
  · exact Below.heap_setCell _ _ _ _ (by intro e; exact hne (by rw [e]))
  · show (w.heap.modify P0 _)[P0]? = _
    rw [Array.getElem?_modify, if_pos rfl, hp]
    rfl

def HoldC (t : Ty) : Prop := ∀ (w0 : World) (b o d c P0 : Nat) (w : World), At w0 b o t → w0.heap.size ≤ P0 → Below w0.heap.size w0 w → PBox w P0 c → d ≤ 41 → c ≤ 600 →
  Calls Try.prog 77 #[.pointer (some ⟨b, o, none⟩), .int .i64 d, .pointer (some ⟨P0, 0, none⟩)] w (PropP t d c P0 w)

set_option maxHeartbeats 8000000 in
theorem hold_step (t : Ty) (hA : ∀ (i : Nat) (h : i < t.args.length), HoldC (t.args[i]'h)) : HoldC t := by
  intro w0 b o d c P0 w hat hP hb hp hd hc
  have heq := prop_form t d c
  obtain ⟨m1, m2, m3⟩ := prop_enter hp
  obtain ⟨n1, n2⟩ := hold_entered hp
  have hat1 := hat.next (grown_below hb n1 hP)
  have hfc := fun w2 (h2 : Below w0.heap.size w0 w2) => form_any t b o w2 (hat.next h2)
  have hb1 := grown_below hb n1 hP
  obtain ⟨wa, hwa⟩ : ∃ wa, wa = w.setCell ⟨P0, 0, none⟩ (.int .i64 ((c : Int) + 1)) := ⟨_, rfl⟩
  rw [← hwa] at n1 n2 hat1 hb1
  have p0 : wa.cell? ⟨P0, 0, none⟩ = some (.int .i64 ((c : Int) + 1)) := by
    have := cell_of_row wa P0 0 _ 3 (0, 0) n2
    simpa using this
  have HWA := Lib.hid hwa
  have HFC := Lib.hid (hfc _ hb1)
  have HAT := Lib.hid hat
  have HA := Lib.hid hA
  have HB1 := Lib.hid hb1
  have HEQ := Lib.hid heq
  have N1 := Lib.hid n1
  have N2 := Lib.hid n2
  clear hwa hat hb hb1 heq n1 n2 hp hA hfc
  by_cases ho : 40 < d
  · have q1 : decide ((40 : Int) < (d : Int)) = true := decide_eq_true (by omega)
    have HE : Hid (prop t d c = (false, c + 1)) := Lib.hid (by rw [HEQ.out, if_pos (.inr ho)])
    clear hat1 ho
    go_enter Try.func77, Try.ntmps77
    go_upto_region 2 with fail
    rw [← HWA.out]
    clear m1 m2
    go_wp2_with fail
    go_ret
    exact ⟨ret_bool (by rw [HE.out]), N1.out, by rw [HE.out]; exact N2.out⟩
  · have q1 : decide ((40 : Int) < (d : Int)) = false := decide_eq_false (by omega)
    by_cases h6 : 600 < c + 1
    · have q2 : decide ((600 : Int) < (c : Int) + 1) = true := decide_eq_true (by omega)
      have HE : Hid (prop t d c = (false, c + 1)) := Lib.hid (by rw [HEQ.out, if_pos (.inl h6)])
      clear hat1 ho h6
      go_enter Try.func77, Try.ntmps77
      go_upto_region 2 with fail
      rw [← HWA.out]
      clear m1 m2
      go_wp2_with fail
      go_ret
      exact ⟨ret_bool (by rw [HE.out]), N1.out, by rw [HE.out]; exact N2.out⟩
    · have q2 : decide ((600 : Int) < (c : Int) + 1) = false := decide_eq_false (by omega)
      have heq := HEQ.out
      rw [if_neg (by omega)] at heq
      have ho1 : c + 1 ≤ 600 := by omega
      have ho2 : d ≤ 40 := by omega
      cases hf : formB t.op t.n t.s t.args.length with
      | false =>
        have HE : Hid (prop t d c = (false, c + 1)) := Lib.hid (by rw [heq, hf]; simp)
        rw [hf] at HFC
        clear hat1 ho h6 heq hf
        go_enter Try.func77, Try.ntmps77
        go_upto_region 2 with fail
        rw [← HWA.out]
        clear m1 m2
        go_wp2_with (go_at_call 86; refine HFC.out.mono ?_; rintro e w2 ⟨rfl, rfl⟩)
        go_ret
        exact ⟨ret_bool (by rw [HE.out]), N1.out, by rw [HE.out]; exact N2.out⟩
      | true =>
        have HE : Hid (prop t d c = props t.args (d + 1) (c + 1)) := Lib.hid (by rw [heq, hf]; simp)
        rw [hf] at HFC
        obtain ⟨base, cap, x0, x1, x2, x3, hvv⟩ := at_v hat1
        have hlab : t.args.length ≤ 9223372036854775807 := by obtain ⟨_, _, _, _, _, _, _, h9⟩ := at_iff.mp hat1; have := h9.1; unfold maxLen at this; omega
        obtain ⟨la, hla⟩ : ∃ la, la = t.args.length := ⟨_, rfl⟩
        rw [← hla] at x3 hlab
        have HLN := Lib.hid hla
        clear hat1 ho h6 heq hf hla hvv x0 x1 x2
        go_enter Try.func77, Try.ntmps77
        go_upto_region 2 with fail
        rw [← HWA.out]
        clear m1 m2
        go_wp2_with (go_at_call 86; refine HFC.out.mono ?_; rintro e w2 ⟨rfl, rfl⟩)
        go_loopw [31] (fun i wr => ∃ (j cj : Nat), j ≤ la ∧ i = .int .i64 j ∧ w.grownBy wr (some P0) ∧ Below w0.heap.size w0 wr ∧ PBox wr P0 cj ∧ cj ≤ 600 ∧ Hid (props (t.args.drop j) (d + 1) cj = props t.args (d + 1) (c + 1))) (fun i _ => la - (intOf i).toNat)
        case atStart => exact ⟨0, c + 1, Nat.zero_le _, rfl, N1.out, HB1.out, N2.out, ho1, Lib.hid (by rw [List.drop_zero])⟩
        case round =>
          obtain ⟨j, cj, hj, rfl, hgr, hbw, hpb, hcj, hpr⟩ := hrel
          have HBW := Lib.hid hbw
          by_cases hlt : j < la
          · have h1 : j < t.args.length := by rw [← HLN.out]; exact hlt
            obtain ⟨_, _, _, _, b2, c2, y3, hsl⟩ := at_iff.mp (HAT.out.next HBW.out)
            obtain ⟨_, _, _, _, b3, c3, z3, hsl0⟩ := at_iff.mp HAT.out
            have hbe : b2 = b3 := by
              have := keeps HBW.out _ _ z3
              rw [y3] at this
              injection this with this
              injection this
            rcases hsl0.2 with h0 | ⟨g, o', hg, hrow0⟩
            · exact absurd h0 (List.ne_nil_of_length_pos (by omega))
            rw [hbe, hg, ← HLN.out] at y3
            have hdrop : props (t.args.drop j) (d + 1) cj = if (prop (t.args[j]'h1) (d + 1) cj).1 = true then props (t.args.drop (j + 1)) (d + 1) (prop (t.args[j]'h1) (d + 1) cj).2 else prop (t.args[j]'h1) (d + 1) cj := by rw [List.drop_eq_getElem_cons h1, props_cons]
            have hpl := prop_le (t.args[j]'h1) (d + 1) cj
            have hcall := HA.out j h1 w0 g (o' + j * 4) (d + 1) cj P0 wr (row_at h1 hrow0) hP hbw hpb (by omega) hcj
            rw [show ((d + 1 : Nat) : Int) = (d : Int) + 1 from by omega] at hcall
            have HCALL := Lib.hid hcall
            have HDROP := Lib.hid hdrop
            have HPL := Lib.hid hpl
            have HGR := Lib.hid hgr
            clear hcall hdrop hpl hgr hpb hrow0 hsl hsl0 hbe hg z3 hbw
            obtain ⟨px, hpx⟩ : ∃ px, px = prop (t.args[j]'h1) (d + 1) cj := ⟨_, rfl⟩
            unfold PropP at HCALL
            rw [← hpx] at HCALL HDROP HPL
            clear hpx
            obtain ⟨r, cx⟩ := px
            simp only at HCALL HDROP HPL
            cases r with
            | true =>
              go_wp2_with fail
              refine HCALL.out.mono ?_
              rintro e w2 ⟨rfl, hg2, hp2⟩
              have HG2 := Lib.hid (grown_trans HGR.out hg2)
              have HP2 := Lib.hid hp2
              have HB2 := Lib.hid (grown_below HBW.out hg2 hP)
              clear hg2 hp2
              go_wp2_with fail
              go_roundw
              case rel => exact ⟨j + 1, cx, by omega, by go_num, HG2.out, HB2.out, HP2.out, (by simpa using HPL.out), Lib.hid (by rw [← hpr.out, HDROP.out]; simp)⟩
              case measure => simp [intOf]; omega
            | false =>
              have HF : Hid (prop t d c = (false, cx)) := Lib.hid (by rw [HE.out, ← hpr.out, HDROP.out, if_neg (by simp)])
              go_wp2_with fail
              refine HCALL.out.mono ?_
              rintro e w2 ⟨rfl, hg2, hp2⟩
              have HG2 := Lib.hid (grown_trans HGR.out hg2)
              have HP2 := Lib.hid hp2
              clear hg2 hp2
              go_wp2_with fail
              go_ret
              exact ⟨ret_bool (by rw [HF.out]), HG2.out, by rw [HF.out]; exact HP2.out⟩
          · have HT : Hid (prop t d c = (true, cj)) := Lib.hid (by rw [HE.out, ← hpr.out, List.drop_of_length_le (by rw [← HLN.out]; omega), props_nil])
            have HGR := Lib.hid hgr
            have HPB := Lib.hid hpb
            clear hgr hpb hbw
            go_wp2_with fail
            go_ret
            exact ⟨ret_bool (by rw [HT.out]), HGR.out, by rw [HT.out]; exact HPB.out⟩

theorem hold_any : ∀ t : Ty, HoldC t := by
  intro t
  induction hm : SizeOf.sizeOf t using Nat.strongRecOn generalizing t with
  | ind m ih => exact hold_step t (fun i h => ih _ (by rw [← hm]; exact size_arg t i h) _ rfl)

end Ty
end Go.Proofs.Ytfjgebdpbmnicaa

/- What the reference's makers of types return. Conditions: the parts lie in memory. -/
namespace Go.Proofs.Ytfjgebdpbmnicaa
open Go.RowKit

namespace Ty
/-- a type is returned -/
def Ret (t : Ty) (w : World) (e : Ending) (w' : World) : Prop := ∃ v, e = .returned v ∧ V w' t v ∧ Below w.heap.size w w'

theorem results_ty {fn : Func} {a : Tmp} (hfn : fn.results = #[.cell a 36]) {tmps : Array Value} {w : World} {B o : Nat} {v0 v1 v2 v3 : Value} (h : tmps.getD a undef = .pointer (some ⟨B, o, none⟩))
    (c0 : w.cell? ⟨B, o, none⟩ = some v0) (c1 : w.cell? ⟨B, o + 1, none⟩ = some v1) (c2 : w.cell? ⟨B, o + 2, none⟩ = some v2) (c3 : w.cell? ⟨B, o + 3, none⟩ = some v3) :
    (results fn tmps).run Try.prog w = .ok (.agg #[v0, v1, v2, v3]) w := by
  have h' : tmps[a]?.getD undef = .pointer (some ⟨B, o, none⟩) := by rw [← h]; simp
  simp [results, hfn, h', c0, c1, c2, c3, go_sem]

/-- a box of four cells -/
theorem box4 (w : World) (v0 v1 v2 v3 : Value) :
    (w.alloc (Obj.cells #[v0, v1, v2, v3] 36)).cell? ⟨w.heap.size, 0, none⟩ = some v0 ∧ (w.alloc (Obj.cells #[v0, v1, v2, v3] 36)).cell? ⟨w.heap.size, 1, none⟩ = some v1 ∧
    (w.alloc (Obj.cells #[v0, v1, v2, v3] 36)).cell? ⟨w.heap.size, 2, none⟩ = some v2 ∧ (w.alloc (Obj.cells #[v0, v1, v2, v3] 36)).cell? ⟨w.heap.size, 3, none⟩ = some v3 := by
  refine ⟨?_, ?_, ?_, ?_⟩
  · rw [cell_of_row (w.alloc _) w.heap.size 0 _ 36 (0, 0) (heap_alloc_new w _)]; rfl
  · rw [cell_of_row (w.alloc _) w.heap.size 1 _ 36 (0, 0) (heap_alloc_new w _)]; rfl
  · rw [cell_of_row (w.alloc _) w.heap.size 2 _ 36 (0, 0) (heap_alloc_new w _)]; rfl
  · rw [cell_of_row (w.alloc _) w.heap.size 3 _ 36 (0, 0) (heap_alloc_new w _)]; rfl

theorem v_leaf (w : World) (o n : Int) (s : ByteArray) (hs : s.size ≤ maxLen) : V w (.mk o n s.data.toList []) (.agg #[.int .i64 o, .int .i64 n, .string s, .slice none 0 0]) := by
  have hmk : (⟨s.data.toList.toArray⟩ : ByteArray) = s := by simp
  refine ⟨none, 0, ?_, ?_, Nat.zero_le _, .inl rfl⟩
  · show _ = Value.agg #[.int .i64 o, .int .i64 n, .string ⟨s.data.toList.toArray⟩, .slice none 0 0]
    rw [hmk]
  · show s.data.toList.length ≤ maxLen
    rw [show s.data.toList.length = s.size from rfl]
    exact hs

set_option maxHeartbeats 2000000 in
theorem con_any (s : ByteArray) (hs : s.size ≤ maxLen) (w : World) : Calls Try.prog 34 #[.string s] w (Ret (.mk 2 0 s.data.toList []) w) := by
  obtain ⟨b0, b1, b2, b3⟩ := box4 w (.int .i64 2) (.int .i64 0) (.string s) (.slice none 0 0)
  go_enter Try.func34, Try.ntmps34
  go_wp2_with fail
  refine bodyPost_ret (results_ty (a := 2) (by kernel_rfl) (B := w.heap.size) (by rfl) b0 b1 b2 b3) rfl ?_
  exact ⟨_, rfl, v_leaf _ _ _ _ hs, (Below.refl _ _).alloc (Nat.le_refl _) _⟩

theorem below_two (w : World) (o1 o2 : Obj) : Below w.heap.size w ((w.alloc o1).alloc o2) := ((Below.refl _ _).alloc (Nat.le_refl _) _).alloc (by simp) _

/-- a type whose two parts stand in a new row -/
theorem v_two {w w1 : World} (hb : Below w.heap.size w w1) (o : Int) {ta tb : Ty} {ba bb : Option Addr} {ca cb : Nat} (hsa : ta.s.length ≤ maxLen) (hsb : tb.s.length ≤ maxLen) (hla : Sl w ba ta.args) (hlb : Sl w bb tb.args) (R : Obj) :
    V ((w1.alloc R).alloc (Obj.cells #[.int .i64 ta.op, .int .i64 ta.n, .string ta.name, .slice ba ta.args.length ca, .int .i64 tb.op, .int .i64 tb.n, .string tb.name, .slice bb tb.args.length cb] 36)) (.mk o 0 [] [ta, tb])
      (.agg #[.int .i64 o, .int .i64 0, .string ⟨#[]⟩, .slice (some ⟨w1.heap.size + 1, 0, none⟩) 2 2]) := by
  obtain ⟨S, hS⟩ : ∃ S, S = Obj.cells #[.int .i64 ta.op, .int .i64 ta.n, .string ta.name, .slice ba ta.args.length ca, .int .i64 tb.op, .int .i64 tb.n, .string tb.name, .slice bb tb.args.length cb] 36 := ⟨_, rfl⟩
  rw [← hS]
  have hrow : ((w1.alloc R).alloc S).heap[w1.heap.size + 1]? = some S := by
    have := heap_alloc_new (w1.alloc R) S
    rwa [show (w1.alloc R).heap.size = w1.heap.size + 1 from by simp] at this
  have hrow2 := hrow.trans (congrArg some hS)
  have hbl : Below w.heap.size w ((w1.alloc R).alloc S) := hb.trans ((below_two w1 R S).mono hb.size)
  have c := fun i => cell_of_row ((w1.alloc R).alloc S) (w1.heap.size + 1) i _ 36 (0, 0) hrow2
  refine ⟨some ⟨w1.heap.size + 1, 0, none⟩, 2, rfl, Nat.zero_le _, by show 2 ≤ maxLen; unfold maxLen; omega, .inr ⟨w1.heap.size + 1, 0, rfl, ?_, ?_, trivial⟩⟩
  · exact at_iff.mpr ⟨c 0, c 1, c 2, hsa, ba, ca, c 3, hla.next hbl⟩
  · exact at_iff.mpr ⟨c 4, c 5, c 6, hsb, bb, cb, c 7, hlb.next hbl⟩

set_option maxHeartbeats 4000000 in
theorem app_any (ta tb : Ty) (va vb : Value) (w : World) (ha : V w ta va) (hb : V w tb vb) : Calls Try.prog 33 #[va, vb] w (Ret (.mk 3 0 [] [ta, tb]) w) := by
  obtain ⟨ba, ca, ea, hsa, hla⟩ := ha
  obtain ⟨bb, cb, eb, hsb, hlb⟩ := hb
  subst ea eb
  have hv := fun w1 (hb : Below w.heap.size w w1) R => v_two hb 3 (ca := ca) (cb := cb) hsa hsb hla hlb R
  have HV := Lib.hid hv
  clear hla hlb hv
  generalize ta.args.length = la at *
  generalize tb.args.length = lb at *
  go_enter Try.func33, Try.ntmps33
  go_wp2_with fail
  obtain ⟨w1, hw1⟩ : ∃ w1, w1 = (w.alloc (Obj.cells #[Value.int IntKind.i64 ta.op, Value.int IntKind.i64 ta.n, Value.string ta.name, Value.slice ba la ca] 36)).alloc (Obj.cells #[Value.int IntKind.i64 tb.op, Value.int IntKind.i64 tb.n, Value.string tb.name, Value.slice bb lb cb] 36) := ⟨_, rfl⟩
  have e1 : w1.heap.size = w.heap.size + 1 + 1 := by rw [hw1]; simp
  have hb1 : Below w.heap.size w w1 := by rw [hw1]; exact below_two _ _ _
  rw [← hw1, ← e1]
  clear hw1
  obtain ⟨R, hR⟩ : ∃ R, R = Obj.cells #[Value.int IntKind.i64 3, Value.int IntKind.i64 0, Value.string ⟨#[]⟩, Value.slice (some ⟨w1.heap.size + 1, 0, none⟩) 2 2] 36 := ⟨_, rfl⟩
  have hrow : ∀ S, ((w1.alloc R).alloc S).heap[w1.heap.size]? = some R := fun S => (Below.heap_alloc _ _ _ (by simp)).trans (heap_alloc_new w1 R)
  rw [hR] at hrow
  have c := fun S i => cell_of_row ((w1.alloc _).alloc S) w1.heap.size i _ 36 (0, 0) (hrow S)
  refine bodyPost_ret (results_ty (a := 4) (by kernel_rfl) (B := w1.heap.size) (by rfl) (c _ 0) (c _ 1) (c _ 2) (c _ 3)) rfl ?_
  exact ⟨_, rfl, HV.out w1 hb1 _, hb1.trans ((below_two w1 _ _).mono hb1.size)⟩

end Ty
end Go.Proofs.Ytfjgebdpbmnicaa
