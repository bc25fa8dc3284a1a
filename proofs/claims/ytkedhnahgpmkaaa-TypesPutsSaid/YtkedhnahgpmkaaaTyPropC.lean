/- What the reference's proper returns, at types with the operators 3, 4 and 5. Conditions: the type lies in memory; the count lies in a box of its own. -/
import Derived.Test.YtkedhnahgpmkaaaTyProper
namespace Go.Proofs.Ytkedhnahgpmkaaa
open Go.RowKit

namespace Ty
set_option maxHeartbeats 16000000 in
theorem prop_op3 (t : Ty) (hk : t.op = 3) (hA : ∀ (i : Nat) (h : i < t.args.length), PropC (t.args[i]'h)) (v : Value) (d c P0 : Nat) (w w0 : World) (hv : V w0 t v) (hP : w0.heap.size ≤ P0) (hb : Below w0.heap.size w0 w) (hp : PBox w P0 c) (ho : ¬ (600 < c + 1 ∨ 40 < d)) :
    Calls Try.prog 57 #[v, .int .i64 d, .pointer (some ⟨P0, 0, none⟩)] w (PropP t d c P0 w) := by
  obtain ⟨base, cap, ev, hs, hl⟩ := hv
  subst ev
  have heq : prop t d c = _ := prop_eq t d c
  rw [if_neg ho, hk] at heq
  rw [hk]
  obtain ⟨m1, m2, m3⟩ := prop_enter hp
  obtain ⟨n1, n2, n3⟩ := prop_entered hp (.int .i64 3) (.int .i64 t.n) (.string t.name) (.slice base t.args.length cap)
  have ho1 : c + 1 ≤ 600 := by omega
  have ho2 : d ≤ 40 := by omega
  have q1 : decide ((600 : Int) < (c : Int) + 1) = false := decide_eq_false (by omega)
  have q2 : decide ((40 : Int) < (d : Int)) = false := decide_eq_false (by omega)
  have hnil : (t.name.toList == []) = decide (t.s = []) := by
    rw [Lib.toList_data]
    unfold name
    cases t.s <;> rfl
  have hnsz : t.name.size = t.s.length := rfl
  have HA := Lib.hid hA
  have HL := Lib.hid hl
  have HB := Lib.hid hb
  have HEQ := Lib.hid heq
  have HLA : Hid (t.args.length ≤ 9223372036854775807) := Lib.hid (by have := hl.1; unfold maxLen at this; omega)
  clear hl hs ho hp hb hA heq hk
  obtain ⟨la, hla⟩ : ∃ la, la = t.args.length := ⟨_, rfl⟩
  rw [← hla] at HLA n1 n2 n3 ⊢
  have HLN := Lib.hid hla
  clear hla
  have hlab := HLA.out
  obtain ⟨nn, hnn⟩ : ∃ nn, nn = t.n := ⟨_, rfl⟩
  obtain ⟨na, hna⟩ : ∃ na, na = t.name := ⟨_, rfl⟩
  obtain ⟨ss, hss⟩ : ∃ ss, ss = t.s := ⟨_, rfl⟩
  rw [← hnn] at HEQ n1 n2 n3 ⊢
  rw [← hna] at n1 n2 n3 hnil hnsz ⊢
  rw [← hss] at HEQ hnil hnsz
  clear hnn hna hss
  go_enter Try.func57, Try.ntmps57
  go_upto_region 2 with fail
  obtain ⟨wa, hwa⟩ : ∃ wa, wa = (w.setCell ⟨P0, 0, none⟩ (.int .i64 ((c : Int) + 1))).alloc (Obj.cells #[Value.int IntKind.i64 3, Value.int IntKind.i64 nn, Value.string na, Value.slice base la cap] 24) := ⟨_, rfl⟩
  rw [← hwa] at n1 n2 n3 ⊢
  clear hwa m1 m2
  have p0 : wa.cell? ⟨P0, 0, none⟩ = some (.int .i64 ((c : Int) + 1)) := by
    have := cell_of_row wa P0 0 _ 3 (0, 0) n2
    simpa using this
  have b0 := cell_of_row wa w.heap.size 0 _ 24 (0, 0) n3
  have b1 := cell_of_row wa w.heap.size 1 _ 24 (0, 0) n3
  have b2 := cell_of_row wa w.heap.size 2 _ 24 (0, 0) n3
  have b3 := cell_of_row wa w.heap.size 3 _ 24 (0, 0) n3
  simp only [List.getElem?_toArray, List.getElem?_cons_zero, List.getElem?_cons_succ] at b0 b1 b2 b3
  have N1 := Lib.hid n1
  have N2 := Lib.hid n2
  clear n1 n2 n3
  clear hnsz
  by_cases hn : nn = 0
  · have qn : (nn != 0) = false := by simpa using hn
    by_cases hss : ss = []
    · have HX : Hid (nn = 0 ∧ ss = []) := Lib.hid ⟨hn, hss⟩
      rw [decide_eq_true hss] at hnil
      clear hn hss
      by_cases hlw : la = 2
      · have HE : Hid (prop t d c = props t.args (d + 1) (c + 1)) := Lib.hid (by rw [HEQ.out]; simp [headK, HX.out, ← HLN.out, hlw])
        have qw : ((la : Int) != 2) = false := by simp; omega
        clear hlw
        go_wp2_with fail
        go_loopw [74] (fun i wr => ∃ (j cj : Nat), j ≤ la ∧ i = .int .i64 j ∧ w.grownBy wr (some P0) ∧ PBox wr P0 cj ∧ cj ≤ 600 ∧ Hid (props (t.args.drop j) (d + 1) cj = props t.args (d + 1) (c + 1))) (fun i _ => la - (intOf i).toNat)
        case atStart => exact ⟨0, c + 1, Nat.zero_le _, rfl, N1.out, N2.out, ho1, Lib.hid (by rw [List.drop_zero])⟩
        case round =>
          obtain ⟨j, cj, hj, rfl, hgr, hpb, hcj, hpr⟩ := hrel
          have HBW := Lib.hid (grown_below HB.out hgr hP)
          by_cases hlt : j < la
          · have h1 : j < t.args.length := by rw [← HLN.out]; exact hlt
            rcases HL.out.2 with h0 | ⟨g, o, rfl, hrow⟩
            · exact absurd h0 (List.ne_nil_of_length_pos (by omega))
            obtain ⟨xb, xc, c0, c1, c2, c3, hvx⟩ := at_v ((row_at h1 hrow).next HBW.out)
            obtain ⟨_, _, _, _, _, _, hvx0⟩ := at_v (row_at h1 hrow)
            have hdrop : props (t.args.drop j) (d + 1) cj = if (prop (t.args[j]'h1) (d + 1) cj).1 = true then props (t.args.drop (j + 1)) (d + 1) (prop (t.args[j]'h1) (d + 1) cj).2 else prop (t.args[j]'h1) (d + 1) cj := by rw [List.drop_eq_getElem_cons h1, props_cons]
            have hpl := prop_le (t.args[j]'h1) (d + 1) cj
            have hcx := HA.out j h1
            have hv0 := row_at h1 hrow
            obtain ⟨x, hx⟩ : ∃ x, x = t.args[j]'h1 := ⟨_, rfl⟩
            rw [← hx] at c0 c1 c2 c3 hvx hdrop hpl hcx hv0
            have hd1 : ((d + 1 : Nat) : Int) = (d : Int) + 1 := by omega
            have hcall : ∀ w2, wr.grownBy w2 (some P0) → PBox w2 P0 cj → Calls Try.prog 57 #[.agg #[.int .i64 x.op, .int .i64 x.n, .string x.name, .slice xb x.args.length xc], .int .i64 ((d : Int) + 1), .pointer (some ⟨P0, 0, none⟩)] w2 (PropP x (d + 1) cj P0 w2) := fun w2 hg2 hp2 => by
              have hbw2 := grown_below HBW.out hg2 hP
              obtain ⟨yb, yc, y0, y1, y2, y3, hy⟩ := at_v hv0
              have hkeep := keeps (w := w0) (w' := wr) HBW.out _ _ y3
              rw [c3] at hkeep
              injection hkeep with hkeep
              injection hkeep with e1 _ e3
              subst e1 e3
              have h := hcx w0 _ (d + 1) cj P0 w2 hy hP hbw2 hp2 (by omega) hcj
              rw [hd1] at h
              exact h
            have HCALL := Lib.hid hcall
            have HDROP := Lib.hid hdrop
            have HPL := Lib.hid hpl
            have HGR := Lib.hid hgr
            have HPB := Lib.hid hpb
            have hP1 : P0 < wr.heap.size := lt_of_block hpb
            clear hcall hdrop hpl hgr hpb hx hvx hvx0 hcx hv0 hrow hd1
            obtain ⟨px, hpx⟩ : ∃ px, px = prop x (d + 1) cj := ⟨_, rfl⟩
            unfold PropP at HCALL
            rw [← hpx] at HCALL HDROP HPL
            clear hpx
            generalize x.op = xo at *
            generalize x.n = xn at *
            generalize x.name = xs at *
            generalize x.args.length = xl at *
            obtain ⟨r, cx⟩ := px
            simp only at HCALL HDROP HPL
            have HA1 : Hid (∀ o, wr.grownBy (wr.alloc o) (some P0) ∧ PBox (wr.alloc o) P0 cj) := Lib.hid (fun o => ⟨grown_alloc (grown_refl _ _) _, (Below.heap_alloc _ _ _ hP1).trans HPB.out⟩)
            cases r with
            | true =>
              go_wp2_with fail
              refine (HCALL.out _ (HA1.out _).1 (HA1.out _).2).mono ?_
              rintro e w2 ⟨rfl, hg2, hp2⟩
              have HG2 := Lib.hid (grown_trans HGR.out (grown_trans (HA1.out _).1 hg2))
              have HP2 := Lib.hid hp2
              clear hg2 hp2
              go_wp2_with fail
              go_roundw
              case rel => exact ⟨j + 1, cx, by omega, by go_num, HG2.out, HP2.out, (by simpa using HPL.out), Lib.hid (by rw [← hpr.out, HDROP.out]; simp)⟩
              case measure => simp [intOf]; omega
            | false =>
              have HF : Hid (prop t d c = (false, cx)) := Lib.hid (by rw [HE.out, ← hpr.out, HDROP.out, if_neg (by simp)])
              go_wp2_with fail
              refine (HCALL.out _ (HA1.out _).1 (HA1.out _).2).mono ?_
              rintro e w2 ⟨rfl, hg2, hp2⟩
              have HG2 := Lib.hid (grown_trans HGR.out (grown_trans (HA1.out _).1 hg2))
              have HP2 := Lib.hid hp2
              clear hg2 hp2
              go_wp2_with fail
              go_ret
              exact ⟨ret_bool (by rw [HF.out]), HG2.out, by rw [HF.out]; exact HP2.out⟩
          · have HT : Hid (prop t d c = (true, cj)) := Lib.hid (by rw [HE.out, ← hpr.out, List.drop_of_length_le (by rw [← HLN.out]; omega), props_nil])
            have HGR := Lib.hid hgr
            have HPB := Lib.hid hpb
            clear hgr hpb
            go_wp2_with fail
            go_ret
            exact ⟨ret_bool (by rw [HT.out]), HGR.out, by rw [HT.out]; exact HPB.out⟩
      · have HE : Hid (prop t d c = (false, c + 1)) := Lib.hid (by rw [HEQ.out]; simp [headK, HX.out, ← HLN.out, hlw])
        have qw : ((la : Int) != 2) = true := by simp; omega
        go_wp2_with fail
        go_ret
        exact ⟨ret_bool (by rw [HE.out]), N1.out, by rw [HE.out]; exact N2.out⟩
    · have HX : Hid (nn = 0 ∧ ¬ ss = []) := Lib.hid ⟨hn, hss⟩
      rw [decide_eq_false hss] at hnil
      clear hn hss
      have HE : Hid (prop t d c = (false, c + 1)) := Lib.hid (by rw [HEQ.out]; simp [headK, HX.out])
      go_wp2_with fail
      go_ret
      exact ⟨ret_bool (by rw [HE.out]), N1.out, by rw [HE.out]; exact N2.out⟩
  · have qn : (nn != 0) = true := by simpa using hn
    have HX : Hid (¬ nn = 0) := Lib.hid hn
    clear hn
    have HE : Hid (prop t d c = (false, c + 1)) := Lib.hid (by rw [HEQ.out]; simp [headK, HX.out])
    go_wp2_with fail
    go_ret
    exact ⟨ret_bool (by rw [HE.out]), N1.out, by rw [HE.out]; exact N2.out⟩

set_option maxHeartbeats 16000000 in
theorem prop_op4 (t : Ty) (hk : t.op = 4) (hA : ∀ (i : Nat) (h : i < t.args.length), PropC (t.args[i]'h)) (v : Value) (d c P0 : Nat) (w w0 : World) (hv : V w0 t v) (hP : w0.heap.size ≤ P0) (hb : Below w0.heap.size w0 w) (hp : PBox w P0 c) (ho : ¬ (600 < c + 1 ∨ 40 < d)) :
    Calls Try.prog 57 #[v, .int .i64 d, .pointer (some ⟨P0, 0, none⟩)] w (PropP t d c P0 w) := by
  obtain ⟨base, cap, ev, hs, hl⟩ := hv
  subst ev
  have heq : prop t d c = _ := prop_eq t d c
  rw [if_neg ho, hk] at heq
  rw [hk]
  obtain ⟨m1, m2, m3⟩ := prop_enter hp
  obtain ⟨n1, n2, n3⟩ := prop_entered hp (.int .i64 4) (.int .i64 t.n) (.string t.name) (.slice base t.args.length cap)
  have ho1 : c + 1 ≤ 600 := by omega
  have ho2 : d ≤ 40 := by omega
  have q1 : decide ((600 : Int) < (c : Int) + 1) = false := decide_eq_false (by omega)
  have q2 : decide ((40 : Int) < (d : Int)) = false := decide_eq_false (by omega)
  have hnil : (t.name.toList == []) = decide (t.s = []) := by
    rw [Lib.toList_data]
    unfold name
    cases t.s <;> rfl
  have hnsz : t.name.size = t.s.length := rfl
  have HA := Lib.hid hA
  have HL := Lib.hid hl
  have HB := Lib.hid hb
  have HEQ := Lib.hid heq
  have HLA : Hid (t.args.length ≤ 9223372036854775807) := Lib.hid (by have := hl.1; unfold maxLen at this; omega)
  clear hl hs ho hp hb hA heq hk
  obtain ⟨la, hla⟩ : ∃ la, la = t.args.length := ⟨_, rfl⟩
  rw [← hla] at HLA n1 n2 n3 ⊢
  have HLN := Lib.hid hla
  clear hla
  have hlab := HLA.out
  obtain ⟨nn, hnn⟩ : ∃ nn, nn = t.n := ⟨_, rfl⟩
  obtain ⟨na, hna⟩ : ∃ na, na = t.name := ⟨_, rfl⟩
  obtain ⟨ss, hss⟩ : ∃ ss, ss = t.s := ⟨_, rfl⟩
  rw [← hnn] at HEQ n1 n2 n3 ⊢
  rw [← hna] at n1 n2 n3 hnil hnsz ⊢
  rw [← hss] at HEQ hnil hnsz
  clear hnn hna hss
  go_enter Try.func57, Try.ntmps57
  go_upto_region 2 with fail
  obtain ⟨wa, hwa⟩ : ∃ wa, wa = (w.setCell ⟨P0, 0, none⟩ (.int .i64 ((c : Int) + 1))).alloc (Obj.cells #[Value.int IntKind.i64 4, Value.int IntKind.i64 nn, Value.string na, Value.slice base la cap] 24) := ⟨_, rfl⟩
  rw [← hwa] at n1 n2 n3 ⊢
  clear hwa m1 m2
  have p0 : wa.cell? ⟨P0, 0, none⟩ = some (.int .i64 ((c : Int) + 1)) := by
    have := cell_of_row wa P0 0 _ 3 (0, 0) n2
    simpa using this
  have b0 := cell_of_row wa w.heap.size 0 _ 24 (0, 0) n3
  have b1 := cell_of_row wa w.heap.size 1 _ 24 (0, 0) n3
  have b2 := cell_of_row wa w.heap.size 2 _ 24 (0, 0) n3
  have b3 := cell_of_row wa w.heap.size 3 _ 24 (0, 0) n3
  simp only [List.getElem?_toArray, List.getElem?_cons_zero, List.getElem?_cons_succ] at b0 b1 b2 b3
  have N1 := Lib.hid n1
  have N2 := Lib.hid n2
  clear n1 n2 n3
  clear hnsz
  by_cases hn : nn = 0
  · have qn : (nn != 0) = false := by simpa using hn
    by_cases hss : ss = []
    · have HX : Hid (nn = 0 ∧ ss = []) := Lib.hid ⟨hn, hss⟩
      rw [decide_eq_true hss] at hnil
      clear hn hss
      by_cases hlw : la = 2
      · have HE : Hid (prop t d c = props t.args (d + 1) (c + 1)) := Lib.hid (by rw [HEQ.out]; simp [headK, HX.out, ← HLN.out, hlw])
        have qw : ((la : Int) != 2) = false := by simp; omega
        clear hlw
        go_wp2_with fail
        go_loopw [74] (fun i wr => ∃ (j cj : Nat), j ≤ la ∧ i = .int .i64 j ∧ w.grownBy wr (some P0) ∧ PBox wr P0 cj ∧ cj ≤ 600 ∧ Hid (props (t.args.drop j) (d + 1) cj = props t.args (d + 1) (c + 1))) (fun i _ => la - (intOf i).toNat)
        case atStart => exact ⟨0, c + 1, Nat.zero_le _, rfl, N1.out, N2.out, ho1, Lib.hid (by rw [List.drop_zero])⟩
        case round =>
          obtain ⟨j, cj, hj, rfl, hgr, hpb, hcj, hpr⟩ := hrel
          have HBW := Lib.hid (grown_below HB.out hgr hP)
          by_cases hlt : j < la
          · have h1 : j < t.args.length := by rw [← HLN.out]; exact hlt
            rcases HL.out.2 with h0 | ⟨g, o, rfl, hrow⟩
            · exact absurd h0 (List.ne_nil_of_length_pos (by omega))
            obtain ⟨xb, xc, c0, c1, c2, c3, hvx⟩ := at_v ((row_at h1 hrow).next HBW.out)
            obtain ⟨_, _, _, _, _, _, hvx0⟩ := at_v (row_at h1 hrow)
            have hdrop : props (t.args.drop j) (d + 1) cj = if (prop (t.args[j]'h1) (d + 1) cj).1 = true then props (t.args.drop (j + 1)) (d + 1) (prop (t.args[j]'h1) (d + 1) cj).2 else prop (t.args[j]'h1) (d + 1) cj := by rw [List.drop_eq_getElem_cons h1, props_cons]
            have hpl := prop_le (t.args[j]'h1) (d + 1) cj
            have hcx := HA.out j h1
            have hv0 := row_at h1 hrow
            obtain ⟨x, hx⟩ : ∃ x, x = t.args[j]'h1 := ⟨_, rfl⟩
            rw [← hx] at c0 c1 c2 c3 hvx hdrop hpl hcx hv0
            have hd1 : ((d + 1 : Nat) : Int) = (d : Int) + 1 := by omega
            have hcall : ∀ w2, wr.grownBy w2 (some P0) → PBox w2 P0 cj → Calls Try.prog 57 #[.agg #[.int .i64 x.op, .int .i64 x.n, .string x.name, .slice xb x.args.length xc], .int .i64 ((d : Int) + 1), .pointer (some ⟨P0, 0, none⟩)] w2 (PropP x (d + 1) cj P0 w2) := fun w2 hg2 hp2 => by
              have hbw2 := grown_below HBW.out hg2 hP
              obtain ⟨yb, yc, y0, y1, y2, y3, hy⟩ := at_v hv0
              have hkeep := keeps (w := w0) (w' := wr) HBW.out _ _ y3
              rw [c3] at hkeep
              injection hkeep with hkeep
              injection hkeep with e1 _ e3
              subst e1 e3
              have h := hcx w0 _ (d + 1) cj P0 w2 hy hP hbw2 hp2 (by omega) hcj
              rw [hd1] at h
              exact h
            have HCALL := Lib.hid hcall
            have HDROP := Lib.hid hdrop
            have HPL := Lib.hid hpl
            have HGR := Lib.hid hgr
            have HPB := Lib.hid hpb
            have hP1 : P0 < wr.heap.size := lt_of_block hpb
            clear hcall hdrop hpl hgr hpb hx hvx hvx0 hcx hv0 hrow hd1
            obtain ⟨px, hpx⟩ : ∃ px, px = prop x (d + 1) cj := ⟨_, rfl⟩
            unfold PropP at HCALL
            rw [← hpx] at HCALL HDROP HPL
            clear hpx
            generalize x.op = xo at *
            generalize x.n = xn at *
            generalize x.name = xs at *
            generalize x.args.length = xl at *
            obtain ⟨r, cx⟩ := px
            simp only at HCALL HDROP HPL
            have HA1 : Hid (∀ o, wr.grownBy (wr.alloc o) (some P0) ∧ PBox (wr.alloc o) P0 cj) := Lib.hid (fun o => ⟨grown_alloc (grown_refl _ _) _, (Below.heap_alloc _ _ _ hP1).trans HPB.out⟩)
            cases r with
            | true =>
              go_wp2_with fail
              refine (HCALL.out _ (HA1.out _).1 (HA1.out _).2).mono ?_
              rintro e w2 ⟨rfl, hg2, hp2⟩
              have HG2 := Lib.hid (grown_trans HGR.out (grown_trans (HA1.out _).1 hg2))
              have HP2 := Lib.hid hp2
              clear hg2 hp2
              go_wp2_with fail
              go_roundw
              case rel => exact ⟨j + 1, cx, by omega, by go_num, HG2.out, HP2.out, (by simpa using HPL.out), Lib.hid (by rw [← hpr.out, HDROP.out]; simp)⟩
              case measure => simp [intOf]; omega
            | false =>
              have HF : Hid (prop t d c = (false, cx)) := Lib.hid (by rw [HE.out, ← hpr.out, HDROP.out, if_neg (by simp)])
              go_wp2_with fail
              refine (HCALL.out _ (HA1.out _).1 (HA1.out _).2).mono ?_
              rintro e w2 ⟨rfl, hg2, hp2⟩
              have HG2 := Lib.hid (grown_trans HGR.out (grown_trans (HA1.out _).1 hg2))
              have HP2 := Lib.hid hp2
              clear hg2 hp2
              go_wp2_with fail
              go_ret
              exact ⟨ret_bool (by rw [HF.out]), HG2.out, by rw [HF.out]; exact HP2.out⟩
          · have HT : Hid (prop t d c = (true, cj)) := Lib.hid (by rw [HE.out, ← hpr.out, List.drop_of_length_le (by rw [← HLN.out]; omega), props_nil])
            have HGR := Lib.hid hgr
            have HPB := Lib.hid hpb
            clear hgr hpb
            go_wp2_with fail
            go_ret
            exact ⟨ret_bool (by rw [HT.out]), HGR.out, by rw [HT.out]; exact HPB.out⟩
      · have HE : Hid (prop t d c = (false, c + 1)) := Lib.hid (by rw [HEQ.out]; simp [headK, HX.out, ← HLN.out, hlw])
        have qw : ((la : Int) != 2) = true := by simp; omega
        go_wp2_with fail
        go_ret
        exact ⟨ret_bool (by rw [HE.out]), N1.out, by rw [HE.out]; exact N2.out⟩
    · have HX : Hid (nn = 0 ∧ ¬ ss = []) := Lib.hid ⟨hn, hss⟩
      rw [decide_eq_false hss] at hnil
      clear hn hss
      have HE : Hid (prop t d c = (false, c + 1)) := Lib.hid (by rw [HEQ.out]; simp [headK, HX.out])
      go_wp2_with fail
      go_ret
      exact ⟨ret_bool (by rw [HE.out]), N1.out, by rw [HE.out]; exact N2.out⟩
  · have qn : (nn != 0) = true := by simpa using hn
    have HX : Hid (¬ nn = 0) := Lib.hid hn
    clear hn
    have HE : Hid (prop t d c = (false, c + 1)) := Lib.hid (by rw [HEQ.out]; simp [headK, HX.out])
    go_wp2_with fail
    go_ret
    exact ⟨ret_bool (by rw [HE.out]), N1.out, by rw [HE.out]; exact N2.out⟩

set_option maxHeartbeats 16000000 in
theorem prop_op5 (t : Ty) (hk : t.op = 5) (hA : ∀ (i : Nat) (h : i < t.args.length), PropC (t.args[i]'h)) (v : Value) (d c P0 : Nat) (w w0 : World) (hv : V w0 t v) (hP : w0.heap.size ≤ P0) (hb : Below w0.heap.size w0 w) (hp : PBox w P0 c) (ho : ¬ (600 < c + 1 ∨ 40 < d)) :
    Calls Try.prog 57 #[v, .int .i64 d, .pointer (some ⟨P0, 0, none⟩)] w (PropP t d c P0 w) := by
  obtain ⟨base, cap, ev, hs, hl⟩ := hv
  subst ev
  have heq : prop t d c = _ := prop_eq t d c
  rw [if_neg ho, hk] at heq
  rw [hk]
  obtain ⟨m1, m2, m3⟩ := prop_enter hp
  obtain ⟨n1, n2, n3⟩ := prop_entered hp (.int .i64 5) (.int .i64 t.n) (.string t.name) (.slice base t.args.length cap)
  have ho1 : c + 1 ≤ 600 := by omega
  have ho2 : d ≤ 40 := by omega
  have q1 : decide ((600 : Int) < (c : Int) + 1) = false := decide_eq_false (by omega)
  have q2 : decide ((40 : Int) < (d : Int)) = false := decide_eq_false (by omega)
  have hnil : (t.name.toList == []) = decide (t.s = []) := by
    rw [Lib.toList_data]
    unfold name
    cases t.s <;> rfl
  have hnsz : t.name.size = t.s.length := rfl
  have HA := Lib.hid hA
  have HL := Lib.hid hl
  have HB := Lib.hid hb
  have HEQ := Lib.hid heq
  have HLA : Hid (t.args.length ≤ 9223372036854775807) := Lib.hid (by have := hl.1; unfold maxLen at this; omega)
  clear hl hs ho hp hb hA heq hk
  obtain ⟨la, hla⟩ : ∃ la, la = t.args.length := ⟨_, rfl⟩
  rw [← hla] at HLA n1 n2 n3 ⊢
  have HLN := Lib.hid hla
  clear hla
  have hlab := HLA.out
  obtain ⟨nn, hnn⟩ : ∃ nn, nn = t.n := ⟨_, rfl⟩
  obtain ⟨na, hna⟩ : ∃ na, na = t.name := ⟨_, rfl⟩
  obtain ⟨ss, hss⟩ : ∃ ss, ss = t.s := ⟨_, rfl⟩
  rw [← hnn] at HEQ n1 n2 n3 ⊢
  rw [← hna] at n1 n2 n3 hnil hnsz ⊢
  rw [← hss] at HEQ hnil hnsz
  clear hnn hna hss
  go_enter Try.func57, Try.ntmps57
  go_upto_region 2 with fail
  obtain ⟨wa, hwa⟩ : ∃ wa, wa = (w.setCell ⟨P0, 0, none⟩ (.int .i64 ((c : Int) + 1))).alloc (Obj.cells #[Value.int IntKind.i64 5, Value.int IntKind.i64 nn, Value.string na, Value.slice base la cap] 24) := ⟨_, rfl⟩
  rw [← hwa] at n1 n2 n3 ⊢
  clear hwa m1 m2
  have p0 : wa.cell? ⟨P0, 0, none⟩ = some (.int .i64 ((c : Int) + 1)) := by
    have := cell_of_row wa P0 0 _ 3 (0, 0) n2
    simpa using this
  have b0 := cell_of_row wa w.heap.size 0 _ 24 (0, 0) n3
  have b1 := cell_of_row wa w.heap.size 1 _ 24 (0, 0) n3
  have b2 := cell_of_row wa w.heap.size 2 _ 24 (0, 0) n3
  have b3 := cell_of_row wa w.heap.size 3 _ 24 (0, 0) n3
  simp only [List.getElem?_toArray, List.getElem?_cons_zero, List.getElem?_cons_succ] at b0 b1 b2 b3
  have N1 := Lib.hid n1
  have N2 := Lib.hid n2
  clear n1 n2 n3
  clear hnsz
  by_cases hn : nn = 0
  · have qn : (nn != 0) = false := by simpa using hn
    by_cases hss : ss = []
    · have HX : Hid (nn = 0 ∧ ss = []) := Lib.hid ⟨hn, hss⟩
      rw [decide_eq_true hss] at hnil
      clear hn hss
      by_cases hlw : la = 2
      · have HE : Hid (prop t d c = props t.args (d + 1) (c + 1)) := Lib.hid (by rw [HEQ.out]; simp [headK, HX.out, ← HLN.out, hlw])
        have qw : ((la : Int) != 2) = false := by simp; omega
        clear hlw
        go_wp2_with fail
        go_loopw [74] (fun i wr => ∃ (j cj : Nat), j ≤ la ∧ i = .int .i64 j ∧ w.grownBy wr (some P0) ∧ PBox wr P0 cj ∧ cj ≤ 600 ∧ Hid (props (t.args.drop j) (d + 1) cj = props t.args (d + 1) (c + 1))) (fun i _ => la - (intOf i).toNat)
        case atStart => exact ⟨0, c + 1, Nat.zero_le _, rfl, N1.out, N2.out, ho1, Lib.hid (by rw [List.drop_zero])⟩
        case round =>
          obtain ⟨j, cj, hj, rfl, hgr, hpb, hcj, hpr⟩ := hrel
          have HBW := Lib.hid (grown_below HB.out hgr hP)
          by_cases hlt : j < la
          · have h1 : j < t.args.length := by rw [← HLN.out]; exact hlt
            rcases HL.out.2 with h0 | ⟨g, o, rfl, hrow⟩
            · exact absurd h0 (List.ne_nil_of_length_pos (by omega))
            obtain ⟨xb, xc, c0, c1, c2, c3, hvx⟩ := at_v ((row_at h1 hrow).next HBW.out)
            obtain ⟨_, _, _, _, _, _, hvx0⟩ := at_v (row_at h1 hrow)
            have hdrop : props (t.args.drop j) (d + 1) cj = if (prop (t.args[j]'h1) (d + 1) cj).1 = true then props (t.args.drop (j + 1)) (d + 1) (prop (t.args[j]'h1) (d + 1) cj).2 else prop (t.args[j]'h1) (d + 1) cj := by rw [List.drop_eq_getElem_cons h1, props_cons]
            have hpl := prop_le (t.args[j]'h1) (d + 1) cj
            have hcx := HA.out j h1
            have hv0 := row_at h1 hrow
            obtain ⟨x, hx⟩ : ∃ x, x = t.args[j]'h1 := ⟨_, rfl⟩
            rw [← hx] at c0 c1 c2 c3 hvx hdrop hpl hcx hv0
            have hd1 : ((d + 1 : Nat) : Int) = (d : Int) + 1 := by omega
            have hcall : ∀ w2, wr.grownBy w2 (some P0) → PBox w2 P0 cj → Calls Try.prog 57 #[.agg #[.int .i64 x.op, .int .i64 x.n, .string x.name, .slice xb x.args.length xc], .int .i64 ((d : Int) + 1), .pointer (some ⟨P0, 0, none⟩)] w2 (PropP x (d + 1) cj P0 w2) := fun w2 hg2 hp2 => by
              have hbw2 := grown_below HBW.out hg2 hP
              obtain ⟨yb, yc, y0, y1, y2, y3, hy⟩ := at_v hv0
              have hkeep := keeps (w := w0) (w' := wr) HBW.out _ _ y3
              rw [c3] at hkeep
              injection hkeep with hkeep
              injection hkeep with e1 _ e3
              subst e1 e3
              have h := hcx w0 _ (d + 1) cj P0 w2 hy hP hbw2 hp2 (by omega) hcj
              rw [hd1] at h
              exact h
            have HCALL := Lib.hid hcall
            have HDROP := Lib.hid hdrop
            have HPL := Lib.hid hpl
            have HGR := Lib.hid hgr
            have HPB := Lib.hid hpb
            have hP1 : P0 < wr.heap.size := lt_of_block hpb
            clear hcall hdrop hpl hgr hpb hx hvx hvx0 hcx hv0 hrow hd1
            obtain ⟨px, hpx⟩ : ∃ px, px = prop x (d + 1) cj := ⟨_, rfl⟩
            unfold PropP at HCALL
            rw [← hpx] at HCALL HDROP HPL
            clear hpx
            generalize x.op = xo at *
            generalize x.n = xn at *
            generalize x.name = xs at *
            generalize x.args.length = xl at *
            obtain ⟨r, cx⟩ := px
            simp only at HCALL HDROP HPL
            have HA1 : Hid (∀ o, wr.grownBy (wr.alloc o) (some P0) ∧ PBox (wr.alloc o) P0 cj) := Lib.hid (fun o => ⟨grown_alloc (grown_refl _ _) _, (Below.heap_alloc _ _ _ hP1).trans HPB.out⟩)
            cases r with
            | true =>
              go_wp2_with fail
              refine (HCALL.out _ (HA1.out _).1 (HA1.out _).2).mono ?_
              rintro e w2 ⟨rfl, hg2, hp2⟩
              have HG2 := Lib.hid (grown_trans HGR.out (grown_trans (HA1.out _).1 hg2))
              have HP2 := Lib.hid hp2
              clear hg2 hp2
              go_wp2_with fail
              go_roundw
              case rel => exact ⟨j + 1, cx, by omega, by go_num, HG2.out, HP2.out, (by simpa using HPL.out), Lib.hid (by rw [← hpr.out, HDROP.out]; simp)⟩
              case measure => simp [intOf]; omega
            | false =>
              have HF : Hid (prop t d c = (false, cx)) := Lib.hid (by rw [HE.out, ← hpr.out, HDROP.out, if_neg (by simp)])
              go_wp2_with fail
              refine (HCALL.out _ (HA1.out _).1 (HA1.out _).2).mono ?_
              rintro e w2 ⟨rfl, hg2, hp2⟩
              have HG2 := Lib.hid (grown_trans HGR.out (grown_trans (HA1.out _).1 hg2))
              have HP2 := Lib.hid hp2
              clear hg2 hp2
              go_wp2_with fail
              go_ret
              exact ⟨ret_bool (by rw [HF.out]), HG2.out, by rw [HF.out]; exact HP2.out⟩
          · have HT : Hid (prop t d c = (true, cj)) := Lib.hid (by rw [HE.out, ← hpr.out, List.drop_of_length_le (by rw [← HLN.out]; omega), props_nil])
            have HGR := Lib.hid hgr
            have HPB := Lib.hid hpb
            clear hgr hpb
            go_wp2_with fail
            go_ret
            exact ⟨ret_bool (by rw [HT.out]), HGR.out, by rw [HT.out]; exact HPB.out⟩
      · have HE : Hid (prop t d c = (false, c + 1)) := Lib.hid (by rw [HEQ.out]; simp [headK, HX.out, ← HLN.out, hlw])
        have qw : ((la : Int) != 2) = true := by simp; omega
        go_wp2_with fail
        go_ret
        exact ⟨ret_bool (by rw [HE.out]), N1.out, by rw [HE.out]; exact N2.out⟩
    · have HX : Hid (nn = 0 ∧ ¬ ss = []) := Lib.hid ⟨hn, hss⟩
      rw [decide_eq_false hss] at hnil
      clear hn hss
      have HE : Hid (prop t d c = (false, c + 1)) := Lib.hid (by rw [HEQ.out]; simp [headK, HX.out])
      go_wp2_with fail
      go_ret
      exact ⟨ret_bool (by rw [HE.out]), N1.out, by rw [HE.out]; exact N2.out⟩
  · have qn : (nn != 0) = true := by simpa using hn
    have HX : Hid (¬ nn = 0) := Lib.hid hn
    clear hn
    have HE : Hid (prop t d c = (false, c + 1)) := Lib.hid (by rw [HEQ.out]; simp [headK, HX.out])
    go_wp2_with fail
    go_ret
    exact ⟨ret_bool (by rw [HE.out]), N1.out, by rw [HE.out]; exact N2.out⟩

end Ty
end Go.Proofs.Ytkedhnahgpmkaaa
