/- What the reference's Arrow and Fun return. Conditions: the types lie in memory. -/
import Derived.Test.YtfjgebdpbmnicaaJ07
namespace Go.Proofs.Ytfjgebdpbmnicaa
open Go.RowKit

namespace Ty
set_option maxHeartbeats 16000000 in
theorem arrow_o {ok : Nat → Prop} (ta tb : Ty) (va vb : Value) (w : World) (hok : ∀ g, w.heap.size ≤ g → ok g) (ha : VO ok w ta va) (hb : VO ok w tb vb) : Calls Try.prog 82 #[va, vb] w (RetO ok (arrow ta tb) w) := by
  have hva := fun W (hbw : Below w.heap.size w W) => ha.apart (B := w.heap.size + 1 + 1) hbw (by omega)
  have hvb := fun W (hbw : Below w.heap.size w W) => hb.apart (B := w.heap.size + 1 + 1) hbw (by omega)
  obtain ⟨ba, ca, ea, _, _⟩ := ha
  obtain ⟨bb, cb, eb, _, _⟩ := hb
  subst ea eb
  have HVA := Lib.hid hva
  have HVB := Lib.hid hvb
  have HOK := Lib.hid hok
  clear hva hvb hok
  have HT := Lib.hid (Three.new w (.int .i64 ta.op) (.int .i64 ta.n) (.string ta.name) (.slice ba ta.args.length ca) (.int .i64 tb.op) (.int .i64 tb.n) (.string tb.name) (.slice bb tb.args.length cb))
  go_enter Try.func82, Try.ntmps82
  go_wp2_with fail
  obtain ⟨W0, hW0⟩ : ∃ W0, W0 = ((w.alloc (Obj.cells #[.int .i64 ta.op, .int .i64 ta.n, .string ta.name, .slice ba ta.args.length ca] 36)).alloc (Obj.cells #[.int .i64 tb.op, .int .i64 tb.n, .string tb.name, .slice bb tb.args.length cb] 36)).alloc (Obj.cells #[.int .i64 0, .int .i64 0, .string ⟨#[]⟩, .slice none 0 0] 36) := ⟨_, rfl⟩
  rw [← hW0] at HT ⊢
  clear hW0
  obtain ⟨x0, x1, x2, x3⟩ := HT.out.ba.cells; obtain ⟨y0, y1, y2, y3⟩ := HT.out.bb.cells; obtain ⟨z0, z1, z2, z3⟩ := HT.out.br.cells; have f0 := HT.out.br.frozen 0; have f1 := HT.out.br.frozen 1; have f2 := HT.out.br.frozen 2; have f3 := HT.out.br.frozen 3
  first | (go_region_with (first
    | (go_at_call 34; refine (con_o ⟨#[45, 62]⟩ _).mono ?_; rintro e w2 ⟨rfl, hb⟩; have HT2 := HT; clear x0 x1 x2 x3 y0 y1 y2 y3 z0 z1 z2 z3 f0 f1 f2 f3; clear HT; have HT := Lib.hid (by first | exact HT2.out.next hb | exact HT2.out.drew.next hb); clear HT2 hb; obtain ⟨x0, x1, x2, x3⟩ := HT.out.ba.cells; obtain ⟨y0, y1, y2, y3⟩ := HT.out.bb.cells; obtain ⟨z0, z1, z2, z3⟩ := HT.out.br.cells; have f0 := HT.out.br.frozen 0; have f1 := HT.out.br.frozen 1; have f2 := HT.out.br.frozen 2; have f3 := HT.out.br.frozen 3)
    | (go_at_call 33; refine (app_o (ok := (fun g => ok g ∧ g ≠ w.heap.size + 1 + 1)) _ tb _ _ _ (fun g hg => ⟨HOK.out g (by have := HT.out.below.size; omega), three_ok HT.out g hg⟩) HV7.out (HVB.out _ HT.out.below)).mono ?_; rintro e w4 ⟨v, rfl, ⟨b9, c9, rfl, hs9, hl9⟩, hb⟩; have HV9 := Lib.hid (show VO (fun g => ok g ∧ g ≠ w.heap.size + 1 + 1) w4 (arrow ta tb) _ from ⟨b9, c9, rfl, hs9, hl9⟩); clear hs9 hl9 HV7; have HT2 := HT; clear x0 x1 x2 x3 y0 y1 y2 y3 z0 z1 z2 z3 f0 f1 f2 f3; clear HT; have HT := Lib.hid (by first | exact HT2.out.next hb | exact HT2.out.drew.next hb); clear HT2 hb; obtain ⟨x0, x1, x2, x3⟩ := HT.out.ba.cells; obtain ⟨y0, y1, y2, y3⟩ := HT.out.bb.cells; obtain ⟨z0, z1, z2, z3⟩ := HT.out.br.cells; have f0 := HT.out.br.frozen 0; have f1 := HT.out.br.frozen 1; have f2 := HT.out.br.frozen 2; have f3 := HT.out.br.frozen 3)
    | (go_at_call 33; refine (app_o (ok := (fun g => ok g ∧ g ≠ w.heap.size + 1 + 1)) (.mk 2 0 [45, 62] []) ta _ _ _ (fun g hg => ⟨HOK.out g (by have := HT.out.below.size; omega), three_ok HT.out g hg⟩) (vo_leaf _ _ 2 0 ⟨#[45, 62]⟩ (by decide)) (HVA.out _ HT.out.below)).mono ?_; rintro e w3 ⟨v, rfl, ⟨b7, c7, rfl, hs7, hl7⟩, hb⟩; have HV7 := Lib.hid (show VO (fun g => ok g ∧ g ≠ w.heap.size + 1 + 1) w3 (.mk 3 0 [] [.mk 2 0 [45, 62] [], ta]) _ from ⟨b7, c7, rfl, hs7, hl7⟩); clear hs7 hl7; have HT2 := HT; clear x0 x1 x2 x3 y0 y1 y2 y3 z0 z1 z2 z3 f0 f1 f2 f3; clear HT; have HT := Lib.hid (by first | exact HT2.out.next hb | exact HT2.out.drew.next hb); clear HT2 hb; obtain ⟨x0, x1, x2, x3⟩ := HT.out.ba.cells; obtain ⟨y0, y1, y2, y3⟩ := HT.out.bb.cells; obtain ⟨z0, z1, z2, z3⟩ := HT.out.br.cells; have f0 := HT.out.br.frozen 0; have f1 := HT.out.br.frozen 1; have f2 := HT.out.br.frozen 2; have f3 := HT.out.br.frozen 3))) | fail
  all_goals
    go_wp2_with fail
    refine bodyPost_ret (results_ty (a := 4) (by kernel_rfl) (B := w.heap.size + 1 + 1) (by rfl) (put4_cells HT.out.br _ _ _ _).cells.1 (put4_cells HT.out.br _ _ _ _).cells.2.1 (put4_cells HT.out.br _ _ _ _).cells.2.2.1 (put4_cells HT.out.br _ _ _ _).cells.2.2.2) rfl ?_
    first
    | exact ⟨_, rfl, HV9.out.keep (fun _ h => h.1) (fun p v hp hc => put4_keep _ _ _ _ p v hc hp.2), below_put4 HT.out.below (by omega) _ _ _ _⟩
    | exact ⟨_, rfl, HV9.out.keep (fun _ h => h.1) (fun p v hp hc => put4_keep _ _ _ _ p v hc hp.2), (below_put4 HT.out.below (by omega) _ _ _ _).drew⟩


def funT (r : Ty) : List Ty → Ty
  | [] => r
  | x :: l => arrow x (funT r l)
theorem funT_drop (r : Ty) {l : List Ty} {j : Nat} (h : j < l.length) : funT r (l.drop j) = arrow (l[j]'h) (funT r (l.drop (j + 1))) := by
  rw [List.drop_eq_getElem_cons h]; rfl

set_option maxHeartbeats 8000000 in
theorem fun_o {ok : Nat → Prop} (r : Ty) (l : List Ty) (vr : Value) (base : Option Addr) (cap : Nat) (w : World) (hok : ∀ g, w.heap.size ≤ g → ok g) (hr : VO ok w r vr) (hl : SlO ok w base l) : Calls Try.prog 64 #[.slice base l.length cap, vr] w (RetO ok (funT r l) w) := by
  have hf2 := hr
  obtain ⟨b, c, rfl, _, _⟩ := hf2
  have HST := Lib.hid (St.new hr)
  have HL := Lib.hid hl
  have hla := hl.1
  unfold maxLen at hla
  have HOK := Lib.hid hok
  clear hr hl hok
  obtain ⟨n, hn⟩ : ∃ n, n = l.length := ⟨_, rfl⟩
  rw [← hn] at hla ⊢
  have HN := Lib.hid hn
  clear hn
  go_enter Try.func64, Try.ntmps64
  go_wp2_with fail
  obtain ⟨W0, hW0⟩ : ∃ W0, W0 = (w.alloc (Obj.cells #[.int .i64 r.op, .int .i64 r.n, .string r.name, .slice b r.args.length c] 36)).alloc (Obj.cells #[.int .i64 0, .int .i64 0, .string ⟨#[]⟩, .slice none 0 0] 36) := ⟨_, rfl⟩
  rw [← hW0] at HST ⊢
  clear hW0
  go_loopw [5] (fun i wr => ∃ (j : Nat) (t : Ty) (b : Option Addr) (c : Nat), j ≤ n ∧ i = .int .i64 ((j : Int) - 1) ∧ Hid (St ok w wr t b c) ∧ Hid (t = funT r (l.drop j))) (fun i _ => (intOf i + 1).toNat)
  case atStart => exact ⟨n, r, b, c, Nat.le_refl _, rfl, HST, Lib.hid (by rw [List.drop_of_length_le (by rw [← HN.out]; exact Nat.le_refl _)]; rfl)⟩
  case round =>
    obtain ⟨j, t, b, c, hj, rfl, HST, hsum⟩ := hrel
    obtain ⟨z0, z1, z2, z3⟩ := HST.out.box.cells
    by_cases hlt : 0 < j
    · obtain ⟨k, rfl⟩ : ∃ k, j = k + 1 := ⟨j - 1, by omega⟩
      have ek : ((k + 1 : Nat) : Int) - 1 = (k : Int) := by omega
      rw [ek]
      have hk : k < n := by omega
      have h1 : k < l.length := by rw [← HN.out]; exact hk
      rcases HL.out.2 with h0 | ⟨g, o, rfl, _, hrow⟩
      · exact absurd h0 (List.ne_nil_of_length_pos (by omega))
      obtain ⟨xb, xc, d0, d1, d2, d3, hvw⟩ := atO_v (rowO_at h1 hrow)
      have c0 := keeps HST.out.below _ _ d0
      have c1 := keeps HST.out.below _ _ d1
      have c2 := keeps HST.out.below _ _ d2
      have c3 := keeps HST.out.below _ _ d3
      have hsum2 := funT_drop r h1
      rw [← hsum.out] at hsum2
      obtain ⟨x, hx⟩ : ∃ x, x = l[k]'h1 := ⟨_, rfl⟩
      rw [← hx] at c0 c1 c2 c3 hsum2 hvw
      obtain ⟨t', ht'⟩ : ∃ t', t' = arrow x t := ⟨_, rfl⟩
      rw [← ht'] at hsum2
      have hvo : VO (fun g => ok g ∧ g ≠ w.heap.size ∧ g ≠ w.heap.size + 1) wr x (.agg #[.int .i64 x.op, .int .i64 x.n, .string x.name, .slice xb x.args.length xc]) := by
        exact hvw.bound.keep (fun g hg => ⟨hg.1, by have := hg.2; omega, by have := hg.2; omega⟩) (fun p v _ hc => keeps HST.out.below p v hc)
      have hsz : w.heap.size + 1 < wr.heap.size := lt_of_block HST.out.res
      have hcall := fun w2 (hb : Below wr.heap.size wr w2) => arrow_o (ok := fun g => ok g ∧ g ≠ w.heap.size ∧ g ≠ w.heap.size + 1) x t _ _ w2 (fun g hg => by have := hb.size; have := HST.out.below.size; exact ⟨HOK.out g (by omega), by omega, by omega⟩) (hvo.next hb) (HST.out.v.next hb)
      rw [← ht'] at hcall
      have HCALL := Lib.hid hcall
      have HSUM := Lib.hid hsum2.symm
      clear hcall hsum2 hvw hvo hx hrow d0 d1 d2 d3 ht' hsz ek
      generalize x.op = xo at *
      generalize x.n = xn at *
      generalize x.name = xs at *
      generalize x.args.length = xl at *
      go_wp2_with fail
      first | (go_region_with (go_at_call 82; refine (HCALL.out _ ((Below.refl _ _).drew)).mono ?_; rintro e w2 ⟨v, rfl, ⟨b9, c9, rfl, hs9, hl9⟩, hb2⟩; have HV9 := Lib.hid (show VO (fun g => ok g ∧ g ≠ w.heap.size ∧ g ≠ w.heap.size + 1) w2 t' (.agg #[.int .i64 t'.op, .int .i64 t'.n, .string t'.name, .slice b9 t'.args.length c9]) from ⟨b9, c9, rfl, hs9, hl9⟩); have HST2 := Lib.hid (show St ok w w2 t b c by first | exact HST.out.next hb2 | exact (HST.out.next ((Below.refl _ _).drew)).next hb2); clear hs9 hl9 hb2 z0 z1 z2 z3; obtain ⟨z0, z1, z2, z3⟩ := HST2.out.box.cells; have f0 := HST2.out.box.frozen 0; have f1 := HST2.out.box.frozen 1; have f2 := HST2.out.box.frozen 2; have f3 := HST2.out.box.frozen 3)) | fail
      all_goals
        go_wp2_with fail
        go_roundw
        case rel => exact ⟨k, t', b9, c9, by omega, by go_num, Lib.hid (by first | exact HST2.out.put HV9.out | exact (HST2.out.put HV9.out).next ((Below.refl _ _).drew)), HSUM⟩
        case measure => simp [intOf]
    · obtain rfl : j = 0 := by omega
      have hT : t = funT r l := by rw [hsum.out, List.drop_zero]
      have HT := Lib.hid hT
      clear hT
      obtain ⟨r0, r1, r2, r3⟩ := HST.out.res.cells; have f0 := HST.out.res.frozen 0; have f1 := HST.out.res.frozen 1; have f2 := HST.out.res.frozen 2; have f3 := HST.out.res.frozen 3
      go_wp2_with fail
      refine bodyPost_ret (results_ty (a := 4) (by kernel_rfl) (B := w.heap.size + 1) (by rfl) (put4_cells HST.out.res _ _ _ _).cells.1 (put4_cells HST.out.res _ _ _ _).cells.2.1 (put4_cells HST.out.res _ _ _ _).cells.2.2.1 (put4_cells HST.out.res _ _ _ _).cells.2.2.2) rfl ?_
      refine ⟨_, rfl, ?_, below_put4 HST.out.below (by omega) _ _ _ _⟩
      rw [← HT.out]
      exact HST.out.v.keep (fun _ h => h.1) (fun p v hp hc => put4_keep _ _ _ _ p v hc hp.2.2)

theorem SlO.bound {ok : Nat → Prop} {w : World} {base : Option Addr} {l : List Ty} (h : SlO ok w base l) : SlO (fun g => ok g ∧ g < w.heap.size) w base l := by
  obtain ⟨hl, h4⟩ := h
  refine ⟨hl, ?_⟩
  by_cases hne : l = []
  · exact .inl hne
  · rcases h4 with h4 | ⟨g, o', e, hg, h4⟩
    · exact .inl h4
    · exact .inr ⟨g, o', e, ⟨hg, row_lt (RowO.weak h4) hne⟩, h4.bound⟩

set_option maxHeartbeats 4000000 in
theorem rfun_o {ok : Nat → Prop} (r : Ty) (l : List Ty) (vr : Value) (base : Option Addr) (cap : Nat) (w : World) (hok : ∀ g, w.heap.size ≤ g → ok g) (hr : VO ok w r vr) (hl : SlO ok w base l) : Calls Try.prog 35 #[.slice base l.length cap, vr] w (RetO ok (funT r l) w) := by
  have hf2 := hr
  obtain ⟨b, c, rfl, _, _⟩ := hf2
  have HST := Lib.hid (St.new hr)
  have hcall := fun W (hbw : Below w.heap.size w W) (hs : w.heap.size + 1 < W.heap.size) => fun_o (ok := fun g => ok g ∧ g ≠ w.heap.size ∧ g ≠ w.heap.size + 1) r l _ base cap W
    (fun g hg => ⟨hok g (by have := hbw.size; omega), by omega, by omega⟩)
    (hr.bound.keep (fun g hg => ⟨hg.1, by have := hg.2; omega, by have := hg.2; omega⟩) (fun p v _ hc => keeps hbw p v hc))
    (hl.bound.keep (fun g hg => ⟨hg.1, by have := hg.2; omega, by have := hg.2; omega⟩) (fun p v _ hc => keeps hbw p v hc))
  have HCALL := Lib.hid hcall
  clear hcall hr hl hok
  generalize l.length = n at *
  go_enter Try.func35, Try.ntmps35
  go_wp2_with fail
  obtain ⟨W0, hW0⟩ : ∃ W0, W0 = (w.alloc (Obj.cells #[.int .i64 r.op, .int .i64 r.n, .string r.name, .slice b r.args.length c] 36)).alloc (Obj.cells #[.int .i64 0, .int .i64 0, .string ⟨#[]⟩, .slice none 0 0] 36) := ⟨_, rfl⟩
  rw [← hW0] at HST ⊢
  clear hW0
  refine (HCALL.out _ HST.out.below (lt_of_block HST.out.res)).mono ?_
  rintro e w2 ⟨v, rfl, ⟨b9, c9, rfl, hs9, hl9⟩, hb2⟩
  have HV9 := Lib.hid (show VO (fun g => ok g ∧ g ≠ w.heap.size ∧ g ≠ w.heap.size + 1) w2 (funT r l) (.agg #[.int .i64 (funT r l).op, .int .i64 (funT r l).n, .string (funT r l).name, .slice b9 (funT r l).args.length c9]) from ⟨b9, c9, rfl, hs9, hl9⟩)
  have HST2 := Lib.hid (HST.out.next hb2)
  clear hs9 hl9 hb2 HST HCALL
  obtain ⟨r0, r1, r2, r3⟩ := HST2.out.res.cells; have f0 := HST2.out.res.frozen 0; have f1 := HST2.out.res.frozen 1; have f2 := HST2.out.res.frozen 2; have f3 := HST2.out.res.frozen 3
  go_wp2_with fail
  refine bodyPost_ret (results_ty (a := 4) (by kernel_rfl) (B := w.heap.size + 1) (by rfl) (put4_cells HST2.out.res _ _ _ _).cells.1 (put4_cells HST2.out.res _ _ _ _).cells.2.1 (put4_cells HST2.out.res _ _ _ _).cells.2.2.1 (put4_cells HST2.out.res _ _ _ _).cells.2.2.2) rfl ?_
  exact ⟨_, rfl, HV9.out.keep (fun _ h => h.1) (fun p v hp hc => put4_keep _ _ _ _ p v hc hp.2.2), below_put4 HST2.out.below (by omega) _ _ _ _⟩

end Ty
end Go.Proofs.Ytfjgebdpbmnicaa
