/- What the reference's App and Apply return. Conditions: the types lie in memory. -/
import Derived.Test.YtkedhnahgpmkaaaTyMore
import Derived.Test.YtkedhnahgpmkaaaTyArrow2
namespace Go.Proofs.Ytkedhnahgpmkaaa
open Go.RowKit

namespace Ty
mutual
theorem AtO.bound {ok : Nat → Prop} {w : World} {b o : Nat} : ∀ {t : Ty}, AtO ok w b o t → AtO (fun g => ok g ∧ g < w.heap.size) w b o t
  | .mk op n s args, ⟨h0, h1, h2, hs, base, cap, h3, hl, h4⟩ => by
    refine ⟨h0, h1, h2, hs, base, cap, h3, hl, ?_⟩
    by_cases hne : args = []
    · exact .inl hne
    · rcases h4 with h4 | ⟨g, o', e, hg, h4⟩
      · exact .inl h4
      · exact .inr ⟨g, o', e, ⟨hg, row_lt (RowO.weak h4) hne⟩, RowO.bound h4⟩
theorem RowO.bound {ok : Nat → Prop} {w : World} {b o : Nat} : ∀ {l : List Ty}, RowO ok w b o l → RowO (fun g => ok g ∧ g < w.heap.size) w b o l
  | [], _ => trivial
  | _ :: _, h => ⟨AtO.bound h.1, RowO.bound h.2⟩
end
theorem VO.bound {ok : Nat → Prop} {w : World} {t : Ty} {v : Value} (h : VO ok w t v) : VO (fun g => ok g ∧ g < w.heap.size) w t v := by
  obtain ⟨base, cap, e, hs, hl, h4⟩ := h
  refine ⟨base, cap, e, hs, hl, ?_⟩
  by_cases hne : t.args = []
  · exact .inl hne
  · rcases h4 with h4 | ⟨g, o', e, hg, h4⟩
    · exact .inl h4
    · exact .inr ⟨g, o', e, ⟨hg, row_lt (RowO.weak h4) hne⟩, h4.bound⟩
theorem VO.apart {ok : Nat → Prop} {w W : World} {B : Nat} {t : Ty} {v : Value} (h : VO ok w t v) (hb : Below w.heap.size w W) (hB : w.heap.size ≤ B) : VO (fun g => ok g ∧ g ≠ B) W t v :=
  h.bound.keep (fun g hg => ⟨hg.1, by omega⟩) (fun p v _ hc => keeps hb p v hc)

set_option maxHeartbeats 8000000 in
theorem rapp_o {ok : Nat → Prop} (ta tb : Ty) (va vb : Value) (w : World) (hok : ∀ g, w.heap.size ≤ g → ok g) (ha : VO ok w ta va) (hb : VO ok w tb vb) : Calls Try.prog 78 #[va, vb] w (RetO ok (.mk 3 0 [] [ta, tb]) w) := by
  have hva := fun W (hbw : Below w.heap.size w W) => ha.apart (B := w.heap.size + 1 + 1) hbw (by omega)
  have hvb := fun W (hbw : Below w.heap.size w W) => hb.apart (B := w.heap.size + 1 + 1) hbw (by omega)
  obtain ⟨ba, ca, ea, _, _⟩ := ha
  obtain ⟨bb, cb, eb, _, _⟩ := hb
  subst ea eb
  have HVA := Lib.hid hva
  have HVB := Lib.hid hvb
  have HOK := Lib.hid hok
  clear hva hvb hok
  have HT := Lib.hid (Three.new w (.int .i64 ta.op) (.int .i64 ta.n) (.string ta.name) (.slice ba ta.args.length ca) (.int .i64 tb.op) (.int .i64 tb.n) (.string tb.name) (.slice bb tb.args.length cb))
  go_enter Try.func78, Try.ntmps78
  go_wp2_with fail
  obtain ⟨W0, hW0⟩ : ∃ W0, W0 = ((w.alloc (Obj.cells #[.int .i64 ta.op, .int .i64 ta.n, .string ta.name, .slice ba ta.args.length ca] 24)).alloc (Obj.cells #[.int .i64 tb.op, .int .i64 tb.n, .string tb.name, .slice bb tb.args.length cb] 24)).alloc (Obj.cells #[.int .i64 0, .int .i64 0, .string ⟨#[]⟩, .slice none 0 0] 24) := ⟨_, rfl⟩
  rw [← hW0] at HT ⊢
  clear hW0
  refine (app_o (ok := fun g => ok g ∧ g ≠ w.heap.size + 1 + 1) ta tb _ _ _ (fun g hg => ⟨HOK.out g (by have := HT.out.below.size; omega), three_ok HT.out g hg⟩) (HVA.out _ HT.out.below) (HVB.out _ HT.out.below)).mono ?_
  rintro e w2 ⟨v, rfl, ⟨b9, c9, rfl, hs9, hl9⟩, hb⟩
  have HV9 := Lib.hid (show VO (fun g => ok g ∧ g ≠ w.heap.size + 1 + 1) w2 (.mk 3 0 [] [ta, tb]) _ from ⟨b9, c9, rfl, hs9, hl9⟩)
  clear hs9 hl9
  have HT2 := Lib.hid (HT.out.next hb)
  clear HT hb
  obtain ⟨z0, z1, z2, z3⟩ := HT2.out.br.cells; have f0 := HT2.out.br.frozen 0; have f1 := HT2.out.br.frozen 1; have f2 := HT2.out.br.frozen 2; have f3 := HT2.out.br.frozen 3
  go_wp2_with fail
  refine bodyPost_ret (results_ty (a := 4) (by kernel_rfl) (B := w.heap.size + 1 + 1) (by rfl) (put4_cells HT2.out.br _ _ _ _).cells.1 (put4_cells HT2.out.br _ _ _ _).cells.2.1 (put4_cells HT2.out.br _ _ _ _).cells.2.2.1 (put4_cells HT2.out.br _ _ _ _).cells.2.2.2) rfl ?_
  exact ⟨_, rfl, HV9.out.keep (fun _ h => h.1) (fun p v hp hc => put4_keep _ _ _ _ p v hc hp.2), below_put4 HT2.out.below (by omega) _ _ _ _⟩

/-- a type applied to types -/
def applyT (f : Ty) : List Ty → Ty
  | [] => f
  | x :: l => applyT (.mk 3 0 [] [f, x]) l
theorem applyT_nil (f : Ty) : applyT f [] = f := rfl
theorem applyT_drop (f : Ty) {l : List Ty} {j : Nat} (h : j < l.length) : applyT f (l.drop j) = applyT (.mk 3 0 [] [f, l[j]'h]) (l.drop (j + 1)) := by
  rw [List.drop_eq_getElem_cons h]; rfl

theorem rowO_at {ok : Nat → Prop} {w : World} {b : Nat} : ∀ {l : List Ty} {o i : Nat} (h : i < l.length), RowO ok w b o l → AtO ok w b (o + i * 4) (l[i]'h)
  | t :: l, o, 0, _, hr => by simpa using hr.1
  | t :: l, o, i + 1, h, hr => by
    have := rowO_at (o := o + 4) (i := i) (by simpa using h) hr.2
    rw [show o + 4 + i * 4 = o + (i + 1) * 4 from by omega] at this
    exact this
theorem atO_v {ok : Nat → Prop} {w : World} {b o : Nat} {t : Ty} (h : AtO ok w b o t) : ∃ base cap, w.cell? ⟨b, o, none⟩ = some (.int .i64 t.op) ∧ w.cell? ⟨b, o + 1, none⟩ = some (.int .i64 t.n) ∧ w.cell? ⟨b, o + 2, none⟩ = some (.string t.name) ∧ w.cell? ⟨b, o + 3, none⟩ = some (.slice base t.args.length cap) ∧
    VO ok w t (.agg #[.int .i64 t.op, .int .i64 t.n, .string t.name, .slice base t.args.length cap]) := by
  obtain ⟨h0, h1, h2, hs, base, cap, h3, hl⟩ := atO_iff.mp h
  exact ⟨base, cap, h0, h1, h2, h3, base, cap, rfl, hs, hl⟩

/-- a world in which a type stands in a box that is written again and again, beside the result's box -/
structure St (ok : Nat → Prop) (w W : World) (t : Ty) (b : Option Addr) (c : Nat) : Prop where
  below : Below w.heap.size w W
  box : B4 W w.heap.size (.int .i64 t.op) (.int .i64 t.n) (.string t.name) (.slice b t.args.length c)
  res : B4 W (w.heap.size + 1) (.int .i64 0) (.int .i64 0) (.string ⟨#[]⟩) (.slice none 0 0)
  v : VO (fun g => ok g ∧ g ≠ w.heap.size ∧ g ≠ w.heap.size + 1) W t (.agg #[.int .i64 t.op, .int .i64 t.n, .string t.name, .slice b t.args.length c])
theorem St.next {ok : Nat → Prop} {w W W' : World} {t : Ty} {b : Option Addr} {c : Nat} (h : St ok w W t b c) (hb : Below W.heap.size W W') : St ok w W' t b c :=
  ⟨h.below.trans (hb.mono h.below.size), h.box.next hb, h.res.next hb, h.v.next hb⟩
theorem put4_other {W : World} {B C : Nat} (h : C ≠ B) (v0 v1 v2 v3 : Value) : (put4 W B v0 v1 v2 v3).heap[C]? = W.heap[C]? := by
  unfold put4
  simp [World.setCell, Array.getElem?_modify, h.symm]
theorem St.put {ok : Nat → Prop} {w W : World} {t t' : Ty} {b b' : Option Addr} {c c' : Nat} (h : St ok w W t b c) (hv : VO (fun g => ok g ∧ g ≠ w.heap.size ∧ g ≠ w.heap.size + 1) W t' (.agg #[.int .i64 t'.op, .int .i64 t'.n, .string t'.name, .slice b' t'.args.length c'])) :
    St ok w (put4 W w.heap.size (.int .i64 t'.op) (.int .i64 t'.n) (.string t'.name) (.slice b' t'.args.length c')) t' b' c' :=
  ⟨below_put4 h.below (Nat.le_refl _) _ _ _ _, put4_cells h.box _ _ _ _, (put4_other (by omega) _ _ _ _).trans h.res, hv.keep (fun _ h => h) (fun p v hp hc => put4_keep _ _ _ _ p v hc hp.2.1)⟩
theorem St.new {ok : Nat → Prop} {w : World} {t : Ty} {b : Option Addr} {c : Nat} (h : VO ok w t (.agg #[.int .i64 t.op, .int .i64 t.n, .string t.name, .slice b t.args.length c])) :
    St ok w ((w.alloc (Obj.cells #[.int .i64 t.op, .int .i64 t.n, .string t.name, .slice b t.args.length c] 24)).alloc (Obj.cells #[.int .i64 0, .int .i64 0, .string ⟨#[]⟩, .slice none 0 0] 24)) t b c :=
  ⟨below_two w _ _, (two_boxes w _ _ _ _ _ _ _ _).1, (two_boxes w _ _ _ _ _ _ _ _).2, h.bound.keep (fun g hg => ⟨hg.1, by have := hg.2; omega, by have := hg.2; omega⟩) (fun p v _ hc => keeps (below_two w _ _) p v hc)⟩

set_option maxHeartbeats 8000000 in
theorem apply_o {ok : Nat → Prop} (f : Ty) (l : List Ty) (vf : Value) (base : Option Addr) (cap : Nat) (w : World) (hok : ∀ g, w.heap.size ≤ g → ok g) (hf : VO ok w f vf) (hl : SlO ok w base l) : Calls Try.prog 40 #[vf, .slice base l.length cap] w (RetO ok (applyT f l) w) := by
  have hf2 := hf
  obtain ⟨b, c, rfl, _, _⟩ := hf2
  have HST := Lib.hid (St.new hf)
  have HL := Lib.hid hl
  have hla := hl.1
  unfold maxLen at hla
  have HOK := Lib.hid hok
  clear hf hl hok
  obtain ⟨n, hn⟩ : ∃ n, n = l.length := ⟨_, rfl⟩
  rw [← hn] at hla ⊢
  have HN := Lib.hid hn
  clear hn
  go_enter Try.func40, Try.ntmps40
  go_wp2_with fail
  obtain ⟨W0, hW0⟩ : ∃ W0, W0 = (w.alloc (Obj.cells #[.int .i64 f.op, .int .i64 f.n, .string f.name, .slice b f.args.length c] 24)).alloc (Obj.cells #[.int .i64 0, .int .i64 0, .string ⟨#[]⟩, .slice none 0 0] 24) := ⟨_, rfl⟩
  rw [← hW0] at HST ⊢
  clear hW0
  go_loopw [9] (fun i wr => ∃ (j : Nat) (t : Ty) (b : Option Addr) (c : Nat), j ≤ n ∧ i = .int .i64 j ∧ Hid (St ok w wr t b c) ∧ Hid (applyT t (l.drop j) = applyT f l)) (fun i _ => n - (intOf i).toNat)
  case atStart => exact ⟨0, f, b, c, Nat.zero_le _, rfl, HST, Lib.hid (by rw [List.drop_zero])⟩
  case round =>
    obtain ⟨j, t, b, c, hj, rfl, HST, hsum⟩ := hrel
    obtain ⟨z0, z1, z2, z3⟩ := HST.out.box.cells
    by_cases hlt : j < n
    · have h1 : j < l.length := by rw [← HN.out]; exact hlt
      rcases HL.out.2 with h0 | ⟨g, o, rfl, _, hrow⟩
      · exact absurd h0 (List.ne_nil_of_length_pos (by omega))
      obtain ⟨xb, xc, d0, d1, d2, d3, hvw⟩ := atO_v (rowO_at h1 hrow)
      have c0 := keeps HST.out.below _ _ d0
      have c1 := keeps HST.out.below _ _ d1
      have c2 := keeps HST.out.below _ _ d2
      have c3 := keeps HST.out.below _ _ d3
      have hsum2 := hsum.out
      rw [applyT_drop _ h1] at hsum2
      obtain ⟨x, hx⟩ : ∃ x, x = l[j]'h1 := ⟨_, rfl⟩
      rw [← hx] at c0 c1 c2 c3 hsum2 hvw
      obtain ⟨t', ht'⟩ : ∃ t', t' = Ty.mk 3 0 [] [t, x] := ⟨_, rfl⟩
      rw [← ht'] at hsum2
      have hvo : VO (fun g => ok g ∧ g ≠ w.heap.size ∧ g ≠ w.heap.size + 1) wr x (.agg #[.int .i64 x.op, .int .i64 x.n, .string x.name, .slice xb x.args.length xc]) := by
        exact hvw.bound.keep (fun g hg => ⟨hg.1, by have := hg.2; omega, by have := hg.2; omega⟩) (fun p v _ hc => keeps HST.out.below p v hc)
      have hsz : w.heap.size + 1 < wr.heap.size := lt_of_block HST.out.res
      have hcall := fun w2 (hb : Below wr.heap.size wr w2) => rapp_o (ok := fun g => ok g ∧ g ≠ w.heap.size ∧ g ≠ w.heap.size + 1) t x _ _ w2 (fun g hg => by have := hb.size; have := HST.out.below.size; exact ⟨HOK.out g (by omega), by omega, by omega⟩) (HST.out.v.next hb) (hvo.next hb)
      rw [← ht'] at hcall
      have HCALL := Lib.hid hcall
      have HSUM := Lib.hid hsum2
      have HA1 : Hid (∀ o, Below wr.heap.size wr (wr.alloc o)) := Lib.hid (fun o => (Below.refl _ _).alloc (Nat.le_refl _) _)
      have y0 := fun o => keeps (HA1.out o) _ _ z0
      have y1 := fun o => keeps (HA1.out o) _ _ z1
      have y2 := fun o => keeps (HA1.out o) _ _ z2
      have y3 := fun o => keeps (HA1.out o) _ _ z3
      clear hcall hsum2 hvw hvo hx hrow d0 d1 d2 d3 ht' hsz z0 z1 z2 z3
      generalize x.op = xo at *
      generalize x.n = xn at *
      generalize x.name = xs at *
      generalize x.args.length = xl at *
      go_wp2_with fail
      refine (HCALL.out _ (HA1.out _)).mono ?_
      rintro e w2 ⟨v, rfl, ⟨b9, c9, rfl, hs9, hl9⟩, hb2⟩
      have HV9 := Lib.hid (show VO (fun g => ok g ∧ g ≠ w.heap.size ∧ g ≠ w.heap.size + 1) w2 t' (.agg #[.int .i64 t'.op, .int .i64 t'.n, .string t'.name, .slice b9 t'.args.length c9]) from ⟨b9, c9, rfl, hs9, hl9⟩)
      have HST2 := Lib.hid (HST.out.next ((HA1.out _).trans (hb2.mono (HA1.out _).size)))
      clear hs9 hl9 hb2 y0 y1 y2 y3
      obtain ⟨z0, z1, z2, z3⟩ := HST2.out.box.cells; have f0 := HST2.out.box.frozen 0; have f1 := HST2.out.box.frozen 1; have f2 := HST2.out.box.frozen 2; have f3 := HST2.out.box.frozen 3
      go_wp2_with fail
      go_roundw
      case rel => exact ⟨j + 1, t', b9, c9, by omega, by go_num, Lib.hid (HST2.out.put HV9.out), HSUM⟩
      case measure => simp [intOf]; omega
    · have hT : t = applyT f l := by
        rw [← hsum.out, List.drop_of_length_le (by rw [← HN.out]; omega)]; rfl
      have HT := Lib.hid hT
      clear hT
      obtain ⟨r0, r1, r2, r3⟩ := HST.out.res.cells; have f0 := HST.out.res.frozen 0; have f1 := HST.out.res.frozen 1; have f2 := HST.out.res.frozen 2; have f3 := HST.out.res.frozen 3
      go_wp2_with fail
      refine bodyPost_ret (results_ty (a := 4) (by kernel_rfl) (B := w.heap.size + 1) (by rfl) (put4_cells HST.out.res _ _ _ _).cells.1 (put4_cells HST.out.res _ _ _ _).cells.2.1 (put4_cells HST.out.res _ _ _ _).cells.2.2.1 (put4_cells HST.out.res _ _ _ _).cells.2.2.2) rfl ?_
      refine ⟨_, rfl, ?_, below_put4 HST.out.below (by omega) _ _ _ _⟩
      rw [← HT.out]
      exact HST.out.v.keep (fun _ h => h.1) (fun p v hp hc => put4_keep _ _ _ _ p v hc hp.2.2)

end Ty
end Go.Proofs.Ytkedhnahgpmkaaa
