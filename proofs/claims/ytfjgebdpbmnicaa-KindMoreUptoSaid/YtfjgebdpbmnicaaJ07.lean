/- What the reference's App and Apply return. Conditions: the types lie in memory. -/
import Derived.Test.YtfjgebdpbmnicaaJ05
import Derived.Test.YtfjgebdpbmnicaaJ06
import Derived.Deep.RegionHeld3
import Derived.IntWalk
namespace Go.Proofs.Ytfjgebdpbmnicaa
open Go.RowKit

namespace Ty
mutual
theorem AtO.bound {ok : Nat → Prop} {w : World} {b o : Nat} : ∀ {t : Ty}, AtO ok w b o t → AtO (fun g => ok g ∧ g < w.heap.size) w b o t
  | .mk op n s args, ⟨h0, h1, h2, hs, base, cap, h3, hl, h4⟩ => by
    refine ⟨h0, h1, h2, hs, base, cap, h3, hl, ?_⟩
    by_cases hne : args = []
    · exact .inl hne
    · rcases h4 with h4 | ⟨g, o', e, hg, h4⟩
      · exact .inl h4
      · exact .inr ⟨g, o', e, ⟨hg, row_lt (RowO.weak h4) hne⟩, RowO.bound h4⟩
theorem RowO.bound {ok : Nat → Prop} {w : World} {b o : Nat} : ∀ {l : List Ty}, RowO ok w b o l → RowO (fun g => ok g ∧ g < w.heap.size) w b o l
  | [], _ => trivial
  | _ :: _, h => ⟨AtO.bound h.1, RowO.bound h.2⟩
end
theorem VO.bound {ok : Nat → Prop} {w : World} {t : Ty} {v : Value} (h : VO ok w t v) : VO (fun g => ok g ∧ g < w.heap.size) w t v := by
  obtain ⟨base, cap, e, hs, hl, h4⟩ := h
  refine ⟨base, cap, e, hs, hl, ?_⟩
  by_cases hne : t.args = []
  · exact .inl hne
  · rcases h4 with h4 | ⟨g, o', e, hg, h4⟩
    · exact .inl h4
    · exact .inr ⟨g, o', e, ⟨hg, row_lt (RowO.weak h4) hne⟩, h4.bound⟩
theorem VO.apart {ok : Nat → Prop} {w W : World} {B : Nat} {t : Ty} {v : Value} (h : VO ok w t v) (hb : Below w.heap.size w W) (hB : w.heap.size ≤ B) : VO (fun g => ok g ∧ g ≠ B) W t v :=
  h.bound.keep (fun g hg => ⟨hg.1, by omega⟩) (fun p v _ hc => keeps hb p v hc)

set_option maxHeartbeats 8000000 in
theorem rapp_o {ok : Nat → Prop} (ta tb : Ty) (va vb : Value) (w : World) (hok : ∀ g, w.heap.size ≤ g → ok g) (ha : VO ok w ta va) (hb : VO ok w tb vb) : Calls Try.prog 10 #[va, vb] w (RetO ok (.mk 3 0 [] [ta, tb]) w) := by
  have hva := fun W (hbw : Below w.heap.size w W) => ha.apart (B := w.heap.size + 1 + 1) hbw (by omega)
  have hvb := fun W (hbw : Below w.heap.size w W) => hb.apart (B := w.heap.size + 1 + 1) hbw (by omega)
  obtain ⟨ba, ca, ea, _, _⟩ := ha
  obtain ⟨bb, cb, eb, _, _⟩ := hb
  subst ea eb
  have HVA := Lib.hid hva
  have HVB := Lib.hid hvb
  have HOK := Lib.hid hok
  clear hva hvb hok
  have HT := Lib.hid (Three.new w (.int .i64 ta.op) (.int .i64 ta.n) (.string ta.name) (.slice ba ta.args.length ca) (.int .i64 tb.op) (.int .i64 tb.n) (.string tb.name) (.slice bb tb.args.length cb))
  go_enter Try.func10, Try.ntmps10
  go_wp2_with fail
  obtain ⟨W0, hW0⟩ : ∃ W0, W0 = ((w.alloc (Obj.cells #[.int .i64 ta.op, .int .i64 ta.n, .string ta.name, .slice ba ta.args.length ca] 36)).alloc (Obj.cells #[.int .i64 tb.op, .int .i64 tb.n, .string tb.name, .slice bb tb.args.length cb] 36)).alloc (Obj.cells #[.int .i64 0, .int .i64 0, .string ⟨#[]⟩, .slice none 0 0] 36) := ⟨_, rfl⟩
  rw [← hW0] at HT ⊢
  clear hW0
  refine (app_o (ok := fun g => ok g ∧ g ≠ w.heap.size + 1 + 1) ta tb _ _ _ (fun g hg => ⟨HOK.out g (by have := HT.out.below.size; omega), three_ok HT.out g hg⟩) (HVA.out _ HT.out.below) (HVB.out _ HT.out.below)).mono ?_
  rintro e w2 ⟨v, rfl, ⟨b9, c9, rfl, hs9, hl9⟩, hb⟩
  have HV9 := Lib.hid (show VO (fun g => ok g ∧ g ≠ w.heap.size + 1 + 1) w2 (.mk 3 0 [] [ta, tb]) _ from ⟨b9, c9, rfl, hs9, hl9⟩)
  clear hs9 hl9
  have HT2 := Lib.hid (HT.out.next hb)
  clear HT hb
  obtain ⟨z0, z1, z2, z3⟩ := HT2.out.br.cells; have f0 := HT2.out.br.frozen 0; have f1 := HT2.out.br.frozen 1; have f2 := HT2.out.br.frozen 2; have f3 := HT2.out.br.frozen 3
  go_wp2_with fail
  refine bodyPost_ret (results_ty (a := 4) (by kernel_rfl) (B := w.heap.size + 1 + 1) (by rfl) (put4_cells HT2.out.br _ _ _ _).cells.1 (put4_cells HT2.out.br _ _ _ _).cells.2.1 (put4_cells HT2.out.br _ _ _ _).cells.2.2.1 (put4_cells HT2.out.br _ _ _ _).cells.2.2.2) rfl ?_
  exact ⟨_, rfl, HV9.out.keep (fun _ h => h.1) (fun p v hp hc => put4_keep _ _ _ _ p v hc hp.2), below_put4 HT2.out.below (by omega) _ _ _ _⟩

/-- a type applied to types -/
def applyT (f : Ty) : List Ty → Ty
  | [] => f
  | x :: l => applyT (.mk 3 0 [] [f, x]) l
theorem applyT_nil (f : Ty) : applyT f [] = f := rfl
theorem applyT_drop (f : Ty) {l : List Ty} {j : Nat} (h : j < l.length) : applyT f (l.drop j) = applyT (.mk 3 0 [] [f, l[j]'h]) (l.drop (j + 1)) := by
  rw [List.drop_eq_getElem_cons h]; rfl

theorem rowO_at {ok : Nat → Prop} {w : World} {b : Nat} : ∀ {l : List Ty} {o i : Nat} (h : i < l.length), RowO ok w b o l → AtO ok w b (o + i * 4) (l[i]'h)
  | t :: l, o, 0, _, hr => by simpa using hr.1
  | t :: l, o, i + 1, h, hr => by
    have := rowO_at (o := o + 4) (i := i) (by simpa using h) hr.2
    rw [show o + 4 + i * 4 = o + (i + 1) * 4 from by omega] at this
    exact this
theorem atO_v {ok : Nat → Prop} {w : World} {b o : Nat} {t : Ty} (h : AtO ok w b o t) : ∃ base cap, w.cell? ⟨b, o, none⟩ = some (.int .i64 t.op) ∧ w.cell? ⟨b, o + 1, none⟩ = some (.int .i64 t.n) ∧ w.cell? ⟨b, o + 2, none⟩ = some (.string t.name) ∧ w.cell? ⟨b, o + 3, none⟩ = some (.slice base t.args.length cap) ∧
    VO ok w t (.agg #[.int .i64 t.op, .int .i64 t.n, .string t.name, .slice base t.args.length cap]) := by
  obtain ⟨h0, h1, h2, hs, base, cap, h3, hl⟩ := atO_iff.mp h
  exact ⟨base, cap, h0, h1, h2, h3, base, cap, rfl, hs, hl⟩

/-- a world in which a type stands in a box that is written again and again, beside the result's box -/
structure St (ok : Nat → Prop) (w W : World) (t : Ty) (b : Option Addr) (c : Nat) : Prop where
  below : Below w.heap.size w W
  box : B4 W w.heap.size (.int .i64 t.op) (.int .i64 t.n) (.string t.name) (.slice b t.args.length c)
  res : B4 W (w.heap.size + 1) (.int .i64 0) (.int .i64 0) (.string ⟨#[]⟩) (.slice none 0 0)
  v : VO (fun g => ok g ∧ g ≠ w.heap.size ∧ g ≠ w.heap.size + 1) W t (.agg #[.int .i64 t.op, .int .i64 t.n, .string t.name, .slice b t.args.length c])
theorem St.next {ok : Nat → Prop} {w W W' : World} {t : Ty} {b : Option Addr} {c : Nat} (h : St ok w W t b c) (hb : Below W.heap.size W W') : St ok w W' t b c :=
  ⟨h.below.trans (hb.mono h.below.size), h.box.next hb, h.res.next hb, h.v.next hb⟩
theorem put4_other {W : World} {B C : Nat} (h : C ≠ B) (v0 v1 v2 v3 : Value) : (put4 W B v0 v1 v2 v3).heap[C]? = W.heap[C]? := by
  unfold put4
  simp [World.setCell, Array.getElem?_modify, h.symm]
theorem St.put {ok : Nat → Prop} {w W : World} {t t' : Ty} {b b' : Option Addr} {c c' : Nat} (h : St ok w W t b c) (hv : VO (fun g => ok g ∧ g ≠ w.heap.size ∧ g ≠ w.heap.size + 1) W t' (.agg #[.int .i64 t'.op, .int .i64 t'.n, .string t'.name, .slice b' t'.args.length c'])) :
    St ok w (put4 W w.heap.size (.int .i64 t'.op) (.int .i64 t'.n) (.string t'.name) (.slice b' t'.args.length c')) t' b' c' :=
  ⟨below_put4 h.below (Nat.le_refl _) _ _ _ _, put4_cells h.box _ _ _ _, (put4_other (by omega) _ _ _ _).trans h.res, hv.keep (fun _ h => h) (fun p v hp hc => put4_keep _ _ _ _ p v hc hp.2.1)⟩
theorem St.new {ok : Nat → Prop} {w : World} {t : Ty} {b : Option Addr} {c : Nat} (h : VO ok w t (.agg #[.int .i64 t.op, .int .i64 t.n, .string t.name, .slice b t.args.length c])) :
    St ok w ((w.alloc (Obj.cells #[.int .i64 t.op, .int .i64 t.n, .string t.name, .slice b t.args.length c] 36)).alloc (Obj.cells #[.int .i64 0, .int .i64 0, .string ⟨#[]⟩, .slice none 0 0] 36)) t b c :=
  ⟨below_two w _ _, (two_boxes w _ _ _ _ _ _ _ _).1, (two_boxes w _ _ _ _ _ _ _ _).2, h.bound.keep (fun g hg => ⟨hg.1, by have := hg.2; omega, by have := hg.2; omega⟩) (fun p v _ hc => keeps (below_two w _ _) p v hc)⟩

set_option maxHeartbeats 8000000 in
theorem apply_o {ok : Nat → Prop} (f : Ty) (l : List Ty) (vf : Value) (base : Option Addr) (cap : Nat) (w : World) (hok : ∀ g, w.heap.size ≤ g → ok g) (hf : VO ok w f vf) (hl : SlO ok w base l) : Calls Try.prog 13 #[vf, .slice base l.length cap] w (RetO ok (applyT f l) w) := by
  have hf2 := hf
  obtain ⟨b, c, rfl, _, _⟩ := hf2
  have HST := Lib.hid (St.new hf)
  have HL := Lib.hid hl
  have hla := hl.1
  unfold maxLen at hla
  have HOK := Lib.hid hok
  clear hf hl hok
  obtain ⟨n, hn⟩ : ∃ n, n = l.length := ⟨_, rfl⟩
  rw [← hn] at hla ⊢
  have HN := Lib.hid hn
  clear hn
  go_enter Try.func13, Try.ntmps13
  go_wp2_with fail
  obtain ⟨W0, hW0⟩ : ∃ W0, W0 = (w.alloc (Obj.cells #[.int .i64 f.op, .int .i64 f.n, .string f.name, .slice b f.args.length c] 36)).alloc (Obj.cells #[.int .i64 0, .int .i64 0, .string ⟨#[]⟩, .slice none 0 0] 36) := ⟨_, rfl⟩
  rw [← hW0] at HST ⊢
  clear hW0
  go_loopw [9] (fun i wr => ∃ (j : Nat) (t : Ty) (b : Option Addr) (c : Nat), j ≤ n ∧ i = .int .i64 j ∧ Hid (St ok w wr t b c) ∧ Hid (applyT t (l.drop j) = applyT f l)) (fun i _ => n - (intOf i).toNat)
  case atStart => exact ⟨0, f, b, c, Nat.zero_le _, rfl, HST, Lib.hid (by rw [List.drop_zero])⟩
  case round =>
    obtain ⟨j, t, b, c, hj, rfl, HST, hsum⟩ := hrel
    obtain ⟨z0, z1, z2, z3⟩ := HST.out.box.cells
    by_cases hlt : j < n
    · have h1 : j < l.length := by rw [← HN.out]; exact hlt
      rcases HL.out.2 with h0 | ⟨g, o, rfl, _, hrow⟩
      · exact absurd h0 (List.ne_nil_of_length_pos (by omega))
      obtain ⟨xb, xc, d0, d1, d2, d3, hvw⟩ := atO_v (rowO_at h1 hrow)
      have c0 := keeps HST.out.below _ _ d0
      have c1 := keeps HST.out.below _ _ d1
      have c2 := keeps HST.out.below _ _ d2
      have c3 := keeps HST.out.below _ _ d3
      have hsum2 := hsum.out
      rw [applyT_drop _ h1] at hsum2
      obtain ⟨x, hx⟩ : ∃ x, x = l[j]'h1 := ⟨_, rfl⟩
      rw [← hx] at c0 c1 c2 c3 hsum2 hvw
      obtain ⟨t', ht'⟩ : ∃ t', t' = Ty.mk 3 0 [] [t, x] := ⟨_, rfl⟩
      rw [← ht'] at hsum2
      have hvo : VO (fun g => ok g ∧ g ≠ w.heap.size ∧ g ≠ w.heap.size + 1) wr x (.agg #[.int .i64 x.op, .int .i64 x.n, .string x.name, .slice xb x.args.length xc]) := by
        exact hvw.bound.keep (fun g hg => ⟨hg.1, by have := hg.2; omega, by have := hg.2; omega⟩) (fun p v _ hc => keeps HST.out.below p v hc)
      have hsz : w.heap.size + 1 < wr.heap.size := lt_of_block HST.out.res
      have hcall := fun w2 (hb : Below wr.heap.size wr w2) => rapp_o (ok := fun g => ok g ∧ g ≠ w.heap.size ∧ g ≠ w.heap.size + 1) t x _ _ w2 (fun g hg => by have := hb.size; have := HST.out.below.size; exact ⟨HOK.out g (by omega), by omega, by omega⟩) (HST.out.v.next hb) (hvo.next hb)
      rw [← ht'] at hcall
      have HCALL := Lib.hid hcall
      have HSUM := Lib.hid hsum2
      have HA1 : Hid (∀ o, Below wr.heap.size wr (wr.alloc o)) := Lib.hid (fun o => (Below.refl _ _).alloc (Nat.le_refl _) _)
      have y0 := fun o => keeps (HA1.out o) _ _ z0
      have y1 := fun o => keeps (HA1.out o) _ _ z1
      have y2 := fun o => keeps (HA1.out o) _ _ z2
      have y3 := fun o => keeps (HA1.out o) _ _ z3
      clear hcall hsum2 hvw hvo hx hrow d0 d1 d2 d3 ht' hsz z0 z1 z2 z3
      generalize x.op = xo at *
      generalize x.n = xn at *
      generalize x.name = xs at *
      generalize x.args.length = xl at *
      go_wp2_with fail
      refine (HCALL.out _ (HA1.out _)).mono ?_
      rintro e w2 ⟨v, rfl, ⟨b9, c9, rfl, hs9, hl9⟩, hb2⟩
      have HV9 := Lib.hid (show VO (fun g => ok g ∧ g ≠ w.heap.size ∧ g ≠ w.heap.size + 1) w2 t' (.agg #[.int .i64 t'.op, .int .i64 t'.n, .string t'.name, .slice b9 t'.args.length c9]) from ⟨b9, c9, rfl, hs9, hl9⟩)
      have HST2 := Lib.hid (HST.out.next ((HA1.out _).trans (hb2.mono (HA1.out _).size)))
      clear hs9 hl9 hb2 y0 y1 y2 y3
      obtain ⟨z0, z1, z2, z3⟩ := HST2.out.box.cells; have f0 := HST2.out.box.frozen 0; have f1 := HST2.out.box.frozen 1; have f2 := HST2.out.box.frozen 2; have f3 := HST2.out.box.frozen 3
      go_wp2_with fail
      go_roundw
      case rel => exact ⟨j + 1, t', b9, c9, by omega, by go_num, Lib.hid (HST2.out.put HV9.out), HSUM⟩
      case measure => simp [intOf]; omega
    · have hT : t = applyT f l := by
        rw [← hsum.out, List.drop_of_length_le (by rw [← HN.out]; omega)]; rfl
      have HT := Lib.hid hT
      clear hT
      obtain ⟨r0, r1, r2, r3⟩ := HST.out.res.cells; have f0 := HST.out.res.frozen 0; have f1 := HST.out.res.frozen 1; have f2 := HST.out.res.frozen 2; have f3 := HST.out.res.frozen 3
      go_wp2_with fail
      refine bodyPost_ret (results_ty (a := 4) (by kernel_rfl) (B := w.heap.size + 1) (by rfl) (put4_cells HST.out.res _ _ _ _).cells.1 (put4_cells HST.out.res _ _ _ _).cells.2.1 (put4_cells HST.out.res _ _ _ _).cells.2.2.1 (put4_cells HST.out.res _ _ _ _).cells.2.2.2) rfl ?_
      refine ⟨_, rfl, ?_, below_put4 HST.out.below (by omega) _ _ _ _⟩
      rw [← HT.out]
      exact HST.out.v.keep (fun _ h => h.1) (fun p v hp hc => put4_keep _ _ _ _ p v hc hp.2.2)

end Ty
end Go.Proofs.Ytfjgebdpbmnicaa

/- What the program's Type and binds return for any type. Conditions: the type lies in memory. -/
namespace Go.Proofs.Ytfjgebdpbmnicaa
open Go.RowKit

namespace Ty
theorem box_at {w : World} {t : Ty} {base : Option Addr} {cap : Nat} (hs : t.s.length ≤ maxLen) (hl : Sl w base t.args) : At (w.alloc (Obj.cells #[.int .i64 t.op, .int .i64 t.n, .string t.name, .slice base t.args.length cap] 36)) w.heap.size 0 t := by
  obtain ⟨b0, b1, b2, b3⟩ := box4 w (.int .i64 t.op) (.int .i64 t.n) (.string t.name) (.slice base t.args.length cap)
  exact at_iff.mpr ⟨b0, b1, b2, hs, base, cap, b3, hl.next ((Below.refl _ _).alloc (Nat.le_refl _) _)⟩

set_option maxHeartbeats 2000000 in
theorem ptype_any (t : Ty) (v : Value) (w : World) (hv : V w t v) : Calls Try.prog 57 #[v] w fun e w' => e = .returned (.bool (isProper t)) ∧ Below w.heap.size w w' := by
  obtain ⟨base, cap, ev, hs, hl⟩ := hv
  subst ev
  have hat := box_at (cap := cap) hs hl
  have hcall : ∀ W, Below (w.heap.size + 1) (w.alloc (Obj.cells #[.int .i64 t.op, .int .i64 t.n, .string t.name, .slice base t.args.length cap] 36)) W → PBox W (w.heap.size + 1) 0 → Calls Try.prog 77 #[.pointer (some ⟨w.heap.size, 0, none⟩), .int .i64 1, .pointer (some ⟨w.heap.size + 1, 0, none⟩)] W (PropP t 1 0 (w.heap.size + 1) W) := fun W hb hp =>
    hold_any t _ _ _ 1 0 (w.heap.size + 1) W hat (by simp) (by simpa using hb) hp (by omega) (by omega)
  have HC := Lib.hid hcall
  clear hcall hat hl hs
  unfold PropP at HC
  unfold isProper
  generalize prop t 1 0 = r at *
  generalize t.args.length = la at *
  generalize t.op = op at *
  generalize t.n = nn at *
  generalize t.name = na at *
  have hW : Hid (∀ o1 o2, Below w.heap.size w ((w.alloc o1).alloc o2)) := Lib.hid (fun o1 o2 => ((Below.refl _ _).alloc (Nat.le_refl _) _).alloc (by simp) _)
  go_enter Try.func57, Try.ntmps57
  go_wp2_with fail
  have hpb : PBox ((w.alloc (Obj.cells #[Value.int IntKind.i64 op, Value.int IntKind.i64 nn, Value.string na, Value.slice base la cap] 36)).alloc (Obj.cells #[Value.int IntKind.i64 0] 3)) (w.heap.size + 1) 0 := by
    have := heap_alloc_new (w.alloc (Obj.cells #[Value.int IntKind.i64 op, Value.int IntKind.i64 nn, Value.string na, Value.slice base la cap] 36)) (Obj.cells #[Value.int IntKind.i64 0] 3)
    have e : (w.alloc (Obj.cells #[Value.int IntKind.i64 op, Value.int IntKind.i64 nn, Value.string na, Value.slice base la cap] 36)).heap.size = w.heap.size + 1 := by simp
    rw [e] at this
    exact this
  refine (HC.out _ ((Below.refl _ _).alloc (by simp) _) hpb).mono ?_
  rintro e w2 ⟨rfl, hg, _⟩
  have HB2 := Lib.hid (grown_below (w0 := w) (hW.out _ _) hg (by omega))
  clear hg hpb
  go_wp2_with fail
  go_ret
  exact ⟨rfl, HB2.out⟩

/-! binds -/
set_option maxHeartbeats 4000000 in
theorem binds_first (op nn : Int) (na : ByteArray) (base : Option Addr) (la cap : Nat) (w : World) : Calls Try.prog 89 #[.agg #[.int .i64 op, .int .i64 nn, .string na, .slice base la cap], .int .i64 0] w fun e w' => e = .returned (.int .i64 0) ∧ Below w.heap.size w w' := by
  obtain ⟨b0, b1, b2, b3⟩ := box4 w (.int .i64 op) (.int .i64 nn) (.string na) (.slice base la cap)
  cases h4 : (op == 4) with
  | false =>
    go_enter Try.func89, Try.ntmps89
    go_wp2_with fail
    go_ret
    exact ⟨rfl, (Below.refl _ _).alloc (Nat.le_refl _) _⟩
  | true =>
    go_enter Try.func89, Try.ntmps89
    go_wp2_with fail
    go_ret
    exact ⟨rfl, (Below.refl _ _).alloc (Nat.le_refl _) _⟩
set_option maxHeartbeats 4000000 in
theorem binds_second (op nn : Int) (na : ByteArray) (base : Option Addr) (la cap : Nat) (w : World) : Calls Try.prog 89 #[.agg #[.int .i64 op, .int .i64 nn, .string na, .slice base la cap], .int .i64 1] w fun e w' => e = .returned (.int .i64 (undN op)) ∧ Below w.heap.size w w' := by
  obtain ⟨b0, b1, b2, b3⟩ := box4 w (.int .i64 op) (.int .i64 nn) (.string na) (.slice base la cap)
  by_cases h4 : op = 4
  · have HU : Hid (undN op = 1) := Lib.hid (if_pos h4)
    have q : (op == 4) = true := by simpa using h4
    clear h4
    go_enter Try.func89, Try.ntmps89
    go_wp2_with fail
    go_ret
    exact ⟨ret_int (by rw [HU.out]; rfl), (Below.refl _ _).alloc (Nat.le_refl _) _⟩
  · have HU : Hid (undN op = 0) := Lib.hid (if_neg h4)
    have q : (op == 4) = false := by simpa using h4
    clear h4
    go_enter Try.func89, Try.ntmps89
    go_wp2_with fail
    go_ret
    exact ⟨ret_int (by rw [HU.out]; rfl), (Below.refl _ _).alloc (Nat.le_refl _) _⟩

end Ty
end Go.Proofs.Ytfjgebdpbmnicaa

/- What stands in memory while a type is built anew. Conditions: none. -/
namespace Go.Proofs.Ytfjgebdpbmnicaa
open Go.RowKit

namespace Ty
/-- what is left behind a call that builds a type anew -/
def RebP {σ : Type} (r : Ty × σ) (I : World → σ → Prop) (m : Option Nat) (w : World) (e : Ending) (w' : World) : Prop :=
  ∃ v, e = .returned v ∧ VO (w.heap.size ≤ ·) w' r.1 v ∧ w.grownBy w' m ∧ I w' r.2
/-- what a closure does with a leaf -/
def Leafs {σ : Type} (cid : Nat) (caps : Array Value) (f : Ty → Nat → σ → Ty × σ) (I : World → σ → Prop) (m : Option Nat) (w0 : World) (base : Nat) : Prop :=
  ∀ (W : World) (op n : Int) (s : List UInt8) (k : Nat) (st : σ), Good (.mk op n s []) → I W st → base ≤ W.heap.size → Below w0.heap.size w0 W → k ≤ 1000000 →
    Calls Try.prog cid (#[.agg #[.int .i64 op, .int .i64 n, .string ⟨s.toArray⟩, .slice none 0 0], .int .i64 k] ++ caps) W (RebP (f (.mk op n s []) k st) I m W)

def RebC {σ : Type} (fv : Value) (f : Ty → Nat → σ → Ty × σ) (I : World → σ → Prop) (m : Option Nat) (w0 : World) (base : Nat) (t : Ty) : Prop :=
  ∀ (v : Value) (k : Nat) (st : σ) (w : World), V w0 t v → Below w0.heap.size w0 w → base ≤ w.heap.size → I w st → k + nodes t ≤ 1000000 → Calls Try.prog 88 #[v, .int .i64 k, fv] w (RebP (reb f t k st) I m w)

theorem grown_of_below {a b : World} {m : Option Nat} (h : Below a.heap.size a b) : a.grownBy b m := ⟨h.os, h.tape, h.output, h.size, fun j hj _ => h.block j hj⟩
theorem grown_trans' {a b c : World} {m : Option Nat} (h : a.grownBy b m) (k : b.grownBy c m) : a.grownBy c m :=
  ⟨k.os.trans h.os, k.tape.trans h.tape, k.output.trans h.output, Nat.le_trans h.size k.size, fun j hj hne => (k.block j (Nat.lt_of_lt_of_le hj h.size) hne).trans (h.block j hj hne)⟩
theorem grown_put4 {a b : World} {m : Option Nat} {B : Nat} (h : a.grownBy b m) (hB : a.heap.size ≤ B) (v0 v1 v2 v3 : Value) : a.grownBy (put4 b B v0 v1 v2 v3) m := by
  have h2 : Below a.heap.size b (put4 b B v0 v1 v2 v3) := ((((Below.refl _ _).setCell hB _).setCell hB _).setCell hB _).setCell hB _
  exact ⟨h2.os.trans h.os, h2.tape.trans h.tape, h2.output.trans h.output, Nat.le_trans h.size h2.size, fun j hj hne => (h2.block j hj).trans (h.block j hj hne)⟩
theorem grown_below' {w0 a b : World} {m : Option Nat} (h : Below w0.heap.size w0 a) (k : a.grownBy b m) (hm : ∀ j, m = some j → w0.heap.size ≤ j) : Below w0.heap.size w0 b :=
  h.grown k h.size hm
theorem grown_block {a b : World} {m : Option Nat} {base B : Nat} {o : Obj} (k : a.grownBy b m) (hm : ∀ j, m = some j → j < base) (hB : base ≤ B) (h : a.heap[B]? = some o) : b.heap[B]? = some o := by
  rw [k.block B (by have := (Array.getElem?_eq_some_iff.1 h).1; exact this) (fun e => by have := hm B e.symm; omega)]
  exact h
theorem below_put4' {w : World} {base B : Nat} (hB : base ≤ B) (v0 v1 v2 v3 : Value) : Below base w (put4 w B v0 v1 v2 v3) :=
  ((((Below.refl _ _).setCell hB _).setCell hB _).setCell hB _).setCell hB _

theorem B4.nextm {a b : World} {m : Option Nat} {B lim : Nat} {v0 v1 v2 v3 : Value} (h : B4 a B v0 v1 v2 v3) (k : a.grownBy b m) (hm : ∀ j, m = some j → j < lim) (hB : lim ≤ B) : B4 b B v0 v1 v2 v3 := grown_block k hm hB h

/-- the blocks in which the parts of what is built may stand -/
def okB (w : World) (G H : Nat) (b : Nat) : Prop := w.heap.size + 2 ≤ b ∧ b ≠ G ∧ b ≠ H
/-- the world in which a node is built anew: the node's box, the result's, the new node's, and its row -/
structure NS {σ : Type} (I : World → σ → Prop) (m : Option Nat) (w0 w : World) (base : Nat) (op : Int) (a : Value) (G H : Nat) (st : σ) (r0 r1 r2 r3 r4 r5 r6 r7 : Value) (W : World) : Prop where
  grown : w.grownBy W m
  old : Below w0.heap.size w0 W
  inv : I W st
  box : B4 W w.heap.size (.int .i64 op) (.int .i64 0) (.string ⟨#[]⟩) a
  res : B4 W (w.heap.size + 1) (.int .i64 0) (.int .i64 0) (.string ⟨#[]⟩) (.slice none 0 0)
  made : B4 W H (.int .i64 op) (.int .i64 0) (.string ⟨#[]⟩) (.slice (some ⟨G, 0, none⟩) 2 2)
  row : W.heap[G]? = some (Obj.cells #[r0, r1, r2, r3, r4, r5, r6, r7] 36)
  hG : w.heap.size + 2 ≤ G
  hH : w.heap.size + 2 ≤ H
  ne : G ≠ H
section
variable {σ : Type} {I : World → σ → Prop} {m : Option Nat} {w0 w : World} {base : Nat} {op : Int} {a : Value} {G H : Nat} {st st' : σ} {r0 r1 r2 r3 r4 r5 r6 r7 : Value} {W W' : World}
theorem NS.nextm (h : NS I m w0 w base op a G H st r0 r1 r2 r3 r4 r5 r6 r7 W) (hm : ∀ j, m = some j → w0.heap.size ≤ j ∧ j < base) (hw : base ≤ w.heap.size) (hg : W.grownBy W' m) (hi : I W' st') : NS I m w0 w base op a G H st' r0 r1 r2 r3 r4 r5 r6 r7 W' :=
  have hlim : ∀ j, m = some j → j < w.heap.size := fun j hj => Nat.lt_of_lt_of_le (hm j hj).2 hw
  ⟨grown_trans' h.grown hg, grown_below' h.old hg (fun j hj => (hm j hj).1), hi, h.box.nextm hg hlim (Nat.le_refl _), h.res.nextm hg hlim (by omega), h.made.nextm hg hlim (by have := h.hH; omega), grown_block hg hlim (by have := h.hG; omega) h.row, h.hG, h.hH, h.ne⟩
theorem NS.next (h : NS I m w0 w base op a G H st r0 r1 r2 r3 r4 r5 r6 r7 W) (hm : ∀ j, m = some j → w0.heap.size ≤ j ∧ j < base) (hw : base ≤ w.heap.size) (hI : ∀ W W' st, I W st → Below base W W' → I W' st) (hb : Below W.heap.size W W') : NS I m w0 w base op a G H st r0 r1 r2 r3 r4 r5 r6 r7 W' :=
  h.nextm hm hw (grown_of_below hb) (hI _ _ _ h.inv (hb.mono (Nat.le_trans hw h.grown.size)))
theorem drew_below (W : World) : Below W.heap.size W W.drew := (Below.refl _ _).drew
theorem NS.newA (W : World) (hw : base ≤ w.heap.size) (hI : ∀ W W' st, I W st → Below base W W' → I W' st) (hb : Below w0.heap.size w0 w) (hbW : Below w.heap.size w W) (hi : I w st) (hsz : W.heap.size = w.heap.size + 2)
    (hbox : B4 W w.heap.size (.int .i64 op) (.int .i64 0) (.string ⟨#[]⟩) a) (hres : B4 W (w.heap.size + 1) (.int .i64 0) (.int .i64 0) (.string ⟨#[]⟩) (.slice none 0 0)) :
    NS I m w0 w base op a W.heap.size (W.heap.size + 1) st r0 r1 r2 r3 r4 r5 r6 r7 ((W.alloc (Obj.cells #[r0, r1, r2, r3, r4, r5, r6, r7] 36)).alloc (Obj.cells #[.int .i64 op, .int .i64 0, .string ⟨#[]⟩, .slice (some ⟨W.heap.size, 0, none⟩) 2 2] 36)).drew := by
  have e1 : (W.alloc (Obj.cells #[r0, r1, r2, r3, r4, r5, r6, r7] 36)).heap.size = W.heap.size + 1 := by simp
  have h2 := (below_two W (Obj.cells #[r0, r1, r2, r3, r4, r5, r6, r7] 36) (Obj.cells #[.int .i64 op, .int .i64 0, .string ⟨#[]⟩, .slice (some ⟨W.heap.size, 0, none⟩) 2 2] 36)).drew
  have hall := hbW.trans (h2.mono hbW.size)
  refine ⟨grown_of_below hall, hb.trans (hall.mono hb.size), hI _ _ _ hi (hall.mono hw), hbox.next h2, hres.next h2, ?_, ?_, by omega, by omega, by omega⟩
  · have := heap_alloc_new (W.alloc (Obj.cells #[r0, r1, r2, r3, r4, r5, r6, r7] 36)) (Obj.cells #[.int .i64 op, .int .i64 0, .string ⟨#[]⟩, .slice (some ⟨W.heap.size, 0, none⟩) 2 2] 36)
    rw [e1] at this
    exact this
  · exact (Below.heap_alloc _ _ _ (by rw [e1]; omega)).trans (heap_alloc_new W _)
theorem NS.newB (W : World) (hw : base ≤ w.heap.size) (hI : ∀ W W' st, I W st → Below base W W' → I W' st) (hb : Below w0.heap.size w0 w) (hbW : Below w.heap.size w W) (hi : I w st) (hsz : W.heap.size = w.heap.size + 2)
    (hbox : B4 W w.heap.size (.int .i64 op) (.int .i64 0) (.string ⟨#[]⟩) a) (hres : B4 W (w.heap.size + 1) (.int .i64 0) (.int .i64 0) (.string ⟨#[]⟩) (.slice none 0 0)) :
    NS I m w0 w base op a (W.heap.size + 1) W.heap.size st r0 r1 r2 r3 r4 r5 r6 r7 ((W.alloc (Obj.cells #[.int .i64 op, .int .i64 0, .string ⟨#[]⟩, .slice (some ⟨W.heap.size + 1, 0, none⟩) 2 2] 36)).alloc (Obj.cells #[r0, r1, r2, r3, r4, r5, r6, r7] 36)).drew := by
  have e1 : (W.alloc (Obj.cells #[.int .i64 op, .int .i64 0, .string ⟨#[]⟩, .slice (some ⟨W.heap.size + 1, 0, none⟩) 2 2] 36)).heap.size = W.heap.size + 1 := by simp
  have h2 := (below_two W (Obj.cells #[.int .i64 op, .int .i64 0, .string ⟨#[]⟩, .slice (some ⟨W.heap.size + 1, 0, none⟩) 2 2] 36) (Obj.cells #[r0, r1, r2, r3, r4, r5, r6, r7] 36)).drew
  have hall := hbW.trans (h2.mono hbW.size)
  refine ⟨grown_of_below hall, hb.trans (hall.mono hb.size), hI _ _ _ hi (hall.mono hw), hbox.next h2, hres.next h2, ?_, ?_, by omega, by omega, by omega⟩
  · exact (Below.heap_alloc _ _ _ (by rw [e1]; omega)).trans (heap_alloc_new W _)
  · have := heap_alloc_new (W.alloc (Obj.cells #[.int .i64 op, .int .i64 0, .string ⟨#[]⟩, .slice (some ⟨W.heap.size + 1, 0, none⟩) 2 2] 36)) (Obj.cells #[r0, r1, r2, r3, r4, r5, r6, r7] 36)
    rw [e1] at this
    exact this
/-- four cells written at a place -/
def put4At (w : World) (B o : Nat) (v0 v1 v2 v3 : Value) : World := (((w.setCell ⟨B, o, none⟩ v0).setCell ⟨B, o + 1, none⟩ v1).setCell ⟨B, o + 2, none⟩ v2).setCell ⟨B, o + 3, none⟩ v3
theorem below_put4At {w : World} {base B o : Nat} (hB : base ≤ B) (v0 v1 v2 v3 : Value) : Below base w (put4At w B o v0 v1 v2 v3) :=
  ((((Below.refl _ _).setCell hB _).setCell hB _).setCell hB _).setCell hB _
theorem put4At_other {W : World} {B C o : Nat} (h : C ≠ B) (v0 v1 v2 v3 : Value) : (put4At W B o v0 v1 v2 v3).heap[C]? = W.heap[C]? := by
  unfold put4At
  simp [World.setCell, Array.getElem?_modify, h.symm]
theorem put4At_keep {W : World} {B o : Nat} (v0 v1 v2 v3 : Value) (p : Addr) (v : Value) (h : W.cell? p = some v) (hp : p.block ≠ B) : (put4At W B o v0 v1 v2 v3).cell? p = some v :=
  (World.cell?_of_block (put4At_other hp v0 v1 v2 v3)).trans h
theorem NS.put (h : NS I m w0 w base op a G H st r0 r1 r2 r3 r4 r5 r6 r7 W) (hw : base ≤ w.heap.size) (h0 : w0.heap.size ≤ base) (hI : ∀ W W' st, I W st → Below base W W' → I W' st) (v0 v1 v2 v3 : Value) {o : Nat} {s0 s1 s2 s3 s4 s5 s6 s7 : Value}
    (hrow : (put4At W G o v0 v1 v2 v3).heap[G]? = some (Obj.cells #[s0, s1, s2, s3, s4, s5, s6, s7] 36)) : NS I m w0 w base op a G H st s0 s1 s2 s3 s4 s5 s6 s7 (put4At W G o v0 v1 v2 v3) :=
  have hG := h.hG
  have h2 : Below w.heap.size W (put4At W G o v0 v1 v2 v3) := below_put4At (by omega) _ _ _ _
  ⟨⟨h2.os.trans h.grown.os, h2.tape.trans h.grown.tape, h2.output.trans h.grown.output, Nat.le_trans h.grown.size h2.size, fun j hj hne => (h2.block j hj).trans (h.grown.block j hj hne)⟩,
    h.old.trans (h2.mono (by omega)), hI _ _ _ h.inv (h2.mono hw), (put4At_other (by omega) _ _ _ _).trans h.box, (put4At_other (by omega) _ _ _ _).trans h.res, (put4At_other h.ne.symm _ _ _ _).trans h.made, hrow, h.hG, h.hH, h.ne⟩
theorem NS.put0 (h : NS I m w0 w base op a G H st r0 r1 r2 r3 r4 r5 r6 r7 W) (hw : base ≤ w.heap.size) (h0 : w0.heap.size ≤ base) (hI : ∀ W W' st, I W st → Below base W W' → I W' st) (v0 v1 v2 v3 : Value) :
    NS I m w0 w base op a G H st v0 v1 v2 v3 r4 r5 r6 r7 (put4At W G 0 v0 v1 v2 v3) :=
  h.put hw h0 hI v0 v1 v2 v3 (by have := h.row; unfold put4At; simp [World.setCell, Array.getElem?_modify, this])
theorem NS.put4 (h : NS I m w0 w base op a G H st r0 r1 r2 r3 r4 r5 r6 r7 W) (hw : base ≤ w.heap.size) (h0 : w0.heap.size ≤ base) (hI : ∀ W W' st, I W st → Below base W W' → I W' st) (v0 v1 v2 v3 : Value) :
    NS I m w0 w base op a G H st r0 r1 r2 r3 v0 v1 v2 v3 (put4At W G 4 v0 v1 v2 v3) :=
  h.put hw h0 hI v0 v1 v2 v3 (by have := h.row; unfold put4At; simp [World.setCell, Array.getElem?_modify, this])
theorem NS.frozen (h : NS I m w0 w base op a G H st r0 r1 r2 r3 r4 r5 r6 r7 W) (i : Nat) : W.frozen? ⟨G, i, none⟩ = false := by
  unfold World.frozen?
  rw [show W.heap[(⟨G, i, none⟩ : Addr).block]? = _ from h.row]
  simp
theorem NS.rc (h : NS I m w0 w base op a G H st r0 r1 r2 r3 r4 r5 r6 r7 W) : (W.cell? ⟨G, 0, none⟩ = some r0 ∧ W.cell? ⟨G, 1, none⟩ = some r1 ∧ W.cell? ⟨G, 2, none⟩ = some r2 ∧ W.cell? ⟨G, 3, none⟩ = some r3) ∧ (W.cell? ⟨G, 4, none⟩ = some r4 ∧ W.cell? ⟨G, 5, none⟩ = some r5 ∧ W.cell? ⟨G, 6, none⟩ = some r6 ∧ W.cell? ⟨G, 7, none⟩ = some r7) :=
  have c := fun i => cell_of_row W G i _ 36 (0, 0) h.row
  ⟨⟨c 0, c 1, c 2, c 3⟩, c 4, c 5, c 6, c 7⟩
/-- a part that was built stays as it is -/
theorem part_next {t : Ty} {v : Value} (h : VO (okB w G H) W t v) (hm : ∀ j, m = some j → w0.heap.size ≤ j ∧ j < base) (hw : base ≤ w.heap.size) (hg : W.grownBy W' m) : VO (okB w G H) W' t v :=
  h.keep (fun _ h => h) (fun p v hp hc => hg.cell hc (fun e => by have := (hm p.block e.symm).2; have := hp.1; omega))
theorem part_put {t : Ty} {v : Value} {o : Nat} (h : VO (okB w G H) W t v) (v0 v1 v2 v3 : Value) : VO (okB w G H) (put4At W G o v0 v1 v2 v3) t v :=
  h.keep (fun _ h => h) (fun p v hp hc => put4At_keep _ _ _ _ p v hc hp.2.1)
theorem part_new {t : Ty} {v : Value} (h : VO (W.heap.size ≤ ·) W' t v) (hN : NS I m w0 w base op a G H st r0 r1 r2 r3 r4 r5 r6 r7 W) : VO (okB w G H) W' t v :=
  h.keep (fun g hg => by
    have h1 := lt_of_block hN.row
    have h2 := lt_of_block hN.made
    have h3 : W.heap.size ≤ g := hg
    have h4 := hN.hG
    exact ⟨by omega, by omega, by omega⟩) (fun p v _ hc => hc)
end

section
variable {σ : Type} {f : Ty → Nat → σ → Ty × σ} {I : World → σ → Prop} {m : Option Nat} {w0 w : World} {base : Nat} {op : Int} {a : Value} {G H : Nat} {st st' : σ} {r0 r1 r2 r3 r4 r5 r6 r7 : Value} {W W' : World}
theorem call_part {fv : Value} {x : Ty} (hx : RebC fv f I m w0 base x) (hm : ∀ j, m = some j → w0.heap.size ≤ j ∧ j < base) (hw : base ≤ w.heap.size) {v : Value} {k : Nat} (hv : V w0 x v) (hk : k + nodes x ≤ 1000000) (hN : NS I m w0 w base op a G H st r0 r1 r2 r3 r4 r5 r6 r7 W) :
    Calls Try.prog 88 #[v, .int .i64 k, fv] W fun e W' => ∃ v', e = .returned v' ∧ VO (okB w G H) W' (reb f x k st).1 v' ∧ NS I m w0 w base op a G H (reb f x k st).2 r0 r1 r2 r3 r4 r5 r6 r7 W' ∧ W.grownBy W' m :=
  (hx v k st W hv hN.old (Nat.le_trans hw hN.grown.size) hN.inv hk).mono fun _ _ ⟨v', h1, h2, h3, h4⟩ => ⟨v', h1, part_new h2 hN, hN.nextm hm hw h3 h4, h3⟩
theorem vo_parts {ok : Nat → Prop} {t : Ty} {b : Option Addr} {c : Nat} (h : VO ok W t (.agg #[.int .i64 t.op, .int .i64 t.n, .string t.name, .slice b t.args.length c])) : t.s.length ≤ maxLen ∧ SlO ok W b t.args := by
  obtain ⟨b', c', e, h1, h2⟩ := h
  simp only [Value.agg.injEq, Array.mk.injEq, List.cons.injEq, Value.slice.injEq, true_and, and_true] at e
  rw [e.1]
  exact ⟨h1, h2⟩
theorem node_done {rx ry : Ty} {bx b_y : Option Addr} {cx cy : Nat}
    (hN : NS I m w0 w base op a G H st (.int .i64 rx.op) (.int .i64 rx.n) (.string rx.name) (.slice bx rx.args.length cx) (.int .i64 ry.op) (.int .i64 ry.n) (.string ry.name) (.slice b_y ry.args.length cy) W) (hw : base ≤ w.heap.size) (hI : ∀ W W' st, I W st → Below base W W' → I W' st)
    (hx : VO (okB w G H) W rx (.agg #[.int .i64 rx.op, .int .i64 rx.n, .string rx.name, .slice bx rx.args.length cx])) (hy : VO (okB w G H) W ry (.agg #[.int .i64 ry.op, .int .i64 ry.n, .string ry.name, .slice b_y ry.args.length cy])) (v0 v1 v2 v3 : Value) :
    VO (w.heap.size ≤ ·) (put4 W (w.heap.size + 1) v0 v1 v2 v3) (.mk op 0 [] [rx, ry]) (.agg #[.int .i64 op, .int .i64 0, .string ⟨#[]⟩, .slice (some ⟨G, 0, none⟩) 2 2]) ∧ w.grownBy (put4 W (w.heap.size + 1) v0 v1 v2 v3) m ∧ I (put4 W (w.heap.size + 1) v0 v1 v2 v3) st := by
  obtain ⟨hsx, hlx⟩ := vo_parts hx
  obtain ⟨hsy, hly⟩ := vo_parts hy
  have hG := hN.hG
  have hrow : (put4 W (w.heap.size + 1) v0 v1 v2 v3).heap[G]? = _ := (put4_other (by omega) v0 v1 v2 v3).trans hN.row
  have c := fun i => cell_of_row _ G i _ 36 (0, 0) hrow
  have hkeep : ∀ (p : Addr) v, okB w G H p.block → W.cell? p = some v → (put4 W (w.heap.size + 1) v0 v1 v2 v3).cell? p = some v := fun p v hp hc => put4_keep _ _ _ _ p v hc (by have := hp.1; omega)
  have hok : ∀ g, okB w G H g → w.heap.size ≤ g := fun g hg => by have := hg.1; omega
  refine ⟨⟨some ⟨G, 0, none⟩, 2, rfl, Nat.zero_le _, by show 2 ≤ maxLen; unfold maxLen; omega, .inr ⟨G, 0, rfl, by omega, ?_, ?_, trivial⟩⟩, grown_put4 hN.grown (by omega) _ _ _ _, hI _ _ _ hN.inv (below_put4' (by omega) _ _ _ _)⟩
  · exact atO_iff.mpr ⟨c 0, c 1, c 2, hsx, bx, cx, c 3, hlx.keep hok hkeep⟩
  · exact atO_iff.mpr ⟨c 4, c 5, c 6, hsy, b_y, cy, c 7, hly.keep hok hkeep⟩
end

set_option maxHeartbeats 4000000 in
/-- Replace 67: what the walk makes, at no forall -/
theorem rep_of {σ : Type} {f : Ty → Nat → σ → Ty × σ} {I : World → σ → Prop} {m : Option Nat} {w0 : World} {base : Nat} {fv : Value} {t : Ty} (hR : RebC fv f I m w0 base t)
    (hI : ∀ W W' st, I W st → Below base W W' → I W' st) (hm : ∀ j, m = some j → w0.heap.size ≤ j ∧ j < base)
    (v : Value) (st : σ) (w : World) (hv : V w0 t v) (hb : Below w0.heap.size w0 w) (hw : base ≤ w.heap.size) (hi : I w st) (hk : nodes t ≤ 1000000) : Calls Try.prog 80 #[v, fv] w (RebP (reb f t 0 st) I m w) := by
  have hcall := fun (W : World) (hB : Below w.heap.size w W) => hR v 0 st W hv (hb.trans (hB.mono hb.size)) (Nat.le_trans hw hB.size) (hI _ _ _ hi (hB.mono hw)) (by omega)
  rw [show ((0 : Nat) : Int) = 0 from rfl] at hcall
  obtain ⟨r, hr⟩ : ∃ r, r = reb f t 0 st := ⟨_, rfl⟩
  rw [← hr] at hcall ⊢
  clear hr
  obtain ⟨r, s2⟩ := r
  obtain ⟨b, c, ev, _, _⟩ := hv
  subst ev
  obtain ⟨ht1, ht6⟩ := two_boxes w (.int .i64 t.op) (.int .i64 t.n) (.string t.name) (.slice b t.args.length c) (.int .i64 0) (.int .i64 0) (.string ⟨#[]⟩) (.slice none 0 0)
  have hb2 : Below w.heap.size w ((w.alloc (Obj.cells #[.int .i64 t.op, .int .i64 t.n, .string t.name, .slice b t.args.length c] 36)).alloc (Obj.cells #[.int .i64 0, .int .i64 0, .string ⟨#[]⟩, .slice none 0 0] 36)) := below_two w _ _
  have HT6 := Lib.hid ht6
  have HB2 := Lib.hid hb2
  have HC := Lib.hid hcall
  obtain ⟨c0, c1, c2, c3⟩ := ht1.cells
  clear ht1 ht6 hb2 hcall hR
  go_enter Try.func80, Try.ntmps80
  go_wp2_with fail
  obtain ⟨W2, hW2⟩ : ∃ W2, W2 = (w.alloc (Obj.cells #[.int .i64 t.op, .int .i64 t.n, .string t.name, .slice b t.args.length c] 36)).alloc (Obj.cells #[.int .i64 0, .int .i64 0, .string ⟨#[]⟩, .slice none 0 0] 36) := ⟨_, rfl⟩
  rw [← hW2] at HT6 HB2 c0 c1 c2 c3 ⊢
  have HSZ : Hid (W2.heap.size = w.heap.size + 2) := Lib.hid (by rw [hW2]; simp)
  clear hW2
  refine (HC.out W2 HB2.out).mono ?_
  rintro e w2 ⟨v, rfl, ⟨b9, c9, rfl, hs9, hl9⟩, hgr, hi2⟩
  have HV9 : Hid (VO (W2.heap.size ≤ ·) w2 r _) := Lib.hid ⟨b9, c9, rfl, hs9, hl9⟩
  have HT := Lib.hid (HT6.out.nextm hgr (fun j hj => Nat.lt_of_lt_of_le (hm j hj).2 hw) (by omega))
  have HG := Lib.hid (grown_trans' (grown_of_below (m := m) HB2.out) hgr)
  have HI2 := Lib.hid hi2
  clear hs9 hl9 hgr hi2 HT6 c0 c1 c2 c3
  obtain ⟨z0, z1, z2, z3⟩ := HT.out.cells; have f0 := HT.out.frozen 0; have f1 := HT.out.frozen 1; have f2 := HT.out.frozen 2; have f3 := HT.out.frozen 3
  go_wp2_with fail
  refine bodyPost_ret (results_ty (a := 4) (by kernel_rfl) (B := w.heap.size + 1) (by rfl) (put4_cells HT.out _ _ _ _).cells.1 (put4_cells HT.out _ _ _ _).cells.2.1 (put4_cells HT.out _ _ _ _).cells.2.2.1 (put4_cells HT.out _ _ _ _).cells.2.2.2) rfl ?_
  refine ⟨_, rfl, ?_, grown_put4 HG.out (by omega) _ _ _ _, hI _ _ _ HI2.out (below_put4' (by omega) _ _ _ _)⟩
  have hsz := HSZ.out
  exact HV9.out.keep (fun g hg => by show w.heap.size ≤ g; have : W2.heap.size ≤ g := hg; omega) (fun p v hp hc => put4_keep _ _ _ _ p v hc (by have : W2.heap.size ≤ p.block := hp; omega))

end Ty
end Go.Proofs.Ytfjgebdpbmnicaa

/- What anew and full return. Conditions: the type lies in memory; for anew it is well formed. -/
namespace Go.Proofs.Ytfjgebdpbmnicaa
open Go.RowKit

namespace Ty
/-- a type is returned, its rows in new blocks -/
def RetF (t : Ty) (w : World) (e : Ending) (w' : World) : Prop := ∃ v, e = .returned v ∧ VO (w.heap.size ≤ ·) w' t v ∧ Below w.heap.size w w'

theorem reb_id {σ : Type} : ∀ {t : Ty}, Good t → ∀ (k : Nat) (st : σ), reb (fun t _ st => (t, st)) t k st = (t, st) := by
  intro t hg
  induction hg with
  | var op n h1 h2 h3 => intro k st; rw [reb_leaf]
  | con s h1 h2 => intro k st; rw [reb_leaf]
  | node op x y h hx hy ihx ihy => intro k st; rw [reb_node, ihx, ihy]

theorem V.put {w : World} {B : Nat} {t : Ty} {v : Value} (h : VO (· ≠ B) w t v) (v0 v1 v2 v3 : Value) : V (put4 w B v0 v1 v2 v3) t v := (h.put v0 v1 v2 v3).weak

theorem leaf_len {op n : Int} {s : List UInt8} (hg : Good (.mk op n s [])) : s.length ≤ maxLen := by
  unfold maxLen
  cases hg with
  | var op n h1 h2 h3 => simp
  | con s h1 h2 => omega
/-! two results -/
abbrev zeroV : Value := .agg #[.int .i64 0, .int .i64 0, .string ⟨#[]⟩, .slice none 0 0]
theorem results_two {fn : Func} {a b : Tmp} (hfn : fn.results = #[.cell a 36, .tmp b]) {tmps : Array Value} {w : World} {B o : Nat} {v0 v1 v2 v3 u : Value} (h : tmps.getD a undef = .pointer (some ⟨B, o, none⟩)) (hu : tmps.getD b undef = u)
    (c0 : w.cell? ⟨B, o, none⟩ = some v0) (c1 : w.cell? ⟨B, o + 1, none⟩ = some v1) (c2 : w.cell? ⟨B, o + 2, none⟩ = some v2) (c3 : w.cell? ⟨B, o + 3, none⟩ = some v3) :
    (results fn tmps).run Try.prog w = .ok (.tuple #[.agg #[v0, v1, v2, v3], u]) w := by
  have h' : tmps[a]?.getD undef = .pointer (some ⟨B, o, none⟩) := by rw [← h]; simp
  have hu' : tmps[b]?.getD undef = u := by rw [← hu]; simp
  simp [results, hfn, h', hu', c0, c1, c2, c3, go_sem]

def fullV (t : Ty) (v : Value) : Value := if isProper t = true then .tuple #[v, .int .i64 0] else .tuple #[zeroV, .int .i64 5]
theorem fullV_ok {t : Ty} (h : isProper t = true) (v : Value) : fullV t v = .tuple #[v, .int .i64 0] := if_pos h
theorem fullV_bad {t : Ty} (h : isProper t = false) (v : Value) : fullV t v = .tuple #[zeroV, .int .i64 5] := if_neg (by rw [h]; simp)

set_option maxHeartbeats 2000000 in
theorem full_any (t : Ty) (v : Value) (w : World) (hv : V w t v) : Calls Try.prog 61 #[v] w fun e w' => e = .returned (fullV t v) ∧ Below w.heap.size w w' := by
  have hty := fun W (hb : Below w.heap.size w W) => ptype_any t v W (hv.next hb)
  obtain ⟨b, c, ev, _, _⟩ := hv
  subst ev
  obtain ⟨ht1, ht2⟩ := two_boxes w (.int .i64 t.op) (.int .i64 t.n) (.string t.name) (.slice b t.args.length c) (.int .i64 0) (.int .i64 0) (.string ⟨#[]⟩) (.slice none 0 0)
  have hb2 : Below w.heap.size w ((w.alloc (Obj.cells #[.int .i64 t.op, .int .i64 t.n, .string t.name, .slice b t.args.length c] 36)).alloc (Obj.cells #[.int .i64 0, .int .i64 0, .string ⟨#[]⟩, .slice none 0 0] 36)) := below_two w _ _
  have HT1 := Lib.hid ht1
  have HT2 := Lib.hid ht2
  have HB2 := Lib.hid hb2
  have HC := Lib.hid hty
  obtain ⟨c0, c1, c2, c3⟩ := ht1.cells
  clear ht1 ht2 hb2 hty
  go_enter Try.func61, Try.ntmps61
  go_wp2_with fail
  obtain ⟨W2, hW2⟩ : ∃ W2, W2 = (w.alloc (Obj.cells #[.int .i64 t.op, .int .i64 t.n, .string t.name, .slice b t.args.length c] 36)).alloc (Obj.cells #[.int .i64 0, .int .i64 0, .string ⟨#[]⟩, .slice none 0 0] 36) := ⟨_, rfl⟩
  rw [← hW2] at HT1 HT2 HB2 c0 c1 c2 c3 ⊢
  clear hW2
  refine (HC.out W2 HB2.out).mono ?_
  rintro e w2 ⟨rfl, hb⟩
  have HT1' := Lib.hid (HT1.out.next hb)
  have HT2' := Lib.hid (HT2.out.next hb)
  have HB := Lib.hid (HB2.out.trans (hb.mono HB2.out.size))
  clear hb c0 c1 c2 c3 HT1 HT2 HB2 HC
  obtain ⟨c0, c1, c2, c3⟩ := HT1'.out.cells
  obtain ⟨z0, z1, z2, z3⟩ := HT2'.out.cells
  have f0 := HT2'.out.frozen 0
  have f1 := HT2'.out.frozen 1
  have f2 := HT2'.out.frozen 2
  have f3 := HT2'.out.frozen 3
  cases hp : isProper t with
  | true =>
    have HV := Lib.hid (fullV_ok hp)
    clear hp
    go_wp2_with fail
    refine bodyPost_ret (results_two (a := 2) (b := 3) (by kernel_rfl) (B := w.heap.size + 1) (by rfl) (by rfl) (put4_cells HT2'.out _ _ _ _).cells.1 (put4_cells HT2'.out _ _ _ _).cells.2.1 (put4_cells HT2'.out _ _ _ _).cells.2.2.1 (put4_cells HT2'.out _ _ _ _).cells.2.2.2) rfl ?_
    rw [HV.out]
    exact ⟨rfl, below_put4 HB.out (by omega) _ _ _ _⟩
  | false =>
    have HV := Lib.hid (fullV_bad hp)
    clear hp
    go_wp2_with fail
    refine bodyPost_ret (results_two (a := 2) (b := 3) (by kernel_rfl) (B := w.heap.size + 1) (by rfl) (by rfl) (put4_cells HT2'.out _ _ _ _).cells.1 (put4_cells HT2'.out _ _ _ _).cells.2.1 (put4_cells HT2'.out _ _ _ _).cells.2.2.1 (put4_cells HT2'.out _ _ _ _).cells.2.2.2) rfl ?_
    rw [HV.out]
    exact ⟨rfl, below_put4 HB.out (by omega) _ _ _ _⟩

end Ty
end Go.Proofs.Ytfjgebdpbmnicaa
