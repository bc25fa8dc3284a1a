/- What the program's Apply returns. Conditions: the types lie in memory. -/
import Derived.Test.YtfjgebdpbmnicaaJ09
import Derived.Test.YtfjgebdpbmnicaaJ18
import Derived.Test.YtfjgebdpbmnicaaJ19
import Derived.Deep.RegionHeld3
namespace Go.Proofs.Ytfjgebdpbmnicaa
open Go.RowKit

namespace Ty
def PApP (r : Ty) (w : World) (e : Ending) (w' : World) : Prop := ∃ v, e = .returned (fullV r v) ∧ VO (w.heap.size ≤ ·) w' r v ∧ Below w.heap.size w w'
/-- a type in a box that is written again and again, beside the result's box -/
structure ApS (w : World) (B : Nat) (t : Ty) (b : Option Addr) (c : Nat) (W : World) : Prop where
  below : Below w.heap.size w W
  big : w.heap.size + 1 < B
  res : B4 W (w.heap.size + 1) (.int .i64 0) (.int .i64 0) (.string ⟨#[]⟩) (.slice none 0 0)
  box : B4 W B (.int .i64 t.op) (.int .i64 t.n) (.string t.name) (.slice b t.args.length c)
  v : VO (fun g => w.heap.size ≤ g ∧ g ≠ w.heap.size + 1 ∧ g ≠ B) W t (.agg #[.int .i64 t.op, .int .i64 t.n, .string t.name, .slice b t.args.length c])
theorem ApS.next {w W W' : World} {B : Nat} {t : Ty} {b : Option Addr} {c : Nat} (h : ApS w B t b c W) (hb : Below W.heap.size W W') : ApS w B t b c W' :=
  ⟨h.below.trans (hb.mono h.below.size), h.big, h.res.next hb, h.box.next hb, h.v.next hb⟩
theorem ApS.put {w W : World} {B : Nat} {t t' : Ty} {b b' : Option Addr} {c c' : Nat} (h : ApS w B t b c W) (hv : VO (fun g => w.heap.size ≤ g ∧ g ≠ w.heap.size + 1 ∧ g ≠ B) W t' (.agg #[.int .i64 t'.op, .int .i64 t'.n, .string t'.name, .slice b' t'.args.length c'])) :
    ApS w B t' b' c' (put4 W B (.int .i64 t'.op) (.int .i64 t'.n) (.string t'.name) (.slice b' t'.args.length c')) :=
  ⟨below_put4 h.below (by have := h.big; omega) _ _ _ _, h.big, (put4_other (by have := h.big; omega) _ _ _ _).trans h.res, put4_cells h.box _ _ _ _, hv.keep (fun _ h => h) (fun p v hp hc => put4_keep _ _ _ _ p v hc hp.2.2)⟩
/-- beside it a part that is to come -/
structure ApT (w : World) (B B8 : Nat) (t : Ty) (b : Option Addr) (c : Nat) (x : Ty) (xb : Option Addr) (xc : Nat) (W : World) : Prop where
  s : ApS w B t b c W
  box8 : B4 W B8 (.int .i64 x.op) (.int .i64 x.n) (.string x.name) (.slice xb x.args.length xc)
  vx : V W x (.agg #[.int .i64 x.op, .int .i64 x.n, .string x.name, .slice xb x.args.length xc])
theorem ApT.next {w W W' : World} {B B8 : Nat} {t x : Ty} {b xb : Option Addr} {c xc : Nat} (h : ApT w B B8 t b c x xb xc W) (hb : Below W.heap.size W W') : ApT w B B8 t b c x xb xc W' :=
  ⟨h.s.next hb, h.box8.next hb, h.vx.next hb⟩
theorem ApT.drew {w W : World} {B B8 : Nat} {t x : Ty} {b xb : Option Addr} {c xc : Nat} (h : ApT w B B8 t b c x xb xc W) : ApT w B B8 t b c x xb xc W.drew := h.next (Below.refl _ _).drew

theorem new_ok {w W : World} {B : Nat} {t : Ty} {b : Option Addr} {c : Nat} (h : ApS w B t b c W) {g : Nat} (hg : W.heap.size ≤ g) : w.heap.size ≤ g ∧ g ≠ w.heap.size + 1 ∧ g ≠ B := by
  have h1 := lt_of_block h.res
  have h2 := lt_of_block h.box
  exact ⟨by omega, by omega, by omega⟩
set_option maxHeartbeats 8000000 in
theorem papply_bad (t : Ty) (l : List Ty) (v : Value) (base : Option Addr) (cap : Nat) (w : World) (hv : V w t v) (hl : Sl w base l) (hbad : isProper t = false ∨ propersT l = false) : Calls Try.prog 75 #[v, .slice base l.length cap] w (BadP 2 w) := by
  have hty := fun W (hb : Below w.heap.size w W) => ptype_any t v W (hv.next hb)
  have hli := fun W (hb : Below w.heap.size w W) => plist_any l base cap W (hl.next hb)
  obtain ⟨b, c, ev, _, _⟩ := hv
  subst ev
  obtain ⟨ht3, ht6⟩ := two_boxes w (.int .i64 t.op) (.int .i64 t.n) (.string t.name) (.slice b t.args.length c) (.int .i64 0) (.int .i64 0) (.string ⟨#[]⟩) (.slice none 0 0)
  have hb2 : Below w.heap.size w ((w.alloc (Obj.cells #[.int .i64 t.op, .int .i64 t.n, .string t.name, .slice b t.args.length c] 36)).alloc (Obj.cells #[.int .i64 0, .int .i64 0, .string ⟨#[]⟩, .slice none 0 0] 36)) := below_two w _ _
  have HT3 := Lib.hid ht3
  have HT6 := Lib.hid ht6
  have HB2 := Lib.hid hb2
  have HC := Lib.hid hty
  have HL := Lib.hid hli
  rw [← propersB_eq] at hbad
  clear ht3 ht6 hb2 hty hli hl
  generalize hp : isProper t = p at *
  generalize hq : propersB l = q at *
  have HBAD := Lib.hid hbad
  clear hp hq hbad
  generalize l.length = n at *
  go_enter Try.func75, Try.ntmps75
  go_upto_region 1 with fail
  obtain ⟨W2, hW2⟩ : ∃ W2, W2 = (w.alloc (Obj.cells #[.int .i64 t.op, .int .i64 t.n, .string t.name, .slice b t.args.length c] 36)).alloc (Obj.cells #[.int .i64 0, .int .i64 0, .string ⟨#[]⟩, .slice none 0 0] 36) := ⟨_, rfl⟩
  rw [← hW2] at HT3 HT6 HB2 ⊢
  clear hW2
  obtain ⟨c0, c1, c2, c3⟩ := HT3.out.cells
  cases p with
  | false =>
    go_wp2_with fail
    refine (HC.out W2 HB2.out).mono ?_
    rintro e w2 ⟨rfl, hb⟩
    have HR := Lib.hid (HT6.out.next hb)
    have HB := Lib.hid (HB2.out.trans (hb.mono HB2.out.size))
    clear hb c0 c1 c2 c3 HT3 HT6 HB2
    obtain ⟨z0, z1, z2, z3⟩ := HR.out.cells
    have f0 := HR.out.frozen 0
    have f1 := HR.out.frozen 1
    have f2 := HR.out.frozen 2
    have f3 := HR.out.frozen 3
    go_wp2_with fail
    refine bodyPost_ret (results_two (a := 4) (b := 5) (by kernel_rfl) (B := w.heap.size + 1) (by rfl) (by rfl) (put4_cells HR.out _ _ _ _).cells.1 (put4_cells HR.out _ _ _ _).cells.2.1 (put4_cells HR.out _ _ _ _).cells.2.2.1 (put4_cells HR.out _ _ _ _).cells.2.2.2) rfl ?_
    exact ⟨rfl, below_put4 HB.out (by omega) _ _ _ _⟩
  | true =>
    have hq : q = false := by rcases HBAD.out with h | h; cases h; exact h
    subst hq
    go_wp2_with fail
    refine (HC.out W2 HB2.out).mono ?_
    rintro e w2 ⟨rfl, hb⟩
    have HR := Lib.hid (HT6.out.next hb)
    have HB := Lib.hid (HB2.out.trans (hb.mono HB2.out.size))
    clear hb c0 c1 c2 c3 HT3 HT6 HB2
    go_wp2_with fail
    refine (HL.out w2 HB.out).mono ?_
    rintro e w3 ⟨rfl, hb⟩
    have HB3 := Lib.hid (HB.out.trans (hb.mono HB.out.size))
    have HR3 := Lib.hid (HR.out.next hb)
    clear hb HR HB
    obtain ⟨z0, z1, z2, z3⟩ := HR3.out.cells
    have f0 := HR3.out.frozen 0
    have f1 := HR3.out.frozen 1
    have f2 := HR3.out.frozen 2
    have f3 := HR3.out.frozen 3
    go_wp2_with fail
    refine bodyPost_ret (results_two (a := 4) (b := 5) (by kernel_rfl) (B := w.heap.size + 1) (by rfl) (by rfl) (put4_cells HR3.out _ _ _ _).cells.1 (put4_cells HR3.out _ _ _ _).cells.2.1 (put4_cells HR3.out _ _ _ _).cells.2.2.1 (put4_cells HR3.out _ _ _ _).cells.2.2.2) rfl ?_
    exact ⟨rfl, below_put4 HB3.out (by omega) _ _ _ _⟩

set_option maxHeartbeats 8000000 in
theorem papply_ok (t : Ty) (l : List Ty) (v : Value) (base : Option Addr) (cap : Nat) (w : World) (hv : V w t v) (hl : Sl w base l) (hpt : isProper t = true) (hpl : propersT l = true) : Calls Try.prog 75 #[v, .slice base l.length cap] w (PApP (applyT t l) w) := by
  have hty := fun W (hb : Below w.heap.size w W) => ptype_any t v W (hv.next hb)
  have hli := fun W (hb : Below w.heap.size w W) => plist_any l base cap W (hl.next hb)
  rw [hpt] at hty
  rw [← propersB_eq] at hpl
  rw [hpl] at hli
  unfold propersB at hpl
  rw [Bool.and_eq_true, decide_eq_true_eq] at hpl
  obtain ⟨hl6, hall⟩ := hpl
  have hgl : ∀ x ∈ l, Good x ∧ nodes x ≤ 1000000 := fun x hx => by
    obtain ⟨i, hi, rfl⟩ := List.getElem_of_mem hx
    have h := allB_true.mp hall i hi
    exact ⟨Good.of h, by have := proper_nodes _ h; omega⟩
  have hnt := proper_nodes t hpt
  have hv0 := hv
  have HGL := Lib.hid hgl
  have HLL := Lib.hid hl
  obtain ⟨b, c, ev, _, _⟩ := hv
  subst ev
  obtain ⟨ht3, ht6⟩ := two_boxes w (.int .i64 t.op) (.int .i64 t.n) (.string t.name) (.slice b t.args.length c) (.int .i64 0) (.int .i64 0) (.string ⟨#[]⟩) (.slice none 0 0)
  have hb2 : Below w.heap.size w ((w.alloc (Obj.cells #[.int .i64 t.op, .int .i64 t.n, .string t.name, .slice b t.args.length c] 36)).alloc (Obj.cells #[.int .i64 0, .int .i64 0, .string ⟨#[]⟩, .slice none 0 0] 36)) := below_two w _ _
  have HT3 := Lib.hid ht3
  have HT6 := Lib.hid ht6
  have HB2 := Lib.hid hb2
  have HC := Lib.hid hty
  have HL := Lib.hid hli
  have han := fun (W : World) (hb : Below w.heap.size w W) (hx : B4 W w.heap.size (.int .i64 t.op) (.int .i64 t.n) (.string t.name) (.slice b t.args.length c)) => anewp_any (Good.of hpt) W w.heap.size 0 (at_box hx (hv0.next hb))
  have HAN := Lib.hid han
  clear ht3 ht6 hb2 hty hli hl han hgl hall hpt hnt hv0
  have HFUL := Lib.hid (fun (W : World) (v : Value) (hv : V W (applyT t l) v) => full_any (applyT t l) v W hv)
  obtain ⟨r, hr⟩ : ∃ r, r = applyT t l := ⟨_, rfl⟩
  rw [← hr] at HFUL ⊢
  have HSUM := Lib.hid hr.symm
  clear hr
  obtain ⟨n, hn⟩ : ∃ n, n = l.length := ⟨_, rfl⟩
  rw [← hn] at hl6 HL ⊢
  have HN := Lib.hid hn
  clear hn
  go_enter Try.func75, Try.ntmps75
  go_upto_region 1 with fail
  obtain ⟨W2, hW2⟩ : ∃ W2, W2 = (w.alloc (Obj.cells #[.int .i64 t.op, .int .i64 t.n, .string t.name, .slice b t.args.length c] 36)).alloc (Obj.cells #[.int .i64 0, .int .i64 0, .string ⟨#[]⟩, .slice none 0 0] 36) := ⟨_, rfl⟩
  rw [← hW2] at HT3 HT6 HB2 ⊢
  clear hW2
  obtain ⟨c0, c1, c2, c3⟩ := HT3.out.cells
  go_wp2_with fail
  refine (HC.out W2 HB2.out).mono ?_
  rintro e w2 ⟨rfl, hb⟩
  have HT := Lib.hid (HT3.out.next hb)
  have HR := Lib.hid (HT6.out.next hb)
  have HB := Lib.hid (HB2.out.trans (hb.mono HB2.out.size))
  clear hb c0 c1 c2 c3 HT3 HT6 HB2 HC
  go_wp2_with fail
  refine (HL.out w2 HB.out).mono ?_
  rintro e w3 ⟨rfl, hb⟩
  have HB3 := Lib.hid (HB.out.trans (hb.mono HB.out.size))
  have HT3 := Lib.hid (HT.out.next hb)
  have HR3 := Lib.hid (HR.out.next hb)
  clear hb HR HB HT HL
  obtain ⟨c0, c1, c2, c3⟩ := HT3.out.cells
  go_wp2_with fail
  refine (HAN.out w3 HB3.out HT3.out).mono ?_
  rintro e w4 ⟨v4, rfl, ⟨b4, c4, rfl, hs4, hl4⟩, hb⟩
  have HV4 : Hid (VO (w3.heap.size ≤ ·) w4 t _) := Lib.hid ⟨b4, c4, rfl, hs4, hl4⟩
  have HB4 := Lib.hid (HB3.out.trans (hb.mono HB3.out.size))
  have HR4 := Lib.hid (HR3.out.next hb)
  have HLT : Hid (w.heap.size + 1 < w3.heap.size ∧ w3.heap.size ≤ w4.heap.size) := Lib.hid ⟨lt_of_block HR3.out, hb.size⟩
  clear hs4 hl4 hb HT3 HR3 HB3 HAN c0 c1 c2 c3
  go_upto_region 4 with fail
  obtain ⟨B, hB⟩ : ∃ B, B = w4.heap.size := ⟨_, rfl⟩
  obtain ⟨W5, hW5⟩ : ∃ W5, W5 = w4.alloc (Obj.cells #[.int .i64 t.op, .int .i64 t.n, .string t.name, .slice b4 t.args.length c4] 36) := ⟨_, rfl⟩
  have hb5 : Below w4.heap.size w4 W5 := by rw [hW5]; exact (Below.refl _ _).alloc (Nat.le_refl _) _
  have ht5 : B4 W5 B (.int .i64 t.op) (.int .i64 t.n) (.string t.name) (.slice b4 t.args.length c4) := by rw [hW5, hB]; exact heap_alloc_new _ _
  rw [← hW5, ← hB]
  have HST : Hid (ApS w B t b4 c4 W5) := Lib.hid ⟨HB4.out.trans (hb5.mono HB4.out.size), by have := HLT.out; omega, HR4.out.next hb5, ht5, (HV4.out.bound.keep (fun g hg => by have h1 := HLT.out; have h2 : w3.heap.size ≤ g := hg.1; have h3 := hg.2; exact ⟨by omega, by omega, by omega⟩) (fun p v _ hc => keeps hb5 p v hc))⟩
  clear hW5 hB hb5 ht5 HR4 HB4 HV4
  go_wp2_with fail
  go_loopw [21] (fun i wr => ∃ (j : Nat) (t' : Ty) (b : Option Addr) (c : Nat), j ≤ n ∧ i = .int .i64 j ∧ Hid (ApS w B t' b c wr) ∧ Hid (applyT t' (l.drop j) = r)) (fun i _ => n - (intOf i).toNat)
  case atStart => exact ⟨0, t, b4, c4, Nat.zero_le _, rfl, HST, Lib.hid (by rw [List.drop_zero]; exact HSUM.out)⟩
  case round =>
    obtain ⟨j, t', b', c', hj, rfl, HS, hsum⟩ := hrel
    by_cases hlt : j < n
    · have h1 : j < l.length := by rw [← HN.out]; exact hlt
      rcases HLL.out.2 with h0 | ⟨g, o, rfl, hrow⟩
      · exact absurd h0 (List.ne_nil_of_length_pos (by omega))
      obtain ⟨xb, xc, d0, d1, d2, d3, hvx⟩ := at_v (row_at h1 hrow)
      have hsum2 := hsum.out
      rw [applyT_drop _ h1] at hsum2
      obtain ⟨hgx, hnx⟩ := HGL.out _ (List.getElem_mem h1)
      obtain ⟨x, hx⟩ : ∃ x, x = l[j]'h1 := ⟨_, rfl⟩
      rw [← hx] at d0 d1 d2 d3 hsum2 hvx hgx hnx
      have c0 := keeps HS.out.below _ _ d0
      have c1 := keeps HS.out.below _ _ d1
      have c2 := keeps HS.out.below _ _ d2
      have c3 := keeps HS.out.below _ _ d3
      have HVX := Lib.hid (hvx.next HS.out.below)
      have HSUM2 := Lib.hid hsum2
      have HGX := Lib.hid hgx
      have HNX := Lib.hid hnx
      clear hsum2 hvx hx hrow d0 d1 d2 d3 hgx hnx
      go_upto_region 7 with fail
      obtain ⟨B8, hB8⟩ : ∃ B8, B8 = wr.heap.size := ⟨_, rfl⟩
      obtain ⟨W6, hW6⟩ : ∃ W6, W6 = wr.alloc (Obj.cells #[.int .i64 x.op, .int .i64 x.n, .string x.name, .slice xb x.args.length xc] 36) := ⟨_, rfl⟩
      have hb6 : Below wr.heap.size wr W6 := by rw [hW6]; exact (Below.refl _ _).alloc (Nat.le_refl _) _
      have ht6 : B4 W6 B8 (.int .i64 x.op) (.int .i64 x.n) (.string x.name) (.slice xb x.args.length xc) := by rw [hW6, hB8]; exact heap_alloc_new _ _
      rw [← hW6, ← hB8]
      have HT : Hid (ApT w B B8 t' b' c' x xb xc W6) := Lib.hid ⟨HS.out.next hb6, ht6, HVX.out.next hb6⟩
      clear hW6 hB8 hb6 ht6 HVX c0 c1 c2 c3
      obtain ⟨x0, x1, x2, x3⟩ := HT.out.box8.cells
      obtain ⟨z0, z1, z2, z3⟩ := HT.out.s.box.cells
      have f0 := HT.out.s.box.frozen 0
      have f1 := HT.out.s.box.frozen 1
      have f2 := HT.out.s.box.frozen 2
      have f3 := HT.out.s.box.frozen 3
      first | (go_region_with (first
        | (go_at_call 58; refine (anewp_any HGX.out _ B8 0 (by first | exact at_box HT.out.box8 HT.out.vx | exact at_box HT.out.drew.box8 HT.out.drew.vx)).mono ?_; rintro e w5 ⟨v5, rfl, ⟨b5, c5, rfl, hs5, hl5⟩, hb⟩; have HV5 := Lib.hid (show VO (fun g => w.heap.size ≤ g ∧ g ≠ w.heap.size + 1 ∧ g ≠ B) w5 x (.agg #[.int .i64 x.op, .int .i64 x.n, .string x.name, .slice b5 x.args.length c5]) from VO.keep (fun g hg => new_ok HT.out.s (by first | exact hg)) (fun _ _ _ h => h) ⟨b5, c5, rfl, hs5, hl5⟩); clear hs5 hl5; have HU := Lib.hid (by first | exact HT.out.next hb | exact HT.out.drew.next hb); clear x0 x1 x2 x3 z0 z1 z2 z3 f0 f1 f2 f3 HT hb; have HT := HU; clear HU; obtain ⟨x0, x1, x2, x3⟩ := HT.out.box8.cells; obtain ⟨z0, z1, z2, z3⟩ := HT.out.s.box.cells; have f0 := HT.out.s.box.frozen 0; have f1 := HT.out.s.box.frozen 1; have f2 := HT.out.s.box.frozen 2; have f3 := HT.out.s.box.frozen 3)
        | (go_at_call 60; refine (papp_o (ok := (fun g => w.heap.size ≤ g ∧ g ≠ w.heap.size + 1 ∧ g ≠ B)) t' x _ _ _ (fun g hg => new_ok HT.out.s (by first | exact hg)) HT.out.s.v HV5.out).mono ?_; rintro e w7 ⟨v7, rfl, ⟨b7, c7, rfl, hs7, hl7⟩, hb⟩; have HV7 := Lib.hid (show VO (fun g => w.heap.size ≤ g ∧ g ≠ w.heap.size + 1 ∧ g ≠ B) w7 (.mk 3 0 [] [t', x]) _ from ⟨b7, c7, rfl, hs7, hl7⟩); clear hs7 hl7 HV5; have HU := Lib.hid (by first | exact HT.out.next hb | exact HT.out.drew.next hb); clear x0 x1 x2 x3 z0 z1 z2 z3 f0 f1 f2 f3 HT hb; have HT := HU; clear HU; obtain ⟨x0, x1, x2, x3⟩ := HT.out.box8.cells; obtain ⟨z0, z1, z2, z3⟩ := HT.out.s.box.cells; have f0 := HT.out.s.box.frozen 0; have f1 := HT.out.s.box.frozen 1; have f2 := HT.out.s.box.frozen 2; have f3 := HT.out.s.box.frozen 3))) | fail
      all_goals
        go_wp2_with fail
        go_roundw
        case rel => exact ⟨j + 1, .mk 3 0 [] [t', x], b7, c7, by omega, by go_num, Lib.hid (by first | exact HT.out.s.put HV7.out | exact (HT.out.s.put HV7.out).next ((Below.refl _ _).drew)), HSUM2⟩
        case measure => simp [intOf]; omega
    · have hT : t' = r := by
        rw [← hsum.out, List.drop_of_length_le (by rw [← HN.out]; omega)]; rfl
      subst hT
      have HVF := Lib.hid (HFUL.out wr _ HS.out.v.weak)
      obtain ⟨z0, z1, z2, z3⟩ := HS.out.box.cells
      clear hsum
      cases hq : isProper t' with
      | true =>
        go_wp2_with fail
        refine HVF.out.mono ?_
        rintro e w5 ⟨he, hb⟩
        rw [fullV_ok hq] at he
        subst he
        have HR5 := Lib.hid (HS.out.res.next hb)
        have HV5 := Lib.hid (HS.out.v.next hb)
        have HB5 := Lib.hid (HS.out.below.trans (hb.mono HS.out.below.size))
        clear hb z0 z1 z2 z3
        obtain ⟨z0, z1, z2, z3⟩ := HR5.out.cells
        have f0 := HR5.out.frozen 0
        have f1 := HR5.out.frozen 1
        have f2 := HR5.out.frozen 2
        have f3 := HR5.out.frozen 3
        go_wp2_with fail
        refine bodyPost_ret (results_two (a := 4) (b := 5) (by kernel_rfl) (B := w.heap.size + 1) (by rfl) (by rfl) (put4_cells HR5.out _ _ _ _).cells.1 (put4_cells HR5.out _ _ _ _).cells.2.1 (put4_cells HR5.out _ _ _ _).cells.2.2.1 (put4_cells HR5.out _ _ _ _).cells.2.2.2) rfl ?_
        exact ⟨(.agg #[.int .i64 t'.op, .int .i64 t'.n, .string t'.name, .slice b' t'.args.length c']), (by rw [fullV_ok hq]; rfl), HV5.out.keep (fun g hg => hg.1) (fun p v hp hc => put4_keep _ _ _ _ p v hc hp.2.1), below_put4 HB5.out (by omega) _ _ _ _⟩
      | false =>
        go_wp2_with fail
        refine HVF.out.mono ?_
        rintro e w5 ⟨he, hb⟩
        rw [fullV_bad hq] at he
        subst he
        have HR5 := Lib.hid (HS.out.res.next hb)
        have HV5 := Lib.hid (HS.out.v.next hb)
        have HB5 := Lib.hid (HS.out.below.trans (hb.mono HS.out.below.size))
        clear hb z0 z1 z2 z3
        obtain ⟨z0, z1, z2, z3⟩ := HR5.out.cells
        have f0 := HR5.out.frozen 0
        have f1 := HR5.out.frozen 1
        have f2 := HR5.out.frozen 2
        have f3 := HR5.out.frozen 3
        go_wp2_with fail
        refine bodyPost_ret (results_two (a := 4) (b := 5) (by kernel_rfl) (B := w.heap.size + 1) (by rfl) (by rfl) (put4_cells HR5.out _ _ _ _).cells.1 (put4_cells HR5.out _ _ _ _).cells.2.1 (put4_cells HR5.out _ _ _ _).cells.2.2.1 (put4_cells HR5.out _ _ _ _).cells.2.2.2) rfl ?_
        exact ⟨(.agg #[.int .i64 t'.op, .int .i64 t'.n, .string t'.name, .slice b' t'.args.length c']), (by rw [fullV_bad hq]; rfl), HV5.out.keep (fun g hg => hg.1) (fun p v hp hc => put4_keep _ _ _ _ p v hc hp.2.1), below_put4 HB5.out (by omega) _ _ _ _⟩

end Ty
end Go.Proofs.Ytfjgebdpbmnicaa
