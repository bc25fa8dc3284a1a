/- What the program's Shift returns. Conditions: the type lies in memory. -/
import Derived.Test.YtkedhnahgpmkaaaTyPut
namespace Go.Proofs.Ytkedhnahgpmkaaa
open Go.RowKit

namespace Ty
/-- the arguments of Shift are right -/
def argB (t : Ty) (d f : Int) : Bool := isProper t && (decide (-9999 ≤ d) && (decide (d ≤ 9999) && numB f))
def PShP (d f : Int) (t : Ty) (w : World) (e : Ending) (w' : World) : Prop := ∃ v, e = .returned (fullV (shiftT d f t).1 v) ∧ VO (w.heap.size ≤ ·) w' (shiftT d f t).1 v ∧ Below w.heap.size w w'

set_option maxHeartbeats 8000000 in
theorem pshift_bad (t : Ty) (d f : Int) (v : Value) (w : World) (hv : V w t v) (hbad : argB t d f = false) : Calls Try.prog 24 #[v, .int .i64 d, .int .i64 f] w (BadP 2 w) := by
  have hty := fun W (hb : Below w.heap.size w W) => ptype_any t v W (hv.next hb)
  obtain ⟨b, c, ev, _, _⟩ := hv
  subst ev
  obtain ⟨ht3, ht6⟩ := two_boxes w (.int .i64 t.op) (.int .i64 t.n) (.string t.name) (.slice b t.args.length c) (.int .i64 0) (.int .i64 0) (.string ⟨#[]⟩) (.slice none 0 0)
  have hb2 : Below w.heap.size w ((w.alloc (Obj.cells #[.int .i64 t.op, .int .i64 t.n, .string t.name, .slice b t.args.length c] 24)).alloc (Obj.cells #[.int .i64 0, .int .i64 0, .string ⟨#[]⟩, .slice none 0 0] 24)) := below_two w _ _
  have HT3 := Lib.hid ht3
  have HT6 := Lib.hid ht6
  have HB2 := Lib.hid hb2
  clear ht3 ht6 hb2
  have HBAD := Lib.hid hbad
  clear hbad
  unfold argB at HBAD
  generalize hp : isProper t = p at *
  have HC := Lib.hid hty
  clear hty hp
  cases p with
  | false =>
    go_enter Try.func24, Try.ntmps24
    go_upto_region 1 with fail
    obtain ⟨W2, hW2⟩ : ∃ W2, W2 = (w.alloc (Obj.cells #[.int .i64 t.op, .int .i64 t.n, .string t.name, .slice b t.args.length c] 24)).alloc (Obj.cells #[.int .i64 0, .int .i64 0, .string ⟨#[]⟩, .slice none 0 0] 24) := ⟨_, rfl⟩
    rw [← hW2] at HT3 HT6 HB2 ⊢
    clear hW2
    obtain ⟨c0, c1, c2, c3⟩ := HT3.out.cells
    go_wp2_with fail
    refine (HC.out W2 HB2.out).mono ?_
    rintro e w2 ⟨rfl, hb⟩
    have HT3' := Lib.hid (HT3.out.next hb)
    have HR := Lib.hid (HT6.out.next hb)
    have HB := Lib.hid (HB2.out.trans (hb.mono HB2.out.size))
    clear hb c0 c1 c2 c3 HT3 HT6 HB2 HC
    obtain ⟨c0, c1, c2, c3⟩ := HT3'.out.cells
    obtain ⟨z0, z1, z2, z3⟩ := HR.out.cells
    have f0 := HR.out.frozen 0
    have f1 := HR.out.frozen 1
    have f2 := HR.out.frozen 2
    have f3 := HR.out.frozen 3
    go_wp2_with fail
    refine bodyPost_ret (results_two (a := 6) (b := 7) (by kernel_rfl) (B := w.heap.size + 1) (by rfl) (by rfl) (put4_cells HR.out _ _ _ _).cells.1 (put4_cells HR.out _ _ _ _).cells.2.1 (put4_cells HR.out _ _ _ _).cells.2.2.1 (put4_cells HR.out _ _ _ _).cells.2.2.2) rfl ?_
    exact ⟨rfl, below_put4 HB.out (by omega) _ _ _ _⟩
  | true =>
    by_cases h1 : -9999 ≤ d
    · have q1 : decide (d < -9999) = false := decide_eq_false (by omega)
      by_cases h2 : d ≤ 9999
      · have q2 : decide (9999 < d) = false := decide_eq_false (by omega)
        have hn : numB f = false := by
          have h := HBAD.out
          rw [decide_eq_true h1, decide_eq_true h2] at h
          simpa using h
        have HN := Lib.hid hn
        clear hn h1 h2
        go_enter Try.func24, Try.ntmps24
        go_upto_region 1 with fail
        obtain ⟨W2, hW2⟩ : ∃ W2, W2 = (w.alloc (Obj.cells #[.int .i64 t.op, .int .i64 t.n, .string t.name, .slice b t.args.length c] 24)).alloc (Obj.cells #[.int .i64 0, .int .i64 0, .string ⟨#[]⟩, .slice none 0 0] 24) := ⟨_, rfl⟩
        rw [← hW2] at HT3 HT6 HB2 ⊢
        clear hW2
        obtain ⟨c0, c1, c2, c3⟩ := HT3.out.cells
        go_wp2_with fail
        refine (HC.out W2 HB2.out).mono ?_
        rintro e w2 ⟨rfl, hb⟩
        have HT3' := Lib.hid (HT3.out.next hb)
        have HR := Lib.hid (HT6.out.next hb)
        have HB := Lib.hid (HB2.out.trans (hb.mono HB2.out.size))
        clear hb c0 c1 c2 c3 HT3 HT6 HB2 HC
        obtain ⟨c0, c1, c2, c3⟩ := HT3'.out.cells
        obtain ⟨z0, z1, z2, z3⟩ := HR.out.cells
        have f0 := HR.out.frozen 0
        have f1 := HR.out.frozen 1
        have f2 := HR.out.frozen 2
        have f3 := HR.out.frozen 3
        go_wp2_with (go_at_call 62; refine (pnumber _ _ HN.out _).mono ?_; rintro e w3 ⟨rfl, rfl⟩)
        refine bodyPost_ret (results_two (a := 6) (b := 7) (by kernel_rfl) (B := w.heap.size + 1) (by rfl) (by rfl) (put4_cells HR.out _ _ _ _).cells.1 (put4_cells HR.out _ _ _ _).cells.2.1 (put4_cells HR.out _ _ _ _).cells.2.2.1 (put4_cells HR.out _ _ _ _).cells.2.2.2) rfl ?_
        exact ⟨rfl, below_put4 HB.out (by omega) _ _ _ _⟩
      · have q2 : decide (9999 < d) = true := decide_eq_true (by omega)
        clear h1 h2
        go_enter Try.func24, Try.ntmps24
        go_upto_region 1 with fail
        obtain ⟨W2, hW2⟩ : ∃ W2, W2 = (w.alloc (Obj.cells #[.int .i64 t.op, .int .i64 t.n, .string t.name, .slice b t.args.length c] 24)).alloc (Obj.cells #[.int .i64 0, .int .i64 0, .string ⟨#[]⟩, .slice none 0 0] 24) := ⟨_, rfl⟩
        rw [← hW2] at HT3 HT6 HB2 ⊢
        clear hW2
        obtain ⟨c0, c1, c2, c3⟩ := HT3.out.cells
        go_wp2_with fail
        refine (HC.out W2 HB2.out).mono ?_
        rintro e w2 ⟨rfl, hb⟩
        have HT3' := Lib.hid (HT3.out.next hb)
        have HR := Lib.hid (HT6.out.next hb)
        have HB := Lib.hid (HB2.out.trans (hb.mono HB2.out.size))
        clear hb c0 c1 c2 c3 HT3 HT6 HB2 HC
        obtain ⟨c0, c1, c2, c3⟩ := HT3'.out.cells
        obtain ⟨z0, z1, z2, z3⟩ := HR.out.cells
        have f0 := HR.out.frozen 0
        have f1 := HR.out.frozen 1
        have f2 := HR.out.frozen 2
        have f3 := HR.out.frozen 3
        go_wp2_with fail
        refine bodyPost_ret (results_two (a := 6) (b := 7) (by kernel_rfl) (B := w.heap.size + 1) (by rfl) (by rfl) (put4_cells HR.out _ _ _ _).cells.1 (put4_cells HR.out _ _ _ _).cells.2.1 (put4_cells HR.out _ _ _ _).cells.2.2.1 (put4_cells HR.out _ _ _ _).cells.2.2.2) rfl ?_
        exact ⟨rfl, below_put4 HB.out (by omega) _ _ _ _⟩
    · have q1 : decide (d < -9999) = true := decide_eq_true (by omega)
      clear h1
      go_enter Try.func24, Try.ntmps24
      go_upto_region 1 with fail
      obtain ⟨W2, hW2⟩ : ∃ W2, W2 = (w.alloc (Obj.cells #[.int .i64 t.op, .int .i64 t.n, .string t.name, .slice b t.args.length c] 24)).alloc (Obj.cells #[.int .i64 0, .int .i64 0, .string ⟨#[]⟩, .slice none 0 0] 24) := ⟨_, rfl⟩
      rw [← hW2] at HT3 HT6 HB2 ⊢
      clear hW2
      obtain ⟨c0, c1, c2, c3⟩ := HT3.out.cells
      go_wp2_with fail
      refine (HC.out W2 HB2.out).mono ?_
      rintro e w2 ⟨rfl, hb⟩
      have HT3' := Lib.hid (HT3.out.next hb)
      have HR := Lib.hid (HT6.out.next hb)
      have HB := Lib.hid (HB2.out.trans (hb.mono HB2.out.size))
      clear hb c0 c1 c2 c3 HT3 HT6 HB2 HC
      obtain ⟨c0, c1, c2, c3⟩ := HT3'.out.cells
      obtain ⟨z0, z1, z2, z3⟩ := HR.out.cells
      have f0 := HR.out.frozen 0
      have f1 := HR.out.frozen 1
      have f2 := HR.out.frozen 2
      have f3 := HR.out.frozen 3
      go_wp2_with fail
      refine bodyPost_ret (results_two (a := 6) (b := 7) (by kernel_rfl) (B := w.heap.size + 1) (by rfl) (by rfl) (put4_cells HR.out _ _ _ _).cells.1 (put4_cells HR.out _ _ _ _).cells.2.1 (put4_cells HR.out _ _ _ _).cells.2.2.1 (put4_cells HR.out _ _ _ _).cells.2.2.2) rfl ?_
      exact ⟨rfl, below_put4 HB.out (by omega) _ _ _ _⟩

set_option maxHeartbeats 8000000 in
theorem pshift_none (t : Ty) (d f : Int) (v : Value) (w : World) (hv : V w t v) (hgood : argB t d f = true) (hk : (shiftT d f t).2 = false) : Calls Try.prog 24 #[v, .int .i64 d, .int .i64 f] w (BadP 6 w) := by
  have hty := fun W (hb : Below w.heap.size w W) => ptype_any t v W (hv.next hb)
  unfold argB at hgood
  rw [Bool.and_eq_true, Bool.and_eq_true, Bool.and_eq_true, decide_eq_true_eq, decide_eq_true_eq] at hgood
  obtain ⟨hp, h1, h2, hn⟩ := hgood
  have hf : 0 ≤ f ∧ f ≤ 9999 := by unfold numB at hn; rw [Bool.and_eq_true, decide_eq_true_eq, decide_eq_true_eq] at hn; exact hn
  have hnt := proper_nodes t hp
  have hsh := fun W (hb : Below w.heap.size w W) => shift_any t (Good.of hp) (by omega) d f hf (by omega) v W (hv.next hb)
  unfold ShiftP at hsh
  rw [hp] at hty
  rw [hk] at hsh
  obtain ⟨b, c, ev, _, _⟩ := hv
  subst ev
  obtain ⟨ht3, ht6⟩ := two_boxes w (.int .i64 t.op) (.int .i64 t.n) (.string t.name) (.slice b t.args.length c) (.int .i64 0) (.int .i64 0) (.string ⟨#[]⟩) (.slice none 0 0)
  have hb2 : Below w.heap.size w ((w.alloc (Obj.cells #[.int .i64 t.op, .int .i64 t.n, .string t.name, .slice b t.args.length c] 24)).alloc (Obj.cells #[.int .i64 0, .int .i64 0, .string ⟨#[]⟩, .slice none 0 0] 24)) := below_two w _ _
  have HT3 := Lib.hid ht3
  have HT6 := Lib.hid ht6
  have HB2 := Lib.hid hb2
  clear ht3 ht6 hb2
  have HC := Lib.hid hty
  have HN := Lib.hid hn
  have q1 : decide (d < -9999) = false := decide_eq_false (by omega)
  have q2 : decide (9999 < d) = false := decide_eq_false (by omega)
  obtain ⟨r, hr⟩ : ∃ r, r = (shiftT d f t).1 := ⟨_, rfl⟩
  rw [← hr] at hsh
  clear hr
  have HSH := Lib.hid hsh
  clear hty hsh hn hp hnt hk
  go_enter Try.func24, Try.ntmps24
  go_upto_region 1 with fail
  obtain ⟨W2, hW2⟩ : ∃ W2, W2 = (w.alloc (Obj.cells #[.int .i64 t.op, .int .i64 t.n, .string t.name, .slice b t.args.length c] 24)).alloc (Obj.cells #[.int .i64 0, .int .i64 0, .string ⟨#[]⟩, .slice none 0 0] 24) := ⟨_, rfl⟩
  rw [← hW2] at HT3 HT6 HB2 ⊢
  clear hW2
  obtain ⟨c0, c1, c2, c3⟩ := HT3.out.cells
  go_wp2_with fail
  refine (HC.out W2 HB2.out).mono ?_
  rintro e w2 ⟨rfl, hb⟩
  have HT3' := Lib.hid (HT3.out.next hb)
  have HR := Lib.hid (HT6.out.next hb)
  have HB := Lib.hid (HB2.out.trans (hb.mono HB2.out.size))
  clear hb c0 c1 c2 c3 HT3 HT6 HB2 HC
  obtain ⟨c0, c1, c2, c3⟩ := HT3'.out.cells
  obtain ⟨z0, z1, z2, z3⟩ := HR.out.cells
  have f0 := HR.out.frozen 0
  have f1 := HR.out.frozen 1
  have f2 := HR.out.frozen 2
  have f3 := HR.out.frozen 3
  have HBO := Lib.hid HB.out
  clear z0 z1 z2 z3 f0 f1 f2 f3
  go_wp2_with (go_at_call 62; refine (pnumber _ _ HN.out _).mono ?_; rintro e w3 ⟨rfl, rfl⟩)
  refine (HSH.out w2 HB.out).mono ?_
  rintro e w3 ⟨v3, rfl, ⟨b9, c9, rfl, hs9, hl9⟩, hb⟩
  have HV3 : Hid (VO (w2.heap.size ≤ ·) w3 r _) := Lib.hid ⟨b9, c9, rfl, hs9, hl9⟩
  have HR3 := Lib.hid (HR.out.next hb)
  have HB3 := Lib.hid (HB.out.trans (hb.mono HB.out.size))
  have HLT : Hid (w.heap.size + 1 < w2.heap.size) := Lib.hid (lt_of_block HR.out)
  clear hs9 hl9 hb HR HB HBO c0 c1 c2 c3 HSH HT3'
  go_upto_region 4 with fail
  obtain ⟨T8, hT8⟩ : ∃ T8, T8 = w3.heap.size := ⟨_, rfl⟩
  obtain ⟨W4, hW4⟩ : ∃ W4, W4 = w3.alloc (Obj.cells #[.int .i64 r.op, .int .i64 r.n, .string r.name, .slice b9 r.args.length c9] 24) := ⟨_, rfl⟩
  have ht8 : B4 W4 T8 (.int .i64 r.op) (.int .i64 r.n) (.string r.name) (.slice b9 r.args.length c9) := by rw [hW4, hT8]; exact heap_alloc_new _ _
  have hb4 : Below w3.heap.size w3 W4 := by rw [hW4]; exact (Below.refl _ _).alloc (Nat.le_refl _) _
  rw [← hW4, ← hT8]
  clear hW4 hT8
  have HT8 := Lib.hid ht8
  have HR4 := Lib.hid (HR3.out.next hb4)
  have HB4 := Lib.hid (HB3.out.trans (hb4.mono HB3.out.size))
  have HV4 := Lib.hid (HV3.out.next hb4)
  clear ht8 hb4 HR3 HB3 HV3
  obtain ⟨t0, t1, t2, t3⟩ := HT8.out.cells
  obtain ⟨z0, z1, z2, z3⟩ := HR4.out.cells
  have f0 := HR4.out.frozen 0
  have f1 := HR4.out.frozen 1
  have f2 := HR4.out.frozen 2
  have f3 := HR4.out.frozen 3
  go_wp2_with fail
  refine bodyPost_ret (results_two (a := 6) (b := 7) (by kernel_rfl) (B := w.heap.size + 1) (by rfl) (by rfl) (put4_cells HR4.out _ _ _ _).cells.1 (put4_cells HR4.out _ _ _ _).cells.2.1 (put4_cells HR4.out _ _ _ _).cells.2.2.1 (put4_cells HR4.out _ _ _ _).cells.2.2.2) rfl ?_
  exact ⟨rfl, below_put4 HB4.out (by omega) _ _ _ _⟩

set_option maxHeartbeats 8000000 in
theorem pshift_full (t : Ty) (d f : Int) (v : Value) (w : World) (hv : V w t v) (hgood : argB t d f = true) (hk : (shiftT d f t).2 = true) : Calls Try.prog 24 #[v, .int .i64 d, .int .i64 f] w (PShP d f t w) := by
  have hty := fun W (hb : Below w.heap.size w W) => ptype_any t v W (hv.next hb)
  unfold argB at hgood
  rw [Bool.and_eq_true, Bool.and_eq_true, Bool.and_eq_true, decide_eq_true_eq, decide_eq_true_eq] at hgood
  obtain ⟨hp, h1, h2, hn⟩ := hgood
  have hf : 0 ≤ f ∧ f ≤ 9999 := by unfold numB at hn; rw [Bool.and_eq_true, decide_eq_true_eq, decide_eq_true_eq] at hn; exact hn
  have hnt := proper_nodes t hp
  have hsh := fun W (hb : Below w.heap.size w W) => shift_any t (Good.of hp) (by omega) d f hf (by omega) v W (hv.next hb)
  unfold ShiftP at hsh
  rw [hp] at hty
  rw [hk] at hsh
  obtain ⟨b, c, ev, _, _⟩ := hv
  subst ev
  obtain ⟨ht3, ht6⟩ := two_boxes w (.int .i64 t.op) (.int .i64 t.n) (.string t.name) (.slice b t.args.length c) (.int .i64 0) (.int .i64 0) (.string ⟨#[]⟩) (.slice none 0 0)
  have hb2 : Below w.heap.size w ((w.alloc (Obj.cells #[.int .i64 t.op, .int .i64 t.n, .string t.name, .slice b t.args.length c] 24)).alloc (Obj.cells #[.int .i64 0, .int .i64 0, .string ⟨#[]⟩, .slice none 0 0] 24)) := below_two w _ _
  have HT3 := Lib.hid ht3
  have HT6 := Lib.hid ht6
  have HB2 := Lib.hid hb2
  clear ht3 ht6 hb2
  have HC := Lib.hid hty
  have HN := Lib.hid hn
  have q1 : decide (d < -9999) = false := decide_eq_false (by omega)
  have q2 : decide (9999 < d) = false := decide_eq_false (by omega)
  unfold PShP
  obtain ⟨r, hr⟩ : ∃ r, r = (shiftT d f t).1 := ⟨_, rfl⟩
  rw [← hr] at hsh ⊢
  clear hr
  have HSH := Lib.hid hsh
  clear hty hsh hn hp hnt hk
  have HFUL := Lib.hid (fun v (w : World) (hv : V w r v) => full_any r v w hv)
  go_enter Try.func24, Try.ntmps24
  go_upto_region 1 with fail
  obtain ⟨W2, hW2⟩ : ∃ W2, W2 = (w.alloc (Obj.cells #[.int .i64 t.op, .int .i64 t.n, .string t.name, .slice b t.args.length c] 24)).alloc (Obj.cells #[.int .i64 0, .int .i64 0, .string ⟨#[]⟩, .slice none 0 0] 24) := ⟨_, rfl⟩
  rw [← hW2] at HT3 HT6 HB2 ⊢
  clear hW2
  obtain ⟨c0, c1, c2, c3⟩ := HT3.out.cells
  go_wp2_with fail
  refine (HC.out W2 HB2.out).mono ?_
  rintro e w2 ⟨rfl, hb⟩
  have HT3' := Lib.hid (HT3.out.next hb)
  have HR := Lib.hid (HT6.out.next hb)
  have HB := Lib.hid (HB2.out.trans (hb.mono HB2.out.size))
  clear hb c0 c1 c2 c3 HT3 HT6 HB2 HC
  obtain ⟨c0, c1, c2, c3⟩ := HT3'.out.cells
  obtain ⟨z0, z1, z2, z3⟩ := HR.out.cells
  have f0 := HR.out.frozen 0
  have f1 := HR.out.frozen 1
  have f2 := HR.out.frozen 2
  have f3 := HR.out.frozen 3
  have HBO := Lib.hid HB.out
  clear z0 z1 z2 z3 f0 f1 f2 f3
  go_wp2_with (go_at_call 62; refine (pnumber _ _ HN.out _).mono ?_; rintro e w3 ⟨rfl, rfl⟩)
  refine (HSH.out w2 HB.out).mono ?_
  rintro e w3 ⟨v3, rfl, ⟨b9, c9, rfl, hs9, hl9⟩, hb⟩
  have HV3 : Hid (VO (w2.heap.size ≤ ·) w3 r _) := Lib.hid ⟨b9, c9, rfl, hs9, hl9⟩
  have HR3 := Lib.hid (HR.out.next hb)
  have HB3 := Lib.hid (HB.out.trans (hb.mono HB.out.size))
  have HLT : Hid (w.heap.size + 1 < w2.heap.size) := Lib.hid (lt_of_block HR.out)
  clear hs9 hl9 hb HR HB HBO c0 c1 c2 c3 HSH HT3'
  go_upto_region 4 with fail
  obtain ⟨T8, hT8⟩ : ∃ T8, T8 = w3.heap.size := ⟨_, rfl⟩
  obtain ⟨W4, hW4⟩ : ∃ W4, W4 = w3.alloc (Obj.cells #[.int .i64 r.op, .int .i64 r.n, .string r.name, .slice b9 r.args.length c9] 24) := ⟨_, rfl⟩
  have ht8 : B4 W4 T8 (.int .i64 r.op) (.int .i64 r.n) (.string r.name) (.slice b9 r.args.length c9) := by rw [hW4, hT8]; exact heap_alloc_new _ _
  have hb4 : Below w3.heap.size w3 W4 := by rw [hW4]; exact (Below.refl _ _).alloc (Nat.le_refl _) _
  rw [← hW4, ← hT8]
  clear hW4 hT8
  have HT8 := Lib.hid ht8
  have HR4 := Lib.hid (HR3.out.next hb4)
  have HB4 := Lib.hid (HB3.out.trans (hb4.mono HB3.out.size))
  have HV4 := Lib.hid (HV3.out.next hb4)
  clear ht8 hb4 HR3 HB3 HV3
  obtain ⟨t0, t1, t2, t3⟩ := HT8.out.cells
  go_wp2_with fail
  refine (HFUL.out _ W4 HV4.out.weak).mono ?_
  rintro e w5 ⟨rfl, hb⟩
  have HB5 := Lib.hid (HB4.out.trans (hb.mono HB4.out.size))
  have HR5 := Lib.hid (HR4.out.next hb)
  have HV5 := Lib.hid (HV4.out.next hb)
  clear hb HB4 HR4 HV4 t0 t1 t2 t3 HT8
  obtain ⟨z0, z1, z2, z3⟩ := HR5.out.cells
  have f0 := HR5.out.frozen 0
  have f1 := HR5.out.frozen 1
  have f2 := HR5.out.frozen 2
  have f3 := HR5.out.frozen 3
  cases hp : isProper r with
  | true =>
    have HE := Lib.hid (fullV_ok hp (.agg #[.int .i64 r.op, .int .i64 r.n, .string r.name, .slice b9 r.args.length c9]))
    rw [HE.out]
    clear hp
    go_wp2_with fail
    refine bodyPost_ret (results_two (a := 6) (b := 7) (by kernel_rfl) (B := w.heap.size + 1) (by rfl) (by rfl) (put4_cells HR5.out _ _ _ _).cells.1 (put4_cells HR5.out _ _ _ _).cells.2.1 (put4_cells HR5.out _ _ _ _).cells.2.2.1 (put4_cells HR5.out _ _ _ _).cells.2.2.2) rfl ?_
    have hz := HLT.out
    refine ⟨.agg #[.int .i64 r.op, .int .i64 r.n, .string r.name, .slice b9 r.args.length c9], by first | (rw [HE.out]; rfl) | rw [HE.out], HV5.out.keep (fun g hg => by show w.heap.size ≤ g; have : w2.heap.size ≤ g := hg; omega) (fun p v hp hc => put4_keep _ _ _ _ p v hc (by have : w2.heap.size ≤ p.block := hp; omega)), below_put4 HB5.out (by omega) _ _ _ _⟩
  | false =>
    have HE := Lib.hid (fullV_bad hp (.agg #[.int .i64 r.op, .int .i64 r.n, .string r.name, .slice b9 r.args.length c9]))
    rw [HE.out]
    clear hp
    go_wp2_with fail
    refine bodyPost_ret (results_two (a := 6) (b := 7) (by kernel_rfl) (B := w.heap.size + 1) (by rfl) (by rfl) (put4_cells HR5.out _ _ _ _).cells.1 (put4_cells HR5.out _ _ _ _).cells.2.1 (put4_cells HR5.out _ _ _ _).cells.2.2.1 (put4_cells HR5.out _ _ _ _).cells.2.2.2) rfl ?_
    have hz := HLT.out
    refine ⟨.agg #[.int .i64 r.op, .int .i64 r.n, .string r.name, .slice b9 r.args.length c9], by first | (rw [HE.out]; rfl) | rw [HE.out], HV5.out.keep (fun g hg => by show w.heap.size ≤ g; have : w2.heap.size ≤ g := hg; omega) (fun p v hp hc => put4_keep _ _ _ _ p v hc (by have : w2.heap.size ≤ p.block := hp; omega)), below_put4 HB5.out (by omega) _ _ _ _⟩

end Ty
end Go.Proofs.Ytkedhnahgpmkaaa
