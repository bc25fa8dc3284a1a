/- What kind's wanted returns. Conditions: the type lies in memory and is well formed. -/
import Derived.Test.YtfjgebdpbmnicaaJ18
import Derived.Test.YtfjgebdpbmnicaaJ17
namespace Go.Proofs.Ytfjgebdpbmnicaa
open Go.RowKit

namespace Ty
/-- the kind of the argument that something of a kind wants -/
def wantT (t : Ty) : Option Ty := if t.op = 4 then t.args.head? else if isAppl t [45, 62] = true then (match t.args with | f :: _ => f.args[1]? | [] => none) else none
theorem isAppl_form {t : Ty} {q : List UInt8} (hg : Good t) (h : isAppl t q = true) : ∃ k a r, t = .mk 3 0 [] [.mk 3 0 [] [k, a], r] ∧ Good k ∧ Good a ∧ Good r := by
  cases hg with
  | var op n h1 h2 h3 => rw [isAppl_no (t := .mk op n [] []) (show op ≠ 3 by omega)] at h; cases h
  | con s h1 h2 => rw [isAppl_no (t := .mk 2 0 s []) (show (2 : Int) ≠ 3 by decide)] at h; cases h
  | node op f x hop hf hx =>
    by_cases h3 : op = 3
    · subst h3
      by_cases hf3 : f.op = 3
      · cases hf with
        | var op n h1 h2 h3 => exact absurd hf3 (show op ≠ 3 by omega)
        | con s h1 h2 => exact absurd hf3 (show (2 : Int) ≠ 3 by decide)
        | node op2 k a hop2 hk ha =>
          have e : op2 = 3 := hf3
          subst e
          exact ⟨k, a, x, rfl, hk, ha, hx⟩
      · rw [isAppl_no2 hf3] at h; cases h
    · rw [isAppl_no (t := .mk op 0 [] [f, x]) (show op ≠ 3 from h3)] at h; cases h
def WantP (t : Ty) (w : World) (e : Ending) (w' : World) : Prop :=
  Below w.heap.size w w' ∧ ((wantT t = none ∧ e = .returned (.pointer none)) ∨ ∃ x g o l, wantT t = some x ∧ e = .returned (.pointer (some ⟨g, o, none⟩)) ∧ Row w g o (x :: l))
set_option maxHeartbeats 8000000 in
theorem want_any (t : Ty) (hg : Good t) (v : Value) (w : World) (hv : V w t v) : Calls Try.prog 70 #[v] w (WantP t w) := by
  have HA := Lib.hid (fun W (hb : Below w.heap.size w W) => isappl_any t hg ⟨#[45, 62]⟩ v W (hv.next hb))
  obtain ⟨b, c, ev, _, hsl⟩ := hv
  subst ev
  have hb1 : Below w.heap.size w (w.alloc (Obj.cells #[.int .i64 t.op, .int .i64 t.n, .string t.name, .slice b t.args.length c] 36)) := (Below.refl _ _).alloc (Nat.le_refl _) _
  have ht1 : B4 (w.alloc (Obj.cells #[.int .i64 t.op, .int .i64 t.n, .string t.name, .slice b t.args.length c] 36)) w.heap.size (.int .i64 t.op) (.int .i64 t.n) (.string t.name) (.slice b t.args.length c) := heap_alloc_new _ _
  go_enter Try.func70, Try.ntmps70
  go_upto_region 1 with fail
  obtain ⟨W1, hW1⟩ : ∃ W1, W1 = w.alloc (Obj.cells #[.int .i64 t.op, .int .i64 t.n, .string t.name, .slice b t.args.length c] 36) := ⟨_, rfl⟩
  rw [← hW1] at hb1 ht1 ⊢
  clear hW1
  have HT := Lib.hid ht1
  have HB := Lib.hid hb1
  clear ht1 hb1
  by_cases h4 : t.op = 4
  · cases hg with
    | var op n h1 h2 h3 => exact absurd h4 (show op ≠ 4 by omega)
    | con s h1 h2 => exact absurd h4 (show (2 : Int) ≠ 4 by decide)
    | node op f x hop hf hx =>
      have e3 : op = 4 := h4
      subst e3
      rcases hsl.2 with h0 | ⟨g, o, hbg, hrow⟩
      · cases h0
      subst hbg
      have HR := Lib.hid hrow
      clear hsl hrow HA
      obtain ⟨b0, b1, b2, b3⟩ := HT.out.cells
      replace b0 : W1.cell? ⟨w.heap.size, 0, none⟩ = some (.int .i64 4) := b0
      replace b3 : W1.cell? ⟨w.heap.size, 3, none⟩ = some (.slice (some ⟨g, o, none⟩) 2 c) := b3
      go_wp2_with fail
      go_ret
      unfold WantP
      exact ⟨HB.out, .inr ⟨f, g, o, [x], rfl, rfl, HR.out⟩⟩
  · have q4 : (t.op == 4) = false := by simpa using h4
    obtain ⟨b0, b1, b2, b3⟩ := HT.out.cells
    have HW := Lib.hid (show wantT t = if isAppl t [45, 62] = true then (match t.args with | f :: _ => f.args[1]? | [] => none) else none from if_neg h4)
    cases hq : isAppl t [45, 62] with
    | false =>
      have HA2 := Lib.hid (HA.out W1 HB.out)
      rw [show (⟨#[45, 62]⟩ : ByteArray).data.toList = [45, 62] from rfl, hq] at HA2
      have HQ := Lib.hid hq
      clear hq hsl HA h4
      go_wp2_with fail
      refine HA2.out.mono ?_
      rintro e w2 ⟨rfl, hb⟩
      have HB2 := Lib.hid (HB.out.trans (hb.mono HB.out.size))
      clear hb b0 b1 b2 b3 HA2
      go_wp2_with fail
      go_ret
      unfold WantP
      exact ⟨HB2.out, .inl ⟨by rw [HW.out, HQ.out]; rfl, rfl⟩⟩
    | true =>
      obtain ⟨k, a, r, ht, _, _, _⟩ := isAppl_form hg hq
      subst ht
      rcases hsl.2 with h0 | ⟨g, o, hbg, hrow⟩
      · cases h0
      subst hbg
      obtain ⟨hrf, _, _⟩ := hrow
      obtain ⟨fb, fc, f0, f1, f2, f3, hvf⟩ := at_v hrf
      obtain ⟨b2', c2, e2, _, hsl2⟩ := hvf
      simp only [Value.agg.injEq, Array.mk.injEq, List.cons.injEq, Value.slice.injEq, true_and, and_true] at e2
      obtain ⟨e2, -⟩ := e2
      subst e2
      rcases hsl2.2 with h0 | ⟨g2, o2, hbg, hrow2⟩
      · cases h0
      subst hbg
      have HR2 := Lib.hid hrow2
      have F3 := Lib.hid f3
      have HA2 := Lib.hid (HA.out W1 HB.out)
      rw [show (⟨#[45, 62]⟩ : ByteArray).data.toList = [45, 62] from rfl, hq] at HA2
      have HQ := Lib.hid hq
      clear hq hsl HA h4 f0 f1 f2 f3 hrf hsl2 hrow2
      go_wp2_with fail
      refine HA2.out.mono ?_
      rintro e w2 ⟨rfl, hb⟩
      have HB2 := Lib.hid (HB.out.trans (hb.mono HB.out.size))
      have HT2 := Lib.hid (HT.out.next hb)
      clear hb b0 b1 b2 b3 HA2
      obtain ⟨d0, d1, d2, d3⟩ := HT2.out.cells
      have K3 := keeps HB2.out _ _ F3.out
      replace d3 : w2.cell? ⟨w.heap.size, 3, none⟩ = some (.slice (some ⟨g, o, none⟩) 2 c) := d3
      replace K3 : w2.cell? ⟨g, o + 3, none⟩ = some (.slice (some ⟨g2, o2, none⟩) 2 fc) := K3
      go_wp2_with fail
      go_ret
      unfold WantP
      exact ⟨HB2.out, .inr ⟨a, g2, o2 + 4, [], by rw [HW.out, HQ.out]; rfl, rfl, HR2.out.2⟩⟩
end Ty
end Go.Proofs.Ytfjgebdpbmnicaa

/- What the program's Shift returns. Conditions: the type lies in memory. -/
namespace Go.Proofs.Ytfjgebdpbmnicaa
open Go.RowKit

namespace Ty
/-- the arguments of Shift are right -/
def argB (t : Ty) (d f : Int) : Bool := isProper t && (decide (-9999 ≤ d) && (decide (d ≤ 9999) && numB f))
def PShP (d f : Int) (t : Ty) (w : World) (e : Ending) (w' : World) : Prop := ∃ v, e = .returned (fullV (shiftT d f t).1 v) ∧ VO (w.heap.size ≤ ·) w' (shiftT d f t).1 v ∧ Below w.heap.size w w'

set_option maxHeartbeats 8000000 in
theorem pshift_bad (t : Ty) (d f : Int) (v : Value) (w : World) (hv : V w t v) (hbad : argB t d f = false) : Calls Try.prog 32 #[v, .int .i64 d, .int .i64 f] w (BadP 2 w) := by
  have hty := fun W (hb : Below w.heap.size w W) => ptype_any t v W (hv.next hb)
  obtain ⟨b, c, ev, _, _⟩ := hv
  subst ev
  obtain ⟨ht3, ht6⟩ := two_boxes w (.int .i64 t.op) (.int .i64 t.n) (.string t.name) (.slice b t.args.length c) (.int .i64 0) (.int .i64 0) (.string ⟨#[]⟩) (.slice none 0 0)
  have hb2 : Below w.heap.size w ((w.alloc (Obj.cells #[.int .i64 t.op, .int .i64 t.n, .string t.name, .slice b t.args.length c] 36)).alloc (Obj.cells #[.int .i64 0, .int .i64 0, .string ⟨#[]⟩, .slice none 0 0] 36)) := below_two w _ _
  have HT3 := Lib.hid ht3
  have HT6 := Lib.hid ht6
  have HB2 := Lib.hid hb2
  clear ht3 ht6 hb2
  have HBAD := Lib.hid hbad
  clear hbad
  unfold argB at HBAD
  generalize hp : isProper t = p at *
  have HC := Lib.hid hty
  clear hty hp
  cases p with
  | false =>
    go_enter Try.func32, Try.ntmps32
    go_upto_region 1 with fail
    obtain ⟨W2, hW2⟩ : ∃ W2, W2 = (w.alloc (Obj.cells #[.int .i64 t.op, .int .i64 t.n, .string t.name, .slice b t.args.length c] 36)).alloc (Obj.cells #[.int .i64 0, .int .i64 0, .string ⟨#[]⟩, .slice none 0 0] 36) := ⟨_, rfl⟩
    rw [← hW2] at HT3 HT6 HB2 ⊢
    clear hW2
    obtain ⟨c0, c1, c2, c3⟩ := HT3.out.cells
    go_wp2_with fail
    refine (HC.out W2 HB2.out).mono ?_
    rintro e w2 ⟨rfl, hb⟩
    have HT3' := Lib.hid (HT3.out.next hb)
    have HR := Lib.hid (HT6.out.next hb)
    have HB := Lib.hid (HB2.out.trans (hb.mono HB2.out.size))
    clear hb c0 c1 c2 c3 HT3 HT6 HB2 HC
    obtain ⟨c0, c1, c2, c3⟩ := HT3'.out.cells
    obtain ⟨z0, z1, z2, z3⟩ := HR.out.cells
    have f0 := HR.out.frozen 0
    have f1 := HR.out.frozen 1
    have f2 := HR.out.frozen 2
    have f3 := HR.out.frozen 3
    go_wp2_with fail
    refine bodyPost_ret (results_two (a := 6) (b := 7) (by kernel_rfl) (B := w.heap.size + 1) (by rfl) (by rfl) (put4_cells HR.out _ _ _ _).cells.1 (put4_cells HR.out _ _ _ _).cells.2.1 (put4_cells HR.out _ _ _ _).cells.2.2.1 (put4_cells HR.out _ _ _ _).cells.2.2.2) rfl ?_
    exact ⟨rfl, below_put4 HB.out (by omega) _ _ _ _⟩
  | true =>
    by_cases h1 : -9999 ≤ d
    · have q1 : decide (d < -9999) = false := decide_eq_false (by omega)
      by_cases h2 : d ≤ 9999
      · have q2 : decide (9999 < d) = false := decide_eq_false (by omega)
        have hn : numB f = false := by
          have h := HBAD.out
          rw [decide_eq_true h1, decide_eq_true h2] at h
          simpa using h
        have HN := Lib.hid hn
        clear hn h1 h2
        go_enter Try.func32, Try.ntmps32
        go_upto_region 1 with fail
        obtain ⟨W2, hW2⟩ : ∃ W2, W2 = (w.alloc (Obj.cells #[.int .i64 t.op, .int .i64 t.n, .string t.name, .slice b t.args.length c] 36)).alloc (Obj.cells #[.int .i64 0, .int .i64 0, .string ⟨#[]⟩, .slice none 0 0] 36) := ⟨_, rfl⟩
        rw [← hW2] at HT3 HT6 HB2 ⊢
        clear hW2
        obtain ⟨c0, c1, c2, c3⟩ := HT3.out.cells
        go_wp2_with fail
        refine (HC.out W2 HB2.out).mono ?_
        rintro e w2 ⟨rfl, hb⟩
        have HT3' := Lib.hid (HT3.out.next hb)
        have HR := Lib.hid (HT6.out.next hb)
        have HB := Lib.hid (HB2.out.trans (hb.mono HB2.out.size))
        clear hb c0 c1 c2 c3 HT3 HT6 HB2 HC
        obtain ⟨c0, c1, c2, c3⟩ := HT3'.out.cells
        obtain ⟨z0, z1, z2, z3⟩ := HR.out.cells
        have f0 := HR.out.frozen 0
        have f1 := HR.out.frozen 1
        have f2 := HR.out.frozen 2
        have f3 := HR.out.frozen 3
        go_wp2_with (go_at_call 62; refine (pnumber _ _ HN.out _).mono ?_; rintro e w3 ⟨rfl, rfl⟩)
        refine bodyPost_ret (results_two (a := 6) (b := 7) (by kernel_rfl) (B := w.heap.size + 1) (by rfl) (by rfl) (put4_cells HR.out _ _ _ _).cells.1 (put4_cells HR.out _ _ _ _).cells.2.1 (put4_cells HR.out _ _ _ _).cells.2.2.1 (put4_cells HR.out _ _ _ _).cells.2.2.2) rfl ?_
        exact ⟨rfl, below_put4 HB.out (by omega) _ _ _ _⟩
      · have q2 : decide (9999 < d) = true := decide_eq_true (by omega)
        clear h1 h2
        go_enter Try.func32, Try.ntmps32
        go_upto_region 1 with fail
        obtain ⟨W2, hW2⟩ : ∃ W2, W2 = (w.alloc (Obj.cells #[.int .i64 t.op, .int .i64 t.n, .string t.name, .slice b t.args.length c] 36)).alloc (Obj.cells #[.int .i64 0, .int .i64 0, .string ⟨#[]⟩, .slice none 0 0] 36) := ⟨_, rfl⟩
        rw [← hW2] at HT3 HT6 HB2 ⊢
        clear hW2
        obtain ⟨c0, c1, c2, c3⟩ := HT3.out.cells
        go_wp2_with fail
        refine (HC.out W2 HB2.out).mono ?_
        rintro e w2 ⟨rfl, hb⟩
        have HT3' := Lib.hid (HT3.out.next hb)
        have HR := Lib.hid (HT6.out.next hb)
        have HB := Lib.hid (HB2.out.trans (hb.mono HB2.out.size))
        clear hb c0 c1 c2 c3 HT3 HT6 HB2 HC
        obtain ⟨c0, c1, c2, c3⟩ := HT3'.out.cells
        obtain ⟨z0, z1, z2, z3⟩ := HR.out.cells
        have f0 := HR.out.frozen 0
        have f1 := HR.out.frozen 1
        have f2 := HR.out.frozen 2
        have f3 := HR.out.frozen 3
        go_wp2_with fail
        refine bodyPost_ret (results_two (a := 6) (b := 7) (by kernel_rfl) (B := w.heap.size + 1) (by rfl) (by rfl) (put4_cells HR.out _ _ _ _).cells.1 (put4_cells HR.out _ _ _ _).cells.2.1 (put4_cells HR.out _ _ _ _).cells.2.2.1 (put4_cells HR.out _ _ _ _).cells.2.2.2) rfl ?_
        exact ⟨rfl, below_put4 HB.out (by omega) _ _ _ _⟩
    · have q1 : decide (d < -9999) = true := decide_eq_true (by omega)
      clear h1
      go_enter Try.func32, Try.ntmps32
      go_upto_region 1 with fail
      obtain ⟨W2, hW2⟩ : ∃ W2, W2 = (w.alloc (Obj.cells #[.int .i64 t.op, .int .i64 t.n, .string t.name, .slice b t.args.length c] 36)).alloc (Obj.cells #[.int .i64 0, .int .i64 0, .string ⟨#[]⟩, .slice none 0 0] 36) := ⟨_, rfl⟩
      rw [← hW2] at HT3 HT6 HB2 ⊢
      clear hW2
      obtain ⟨c0, c1, c2, c3⟩ := HT3.out.cells
      go_wp2_with fail
      refine (HC.out W2 HB2.out).mono ?_
      rintro e w2 ⟨rfl, hb⟩
      have HT3' := Lib.hid (HT3.out.next hb)
      have HR := Lib.hid (HT6.out.next hb)
      have HB := Lib.hid (HB2.out.trans (hb.mono HB2.out.size))
      clear hb c0 c1 c2 c3 HT3 HT6 HB2 HC
      obtain ⟨c0, c1, c2, c3⟩ := HT3'.out.cells
      obtain ⟨z0, z1, z2, z3⟩ := HR.out.cells
      have f0 := HR.out.frozen 0
      have f1 := HR.out.frozen 1
      have f2 := HR.out.frozen 2
      have f3 := HR.out.frozen 3
      go_wp2_with fail
      refine bodyPost_ret (results_two (a := 6) (b := 7) (by kernel_rfl) (B := w.heap.size + 1) (by rfl) (by rfl) (put4_cells HR.out _ _ _ _).cells.1 (put4_cells HR.out _ _ _ _).cells.2.1 (put4_cells HR.out _ _ _ _).cells.2.2.1 (put4_cells HR.out _ _ _ _).cells.2.2.2) rfl ?_
      exact ⟨rfl, below_put4 HB.out (by omega) _ _ _ _⟩

set_option maxHeartbeats 8000000 in
theorem pshift_none (t : Ty) (d f : Int) (v : Value) (w : World) (hv : V w t v) (hgood : argB t d f = true) (hk : (shiftT d f t).2 = false) : Calls Try.prog 32 #[v, .int .i64 d, .int .i64 f] w (BadP 6 w) := by
  have hty := fun W (hb : Below w.heap.size w W) => ptype_any t v W (hv.next hb)
  unfold argB at hgood
  rw [Bool.and_eq_true, Bool.and_eq_true, Bool.and_eq_true, decide_eq_true_eq, decide_eq_true_eq] at hgood
  obtain ⟨hp, h1, h2, hn⟩ := hgood
  have hf : 0 ≤ f ∧ f ≤ 9999 := by unfold numB at hn; rw [Bool.and_eq_true, decide_eq_true_eq, decide_eq_true_eq] at hn; exact hn
  have hnt := proper_nodes t hp
  have hsh := fun W (hb : Below w.heap.size w W) => shift_any t (Good.of hp) (by omega) d f hf (by omega) v W (hv.next hb)
  unfold ShiftP at hsh
  rw [hp] at hty
  rw [hk] at hsh
  obtain ⟨b, c, ev, _, _⟩ := hv
  subst ev
  obtain ⟨ht3, ht6⟩ := two_boxes w (.int .i64 t.op) (.int .i64 t.n) (.string t.name) (.slice b t.args.length c) (.int .i64 0) (.int .i64 0) (.string ⟨#[]⟩) (.slice none 0 0)
  have hb2 : Below w.heap.size w ((w.alloc (Obj.cells #[.int .i64 t.op, .int .i64 t.n, .string t.name, .slice b t.args.length c] 36)).alloc (Obj.cells #[.int .i64 0, .int .i64 0, .string ⟨#[]⟩, .slice none 0 0] 36)) := below_two w _ _
  have HT3 := Lib.hid ht3
  have HT6 := Lib.hid ht6
  have HB2 := Lib.hid hb2
  clear ht3 ht6 hb2
  have HC := Lib.hid hty
  have HN := Lib.hid hn
  have q1 : decide (d < -9999) = false := decide_eq_false (by omega)
  have q2 : decide (9999 < d) = false := decide_eq_false (by omega)
  obtain ⟨r, hr⟩ : ∃ r, r = (shiftT d f t).1 := ⟨_, rfl⟩
  rw [← hr] at hsh
  clear hr
  have HSH := Lib.hid hsh
  clear hty hsh hn hp hnt hk
  go_enter Try.func32, Try.ntmps32
  go_upto_region 1 with fail
  obtain ⟨W2, hW2⟩ : ∃ W2, W2 = (w.alloc (Obj.cells #[.int .i64 t.op, .int .i64 t.n, .string t.name, .slice b t.args.length c] 36)).alloc (Obj.cells #[.int .i64 0, .int .i64 0, .string ⟨#[]⟩, .slice none 0 0] 36) := ⟨_, rfl⟩
  rw [← hW2] at HT3 HT6 HB2 ⊢
  clear hW2
  obtain ⟨c0, c1, c2, c3⟩ := HT3.out.cells
  go_wp2_with fail
  refine (HC.out W2 HB2.out).mono ?_
  rintro e w2 ⟨rfl, hb⟩
  have HT3' := Lib.hid (HT3.out.next hb)
  have HR := Lib.hid (HT6.out.next hb)
  have HB := Lib.hid (HB2.out.trans (hb.mono HB2.out.size))
  clear hb c0 c1 c2 c3 HT3 HT6 HB2 HC
  obtain ⟨c0, c1, c2, c3⟩ := HT3'.out.cells
  obtain ⟨z0, z1, z2, z3⟩ := HR.out.cells
  have f0 := HR.out.frozen 0
  have f1 := HR.out.frozen 1
  have f2 := HR.out.frozen 2
  have f3 := HR.out.frozen 3
  have HBO := Lib.hid HB.out
  clear z0 z1 z2 z3 f0 f1 f2 f3
  go_wp2_with (go_at_call 62; refine (pnumber _ _ HN.out _).mono ?_; rintro e w3 ⟨rfl, rfl⟩)
  refine (HSH.out w2 HB.out).mono ?_
  rintro e w3 ⟨v3, rfl, ⟨b9, c9, rfl, hs9, hl9⟩, hb⟩
  have HV3 : Hid (VO (w2.heap.size ≤ ·) w3 r _) := Lib.hid ⟨b9, c9, rfl, hs9, hl9⟩
  have HR3 := Lib.hid (HR.out.next hb)
  have HB3 := Lib.hid (HB.out.trans (hb.mono HB.out.size))
  have HLT : Hid (w.heap.size + 1 < w2.heap.size) := Lib.hid (lt_of_block HR.out)
  clear hs9 hl9 hb HR HB HBO c0 c1 c2 c3 HSH HT3'
  go_upto_region 4 with fail
  obtain ⟨T8, hT8⟩ : ∃ T8, T8 = w3.heap.size := ⟨_, rfl⟩
  obtain ⟨W4, hW4⟩ : ∃ W4, W4 = w3.alloc (Obj.cells #[.int .i64 r.op, .int .i64 r.n, .string r.name, .slice b9 r.args.length c9] 36) := ⟨_, rfl⟩
  have ht8 : B4 W4 T8 (.int .i64 r.op) (.int .i64 r.n) (.string r.name) (.slice b9 r.args.length c9) := by rw [hW4, hT8]; exact heap_alloc_new _ _
  have hb4 : Below w3.heap.size w3 W4 := by rw [hW4]; exact (Below.refl _ _).alloc (Nat.le_refl _) _
  rw [← hW4, ← hT8]
  clear hW4 hT8
  have HT8 := Lib.hid ht8
  have HR4 := Lib.hid (HR3.out.next hb4)
  have HB4 := Lib.hid (HB3.out.trans (hb4.mono HB3.out.size))
  have HV4 := Lib.hid (HV3.out.next hb4)
  clear ht8 hb4 HR3 HB3 HV3
  obtain ⟨t0, t1, t2, t3⟩ := HT8.out.cells
  obtain ⟨z0, z1, z2, z3⟩ := HR4.out.cells
  have f0 := HR4.out.frozen 0
  have f1 := HR4.out.frozen 1
  have f2 := HR4.out.frozen 2
  have f3 := HR4.out.frozen 3
  go_wp2_with fail
  refine bodyPost_ret (results_two (a := 6) (b := 7) (by kernel_rfl) (B := w.heap.size + 1) (by rfl) (by rfl) (put4_cells HR4.out _ _ _ _).cells.1 (put4_cells HR4.out _ _ _ _).cells.2.1 (put4_cells HR4.out _ _ _ _).cells.2.2.1 (put4_cells HR4.out _ _ _ _).cells.2.2.2) rfl ?_
  exact ⟨rfl, below_put4 HB4.out (by omega) _ _ _ _⟩

set_option maxHeartbeats 8000000 in
theorem pshift_full (t : Ty) (d f : Int) (v : Value) (w : World) (hv : V w t v) (hgood : argB t d f = true) (hk : (shiftT d f t).2 = true) : Calls Try.prog 32 #[v, .int .i64 d, .int .i64 f] w (PShP d f t w) := by
  have hty := fun W (hb : Below w.heap.size w W) => ptype_any t v W (hv.next hb)
  unfold argB at hgood
  rw [Bool.and_eq_true, Bool.and_eq_true, Bool.and_eq_true, decide_eq_true_eq, decide_eq_true_eq] at hgood
  obtain ⟨hp, h1, h2, hn⟩ := hgood
  have hf : 0 ≤ f ∧ f ≤ 9999 := by unfold numB at hn; rw [Bool.and_eq_true, decide_eq_true_eq, decide_eq_true_eq] at hn; exact hn
  have hnt := proper_nodes t hp
  have hsh := fun W (hb : Below w.heap.size w W) => shift_any t (Good.of hp) (by omega) d f hf (by omega) v W (hv.next hb)
  unfold ShiftP at hsh
  rw [hp] at hty
  rw [hk] at hsh
  obtain ⟨b, c, ev, _, _⟩ := hv
  subst ev
  obtain ⟨ht3, ht6⟩ := two_boxes w (.int .i64 t.op) (.int .i64 t.n) (.string t.name) (.slice b t.args.length c) (.int .i64 0) (.int .i64 0) (.string ⟨#[]⟩) (.slice none 0 0)
  have hb2 : Below w.heap.size w ((w.alloc (Obj.cells #[.int .i64 t.op, .int .i64 t.n, .string t.name, .slice b t.args.length c] 36)).alloc (Obj.cells #[.int .i64 0, .int .i64 0, .string ⟨#[]⟩, .slice none 0 0] 36)) := below_two w _ _
  have HT3 := Lib.hid ht3
  have HT6 := Lib.hid ht6
  have HB2 := Lib.hid hb2
  clear ht3 ht6 hb2
  have HC := Lib.hid hty
  have HN := Lib.hid hn
  have q1 : decide (d < -9999) = false := decide_eq_false (by omega)
  have q2 : decide (9999 < d) = false := decide_eq_false (by omega)
  unfold PShP
  obtain ⟨r, hr⟩ : ∃ r, r = (shiftT d f t).1 := ⟨_, rfl⟩
  rw [← hr] at hsh ⊢
  clear hr
  have HSH := Lib.hid hsh
  clear hty hsh hn hp hnt hk
  have HFUL := Lib.hid (fun v (w : World) (hv : V w r v) => full_any r v w hv)
  go_enter Try.func32, Try.ntmps32
  go_upto_region 1 with fail
  obtain ⟨W2, hW2⟩ : ∃ W2, W2 = (w.alloc (Obj.cells #[.int .i64 t.op, .int .i64 t.n, .string t.name, .slice b t.args.length c] 36)).alloc (Obj.cells #[.int .i64 0, .int .i64 0, .string ⟨#[]⟩, .slice none 0 0] 36) := ⟨_, rfl⟩
  rw [← hW2] at HT3 HT6 HB2 ⊢
  clear hW2
  obtain ⟨c0, c1, c2, c3⟩ := HT3.out.cells
  go_wp2_with fail
  refine (HC.out W2 HB2.out).mono ?_
  rintro e w2 ⟨rfl, hb⟩
  have HT3' := Lib.hid (HT3.out.next hb)
  have HR := Lib.hid (HT6.out.next hb)
  have HB := Lib.hid (HB2.out.trans (hb.mono HB2.out.size))
  clear hb c0 c1 c2 c3 HT3 HT6 HB2 HC
  obtain ⟨c0, c1, c2, c3⟩ := HT3'.out.cells
  obtain ⟨z0, z1, z2, z3⟩ := HR.out.cells
  have f0 := HR.out.frozen 0
  have f1 := HR.out.frozen 1
  have f2 := HR.out.frozen 2
  have f3 := HR.out.frozen 3
  have HBO := Lib.hid HB.out
  clear z0 z1 z2 z3 f0 f1 f2 f3
  go_wp2_with (go_at_call 62; refine (pnumber _ _ HN.out _).mono ?_; rintro e w3 ⟨rfl, rfl⟩)
  refine (HSH.out w2 HB.out).mono ?_
  rintro e w3 ⟨v3, rfl, ⟨b9, c9, rfl, hs9, hl9⟩, hb⟩
  have HV3 : Hid (VO (w2.heap.size ≤ ·) w3 r _) := Lib.hid ⟨b9, c9, rfl, hs9, hl9⟩
  have HR3 := Lib.hid (HR.out.next hb)
  have HB3 := Lib.hid (HB.out.trans (hb.mono HB.out.size))
  have HLT : Hid (w.heap.size + 1 < w2.heap.size) := Lib.hid (lt_of_block HR.out)
  clear hs9 hl9 hb HR HB HBO c0 c1 c2 c3 HSH HT3'
  go_upto_region 4 with fail
  obtain ⟨T8, hT8⟩ : ∃ T8, T8 = w3.heap.size := ⟨_, rfl⟩
  obtain ⟨W4, hW4⟩ : ∃ W4, W4 = w3.alloc (Obj.cells #[.int .i64 r.op, .int .i64 r.n, .string r.name, .slice b9 r.args.length c9] 36) := ⟨_, rfl⟩
  have ht8 : B4 W4 T8 (.int .i64 r.op) (.int .i64 r.n) (.string r.name) (.slice b9 r.args.length c9) := by rw [hW4, hT8]; exact heap_alloc_new _ _
  have hb4 : Below w3.heap.size w3 W4 := by rw [hW4]; exact (Below.refl _ _).alloc (Nat.le_refl _) _
  rw [← hW4, ← hT8]
  clear hW4 hT8
  have HT8 := Lib.hid ht8
  have HR4 := Lib.hid (HR3.out.next hb4)
  have HB4 := Lib.hid (HB3.out.trans (hb4.mono HB3.out.size))
  have HV4 := Lib.hid (HV3.out.next hb4)
  clear ht8 hb4 HR3 HB3 HV3
  obtain ⟨t0, t1, t2, t3⟩ := HT8.out.cells
  go_wp2_with fail
  refine (HFUL.out _ W4 HV4.out.weak).mono ?_
  rintro e w5 ⟨rfl, hb⟩
  have HB5 := Lib.hid (HB4.out.trans (hb.mono HB4.out.size))
  have HR5 := Lib.hid (HR4.out.next hb)
  have HV5 := Lib.hid (HV4.out.next hb)
  clear hb HB4 HR4 HV4 t0 t1 t2 t3 HT8
  obtain ⟨z0, z1, z2, z3⟩ := HR5.out.cells
  have f0 := HR5.out.frozen 0
  have f1 := HR5.out.frozen 1
  have f2 := HR5.out.frozen 2
  have f3 := HR5.out.frozen 3
  cases hp : isProper r with
  | true =>
    have HE := Lib.hid (fullV_ok hp (.agg #[.int .i64 r.op, .int .i64 r.n, .string r.name, .slice b9 r.args.length c9]))
    rw [HE.out]
    clear hp
    go_wp2_with fail
    refine bodyPost_ret (results_two (a := 6) (b := 7) (by kernel_rfl) (B := w.heap.size + 1) (by rfl) (by rfl) (put4_cells HR5.out _ _ _ _).cells.1 (put4_cells HR5.out _ _ _ _).cells.2.1 (put4_cells HR5.out _ _ _ _).cells.2.2.1 (put4_cells HR5.out _ _ _ _).cells.2.2.2) rfl ?_
    have hz := HLT.out
    refine ⟨.agg #[.int .i64 r.op, .int .i64 r.n, .string r.name, .slice b9 r.args.length c9], by first | (rw [HE.out]; rfl) | rw [HE.out], HV5.out.keep (fun g hg => by show w.heap.size ≤ g; have : w2.heap.size ≤ g := hg; omega) (fun p v hp hc => put4_keep _ _ _ _ p v hc (by have : w2.heap.size ≤ p.block := hp; omega)), below_put4 HB5.out (by omega) _ _ _ _⟩
  | false =>
    have HE := Lib.hid (fullV_bad hp (.agg #[.int .i64 r.op, .int .i64 r.n, .string r.name, .slice b9 r.args.length c9]))
    rw [HE.out]
    clear hp
    go_wp2_with fail
    refine bodyPost_ret (results_two (a := 6) (b := 7) (by kernel_rfl) (B := w.heap.size + 1) (by rfl) (by rfl) (put4_cells HR5.out _ _ _ _).cells.1 (put4_cells HR5.out _ _ _ _).cells.2.1 (put4_cells HR5.out _ _ _ _).cells.2.2.1 (put4_cells HR5.out _ _ _ _).cells.2.2.2) rfl ?_
    have hz := HLT.out
    refine ⟨.agg #[.int .i64 r.op, .int .i64 r.n, .string r.name, .slice b9 r.args.length c9], by first | (rw [HE.out]; rfl) | rw [HE.out], HV5.out.keep (fun g hg => by show w.heap.size ≤ g; have : w2.heap.size ≤ g := hg; omega) (fun p v hp hc => put4_keep _ _ _ _ p v hc (by have : w2.heap.size ≤ p.block := hp; omega)), below_put4 HB5.out (by omega) _ _ _ _⟩

end Ty
end Go.Proofs.Ytfjgebdpbmnicaa
