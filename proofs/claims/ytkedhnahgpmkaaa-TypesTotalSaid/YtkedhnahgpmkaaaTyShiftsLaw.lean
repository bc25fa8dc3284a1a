/- What the reference's Shift returns, and the law TypesShifts: true. Conditions: the type lies in memory. -/
import Derived.Test.YtkedhnahgpmkaaaTyRShN
import Derived.Test.YtkedhnahgpmkaaaTyPShift
import Derived.Test.YtkedhnahgpmkaaaTyAwake
namespace Go.Proofs.Ytkedhnahgpmkaaa
open Go.RowKit

namespace Ty
theorem rsh_any {d f : Int} (hf : 0 ≤ f ∧ f ≤ 9999) (hd : -1000000 ≤ d ∧ d ≤ 1000000) : ∀ t : Ty, Good t → RShC d f t := by
  intro t hg
  induction hg with
  | var op n h1 h2 h3 => exact rsh_leaf hf hd op n [] (.var op n h1 h2 h3)
  | con s h1 h2 => exact rsh_leaf hf hd 2 0 s (.con s h1 h2)
  | node op x y h hx hy ihx ihy => exact rsh_node op x y h hy ihx ihy

mutual
theorem same_refl : ∀ t : Ty, same t t = true
  | .mk o n s a => by
    rw [same]
    simp [sames_refl a]
theorem sames_refl : ∀ l : List Ty, sames l l = true
  | [] => by rw [sames]
  | x :: l => by
    rw [sames, same_refl x, sames_refl l]
    rfl
end

set_option maxHeartbeats 4000000 in
theorem rshift_any (t : Ty) (hg : Good t) (hn : nodes t ≤ 1000000) (d f : Int) (hf : 0 ≤ f ∧ f ≤ 9999) (hd : -1000000 ≤ d ∧ d ≤ 1000000) (v : Value) (w : World) (hv : V w t v) : Calls Try.prog 27 #[v, .int .i64 d, .int .i64 f] w (ShiftP d f t w) := by
  have hcall := fun (W : World) (hb : Below w.heap.size w W) => rsh_any hf hd t hg v 0 W (hv.next hb) (by omega)
  unfold RShP at hcall
  rw [show ((0 : Nat) : Int) = 0 from rfl] at hcall
  unfold ShiftP shiftT
  obtain ⟨b, c, ev, _, _⟩ := hv
  subst ev
  obtain ⟨ht3, ht6⟩ := two_boxes w (.int .i64 t.op) (.int .i64 t.n) (.string t.name) (.slice b t.args.length c) (.int .i64 0) (.int .i64 0) (.string ⟨#[]⟩) (.slice none 0 0)
  have hb2 : Below w.heap.size w ((w.alloc (Obj.cells #[.int .i64 t.op, .int .i64 t.n, .string t.name, .slice b t.args.length c] 24)).alloc (Obj.cells #[.int .i64 0, .int .i64 0, .string ⟨#[]⟩, .slice none 0 0] 24)) := below_two w _ _
  have HT3 := Lib.hid ht3
  have HT6 := Lib.hid ht6
  have HB2 := Lib.hid hb2
  clear ht3 ht6 hb2
  obtain ⟨p, hp⟩ : ∃ p, p = reb (shF d f) t 0 true := ⟨_, rfl⟩
  rw [← hp] at hcall ⊢
  clear hp
  obtain ⟨r, k⟩ := p
  simp only at hcall ⊢
  have HC := Lib.hid hcall
  clear hcall
  go_enter Try.func27, Try.ntmps27
  go_upto_region 1 with fail
  obtain ⟨W2, hW2⟩ : ∃ W2, W2 = (w.alloc (Obj.cells #[.int .i64 t.op, .int .i64 t.n, .string t.name, .slice b t.args.length c] 24)).alloc (Obj.cells #[.int .i64 0, .int .i64 0, .string ⟨#[]⟩, .slice none 0 0] 24) := ⟨_, rfl⟩
  rw [← hW2] at HT3 HT6 HB2 ⊢
  have HSZ : Hid (W2.heap.size = w.heap.size + 2) := Lib.hid (by rw [hW2]; simp)
  clear hW2
  obtain ⟨c0, c1, c2, c3⟩ := HT3.out.cells
  go_wp2_with fail
  refine (HC.out W2 HB2.out).mono ?_
  rintro e w2 ⟨v3, rfl, ⟨b9, c9, rfl, hs9, hl9⟩, hb⟩
  have HV3 : Hid (VO (W2.heap.size ≤ ·) w2 r _) := Lib.hid ⟨b9, c9, rfl, hs9, hl9⟩
  have HR3 := Lib.hid (HT6.out.next hb)
  have HB3 := Lib.hid (HB2.out.trans (hb.mono HB2.out.size))
  clear hs9 hl9 hb c0 c1 c2 c3 HT3 HT6 HB2 HC
  obtain ⟨z0, z1, z2, z3⟩ := HR3.out.cells
  have f0 := HR3.out.frozen 0
  have f1 := HR3.out.frozen 1
  have f2 := HR3.out.frozen 2
  have f3 := HR3.out.frozen 3
  go_wp2_with fail
  refine bodyPost_ret (results_two (a := 6) (b := 7) (by kernel_rfl) (B := w.heap.size + 1) (by rfl) (by rfl) (put4_cells HR3.out _ _ _ _).cells.1 (put4_cells HR3.out _ _ _ _).cells.2.1 (put4_cells HR3.out _ _ _ _).cells.2.2.1 (put4_cells HR3.out _ _ _ _).cells.2.2.2) rfl ?_
  have hsz := HSZ.out
  exact ⟨_, rfl, HV3.out.keep (fun g hg => by show w.heap.size ≤ g; have : W2.heap.size ≤ g := hg; omega) (fun p v hp hc => put4_keep _ _ _ _ p v hc (by have : W2.heap.size ≤ p.block := hp; omega)), below_put4 HB3.out (by omega) _ _ _ _⟩

set_option maxRecDepth 100000 in
set_option maxHeartbeats 8000000 in
theorem law_bad (t : Ty) (d f : Int) (v : Value) (w : World) (hv : V w t v) (hbad : argB t d f = false) : Calls Try.prog 4 #[v, .int .i64 d, .int .i64 f] w fun e w' => e = .returned (.bool true) ∧ Below w.heap.size w w' := by
  have HSH := Lib.hid (fun W (hb : Below w.heap.size w W) => pshift_bad t d f v W (hv.next hb) hbad)
  have hpr := fun W (hb : Below w.heap.size w W) => proper_any t v W (hv.next hb)
  have HBAD := Lib.hid hbad
  clear hbad
  unfold argB at HBAD
  generalize hp : isProper t = p at *
  have HPR := Lib.hid hpr
  clear hpr hp
  obtain ⟨b, c, ev, hsv, hlv⟩ := hv
  subst ev
  have hb1 : Below w.heap.size w (w.alloc (Obj.cells #[.int .i64 t.op, .int .i64 t.n, .string t.name, .slice b t.args.length c] 24)) := (Below.refl _ _).alloc (Nat.le_refl _) _
  have ht3 : B4 (w.alloc (Obj.cells #[.int .i64 t.op, .int .i64 t.n, .string t.name, .slice b t.args.length c] 24)) w.heap.size (.int .i64 t.op) (.int .i64 t.n) (.string t.name) (.slice b t.args.length c) := heap_alloc_new _ _
  have HB1 := Lib.hid hb1
  have HT3 := Lib.hid ht3
  clear hb1 ht3 hsv hlv
  unfold BadP at HSH
  cases p with
  | false =>
    go_enter Try.func4, Try.ntmps4
    go_upto_region 1 with fail
    obtain ⟨W1, hW1⟩ : ∃ W1, W1 = w.alloc (Obj.cells #[.int .i64 t.op, .int .i64 t.n, .string t.name, .slice b t.args.length c] 24) := ⟨_, rfl⟩
    rw [← hW1] at HB1 HT3 ⊢
    clear hW1
    obtain ⟨c0, c1, c2, c3⟩ := HT3.out.cells
    go_wp2_with fail
    refine (HSH.out W1 HB1.out).mono ?_
    rintro e w2 ⟨rfl, hb⟩
    have HB2 := Lib.hid (HB1.out.trans (hb.mono HB1.out.size))
    have HT32 := Lib.hid (HT3.out.next hb)
    clear hb HB1 HT3 c0 c1 c2 c3
    go_upto_region 2 with fail
    obtain ⟨T7, hT7⟩ : ∃ T7, T7 = w2.heap.size := ⟨_, rfl⟩
    obtain ⟨W3, hW3⟩ : ∃ W3, W3 = w2.alloc (Obj.cells #[.int .i64 0, .int .i64 0, .string ⟨#[]⟩, .slice none 0 0] 24) := ⟨_, rfl⟩
    have ht7 : W3.heap[T7]? = some (Obj.cells #[.int .i64 0, .int .i64 0, .string ⟨#[]⟩, .slice none 0 0] 24) := by rw [hW3, hT7]; exact heap_alloc_new _ _
    have hb3 : Below w2.heap.size w2 W3 := by rw [hW3]; exact (Below.refl _ _).alloc (Nat.le_refl _) _
    rw [← hW3, ← hT7]
    clear hW3 hT7
    have HT7 := Lib.hid ht7
    have HB3 := Lib.hid (HB2.out.trans (hb3.mono HB2.out.size))
    have HT33 := Lib.hid (HT32.out.next hb3)
    clear ht7 hb3 HT32 HB2
    obtain ⟨c0, c1, c2, c3⟩ := HT33.out.cells
    go_wp2_with fail
    refine (HPR.out W3 HB3.out).mono ?_
    rintro e w4 ⟨rfl, hb⟩
    have HB4 := Lib.hid (HB3.out.trans (hb.mono HB3.out.size))
    have HT7' := Lib.hid (show B4 w4 T7 (.int .i64 0) (.int .i64 0) (.string ⟨#[]⟩) (.slice none 0 0) from B4.next HT7.out hb)
    have HT34 := Lib.hid (HT33.out.next hb)
    clear hb c0 c1 c2 c3 HT33 HB3 HT7
    obtain ⟨t0, t1, t2, t3⟩ := HT7'.out.cells
    go_wp2_with fail
    refine (zero_any zeroT _ w4 (v_zero w4)).mono ?_
    rintro e w5 ⟨rfl, hb⟩
    rw [same_refl zeroT]
    have HB5 := Lib.hid (HB4.out.trans (hb.mono HB4.out.size))
    clear hb HB4
    go_wp2_with fail
    refine (awake_any w5).mono ?_
    rintro e w6 ⟨rfl, hb⟩
    have HB6 := Lib.hid (HB5.out.trans (hb.mono HB5.out.size))
    clear hb HB5
    go_wp2_with fail
    go_ret
    exact ⟨rfl, HB6.out⟩
  | true =>
    by_cases h1 : -9999 ≤ d
    · have q1 : decide (d < -9999) = false := decide_eq_false (by omega)
      by_cases h2 : d ≤ 9999
      · have q2 : decide (9999 < d) = false := decide_eq_false (by omega)
        have hn : numB f = false := by
          have h := HBAD.out
          rw [decide_eq_true h1, decide_eq_true h2] at h
          simpa using h
        have HN := Lib.hid hn
        clear hn h1 h2
        go_enter Try.func4, Try.ntmps4
        go_upto_region 1 with fail
        obtain ⟨W1, hW1⟩ : ∃ W1, W1 = w.alloc (Obj.cells #[.int .i64 t.op, .int .i64 t.n, .string t.name, .slice b t.args.length c] 24) := ⟨_, rfl⟩
        rw [← hW1] at HB1 HT3 ⊢
        clear hW1
        obtain ⟨c0, c1, c2, c3⟩ := HT3.out.cells
        go_wp2_with fail
        refine (HSH.out W1 HB1.out).mono ?_
        rintro e w2 ⟨rfl, hb⟩
        have HB2 := Lib.hid (HB1.out.trans (hb.mono HB1.out.size))
        have HT32 := Lib.hid (HT3.out.next hb)
        clear hb HB1 HT3 c0 c1 c2 c3
        go_upto_region 2 with fail
        obtain ⟨T7, hT7⟩ : ∃ T7, T7 = w2.heap.size := ⟨_, rfl⟩
        obtain ⟨W3, hW3⟩ : ∃ W3, W3 = w2.alloc (Obj.cells #[.int .i64 0, .int .i64 0, .string ⟨#[]⟩, .slice none 0 0] 24) := ⟨_, rfl⟩
        have ht7 : W3.heap[T7]? = some (Obj.cells #[.int .i64 0, .int .i64 0, .string ⟨#[]⟩, .slice none 0 0] 24) := by rw [hW3, hT7]; exact heap_alloc_new _ _
        have hb3 : Below w2.heap.size w2 W3 := by rw [hW3]; exact (Below.refl _ _).alloc (Nat.le_refl _) _
        rw [← hW3, ← hT7]
        clear hW3 hT7
        have HT7 := Lib.hid ht7
        have HB3 := Lib.hid (HB2.out.trans (hb3.mono HB2.out.size))
        have HT33 := Lib.hid (HT32.out.next hb3)
        clear ht7 hb3 HT32 HB2
        obtain ⟨c0, c1, c2, c3⟩ := HT33.out.cells
        go_wp2_with fail
        refine (HPR.out W3 HB3.out).mono ?_
        rintro e w4 ⟨rfl, hb⟩
        have HB4 := Lib.hid (HB3.out.trans (hb.mono HB3.out.size))
        have HT7' := Lib.hid (show B4 w4 T7 (.int .i64 0) (.int .i64 0) (.string ⟨#[]⟩) (.slice none 0 0) from B4.next HT7.out hb)
        have HT34 := Lib.hid (HT33.out.next hb)
        clear hb c0 c1 c2 c3 HT33 HB3 HT7
        obtain ⟨t0, t1, t2, t3⟩ := HT7'.out.cells
        go_wp2_with (go_at_call 25; refine (rnumber _ _ HN.out _).mono ?_; rintro e w3 ⟨rfl, rfl⟩)
        refine (zero_any zeroT _ w4 (v_zero w4)).mono ?_
        rintro e w5 ⟨rfl, hb⟩
        rw [same_refl zeroT]
        have HB5 := Lib.hid (HB4.out.trans (hb.mono HB4.out.size))
        clear hb HB4
        go_wp2_with fail
        refine (awake_any w5).mono ?_
        rintro e w6 ⟨rfl, hb⟩
        have HB6 := Lib.hid (HB5.out.trans (hb.mono HB5.out.size))
        clear hb HB5
        go_wp2_with fail
        go_ret
        exact ⟨rfl, HB6.out⟩
      · have q2 : decide (9999 < d) = true := decide_eq_true (by omega)
        clear h1 h2
        go_enter Try.func4, Try.ntmps4
        go_upto_region 1 with fail
        obtain ⟨W1, hW1⟩ : ∃ W1, W1 = w.alloc (Obj.cells #[.int .i64 t.op, .int .i64 t.n, .string t.name, .slice b t.args.length c] 24) := ⟨_, rfl⟩
        rw [← hW1] at HB1 HT3 ⊢
        clear hW1
        obtain ⟨c0, c1, c2, c3⟩ := HT3.out.cells
        go_wp2_with fail
        refine (HSH.out W1 HB1.out).mono ?_
        rintro e w2 ⟨rfl, hb⟩
        have HB2 := Lib.hid (HB1.out.trans (hb.mono HB1.out.size))
        have HT32 := Lib.hid (HT3.out.next hb)
        clear hb HB1 HT3 c0 c1 c2 c3
        go_upto_region 2 with fail
        obtain ⟨T7, hT7⟩ : ∃ T7, T7 = w2.heap.size := ⟨_, rfl⟩
        obtain ⟨W3, hW3⟩ : ∃ W3, W3 = w2.alloc (Obj.cells #[.int .i64 0, .int .i64 0, .string ⟨#[]⟩, .slice none 0 0] 24) := ⟨_, rfl⟩
        have ht7 : W3.heap[T7]? = some (Obj.cells #[.int .i64 0, .int .i64 0, .string ⟨#[]⟩, .slice none 0 0] 24) := by rw [hW3, hT7]; exact heap_alloc_new _ _
        have hb3 : Below w2.heap.size w2 W3 := by rw [hW3]; exact (Below.refl _ _).alloc (Nat.le_refl _) _
        rw [← hW3, ← hT7]
        clear hW3 hT7
        have HT7 := Lib.hid ht7
        have HB3 := Lib.hid (HB2.out.trans (hb3.mono HB2.out.size))
        have HT33 := Lib.hid (HT32.out.next hb3)
        clear ht7 hb3 HT32 HB2
        obtain ⟨c0, c1, c2, c3⟩ := HT33.out.cells
        go_wp2_with fail
        refine (HPR.out W3 HB3.out).mono ?_
        rintro e w4 ⟨rfl, hb⟩
        have HB4 := Lib.hid (HB3.out.trans (hb.mono HB3.out.size))
        have HT7' := Lib.hid (show B4 w4 T7 (.int .i64 0) (.int .i64 0) (.string ⟨#[]⟩) (.slice none 0 0) from B4.next HT7.out hb)
        have HT34 := Lib.hid (HT33.out.next hb)
        clear hb c0 c1 c2 c3 HT33 HB3 HT7
        obtain ⟨t0, t1, t2, t3⟩ := HT7'.out.cells
        go_wp2_with fail
        refine (zero_any zeroT _ w4 (v_zero w4)).mono ?_
        rintro e w5 ⟨rfl, hb⟩
        rw [same_refl zeroT]
        have HB5 := Lib.hid (HB4.out.trans (hb.mono HB4.out.size))
        clear hb HB4
        go_wp2_with fail
        refine (awake_any w5).mono ?_
        rintro e w6 ⟨rfl, hb⟩
        have HB6 := Lib.hid (HB5.out.trans (hb.mono HB5.out.size))
        clear hb HB5
        go_wp2_with fail
        go_ret
        exact ⟨rfl, HB6.out⟩
    · have q1 : decide (d < -9999) = true := decide_eq_true (by omega)
      clear h1
      go_enter Try.func4, Try.ntmps4
      go_upto_region 1 with fail
      obtain ⟨W1, hW1⟩ : ∃ W1, W1 = w.alloc (Obj.cells #[.int .i64 t.op, .int .i64 t.n, .string t.name, .slice b t.args.length c] 24) := ⟨_, rfl⟩
      rw [← hW1] at HB1 HT3 ⊢
      clear hW1
      obtain ⟨c0, c1, c2, c3⟩ := HT3.out.cells
      go_wp2_with fail
      refine (HSH.out W1 HB1.out).mono ?_
      rintro e w2 ⟨rfl, hb⟩
      have HB2 := Lib.hid (HB1.out.trans (hb.mono HB1.out.size))
      have HT32 := Lib.hid (HT3.out.next hb)
      clear hb HB1 HT3 c0 c1 c2 c3
      go_upto_region 2 with fail
      obtain ⟨T7, hT7⟩ : ∃ T7, T7 = w2.heap.size := ⟨_, rfl⟩
      obtain ⟨W3, hW3⟩ : ∃ W3, W3 = w2.alloc (Obj.cells #[.int .i64 0, .int .i64 0, .string ⟨#[]⟩, .slice none 0 0] 24) := ⟨_, rfl⟩
      have ht7 : W3.heap[T7]? = some (Obj.cells #[.int .i64 0, .int .i64 0, .string ⟨#[]⟩, .slice none 0 0] 24) := by rw [hW3, hT7]; exact heap_alloc_new _ _
      have hb3 : Below w2.heap.size w2 W3 := by rw [hW3]; exact (Below.refl _ _).alloc (Nat.le_refl _) _
      rw [← hW3, ← hT7]
      clear hW3 hT7
      have HT7 := Lib.hid ht7
      have HB3 := Lib.hid (HB2.out.trans (hb3.mono HB2.out.size))
      have HT33 := Lib.hid (HT32.out.next hb3)
      clear ht7 hb3 HT32 HB2
      obtain ⟨c0, c1, c2, c3⟩ := HT33.out.cells
      go_wp2_with fail
      refine (HPR.out W3 HB3.out).mono ?_
      rintro e w4 ⟨rfl, hb⟩
      have HB4 := Lib.hid (HB3.out.trans (hb.mono HB3.out.size))
      have HT7' := Lib.hid (show B4 w4 T7 (.int .i64 0) (.int .i64 0) (.string ⟨#[]⟩) (.slice none 0 0) from B4.next HT7.out hb)
      have HT34 := Lib.hid (HT33.out.next hb)
      clear hb c0 c1 c2 c3 HT33 HB3 HT7
      obtain ⟨t0, t1, t2, t3⟩ := HT7'.out.cells
      go_wp2_with fail
      refine (zero_any zeroT _ w4 (v_zero w4)).mono ?_
      rintro e w5 ⟨rfl, hb⟩
      rw [same_refl zeroT]
      have HB5 := Lib.hid (HB4.out.trans (hb.mono HB4.out.size))
      clear hb HB4
      go_wp2_with fail
      refine (awake_any w5).mono ?_
      rintro e w6 ⟨rfl, hb⟩
      have HB6 := Lib.hid (HB5.out.trans (hb.mono HB5.out.size))
      clear hb HB5
      go_wp2_with fail
      go_ret
      exact ⟨rfl, HB6.out⟩

set_option maxRecDepth 100000 in
set_option maxHeartbeats 8000000 in
theorem law_none (t : Ty) (d f : Int) (v : Value) (w : World) (hv : V w t v) (hgood : argB t d f = true) (hk : (shiftT d f t).2 = false) : Calls Try.prog 4 #[v, .int .i64 d, .int .i64 f] w fun e w' => e = .returned (.bool true) ∧ Below w.heap.size w w' := by
  have hpr := fun W (hb : Below w.heap.size w W) => proper_any t v W (hv.next hb)
  have hga := hgood
  unfold argB at hgood
  rw [Bool.and_eq_true, Bool.and_eq_true, Bool.and_eq_true, decide_eq_true_eq, decide_eq_true_eq] at hgood
  obtain ⟨hp, h1, h2, hn⟩ := hgood
  have hf : 0 ≤ f ∧ f ≤ 9999 := by unfold numB at hn; rw [Bool.and_eq_true, decide_eq_true_eq, decide_eq_true_eq] at hn; exact hn
  have hnt := proper_nodes t hp
  have hrs := fun W (hb : Below w.heap.size w W) => rshift_any t (Good.of hp) (by omega) d f hf (by omega) v W (hv.next hb)
  unfold ShiftP at hrs
  rw [hp] at hpr
  have HPR := Lib.hid hpr
  have HN := Lib.hid hn
  have q1 : decide (d < -9999) = false := decide_eq_false (by omega)
  have q2 : decide (9999 < d) = false := decide_eq_false (by omega)
  have HSH := Lib.hid (fun W (hb : Below w.heap.size w W) => pshift_none t d f v W (hv.next hb) hga hk)
  unfold BadP at HSH
  rw [hk] at hrs
  obtain ⟨r, hr⟩ : ∃ r, r = (shiftT d f t).1 := ⟨_, rfl⟩
  rw [← hr] at hrs
  clear hr
  have HRS := Lib.hid hrs
  clear hrs hpr hk hp hn hnt h1 h2 hga
  obtain ⟨b, c, ev, hsv, hlv⟩ := hv
  subst ev
  have hb1 : Below w.heap.size w (w.alloc (Obj.cells #[.int .i64 t.op, .int .i64 t.n, .string t.name, .slice b t.args.length c] 24)) := (Below.refl _ _).alloc (Nat.le_refl _) _
  have ht3 : B4 (w.alloc (Obj.cells #[.int .i64 t.op, .int .i64 t.n, .string t.name, .slice b t.args.length c] 24)) w.heap.size (.int .i64 t.op) (.int .i64 t.n) (.string t.name) (.slice b t.args.length c) := heap_alloc_new _ _
  have HB1 := Lib.hid hb1
  have HT3 := Lib.hid ht3
  clear hb1 ht3 hsv hlv
  go_enter Try.func4, Try.ntmps4
  go_upto_region 1 with fail
  obtain ⟨W1, hW1⟩ : ∃ W1, W1 = w.alloc (Obj.cells #[.int .i64 t.op, .int .i64 t.n, .string t.name, .slice b t.args.length c] 24) := ⟨_, rfl⟩
  rw [← hW1] at HB1 HT3 ⊢
  clear hW1
  obtain ⟨c0, c1, c2, c3⟩ := HT3.out.cells
  go_wp2_with fail
  refine (HSH.out W1 HB1.out).mono ?_
  rintro e w2 ⟨rfl, hb⟩
  have HB2 := Lib.hid (HB1.out.trans (hb.mono HB1.out.size))
  have HT32 := Lib.hid (HT3.out.next hb)
  clear hb HB1 HT3 c0 c1 c2 c3
  go_upto_region 2 with fail
  obtain ⟨T7, hT7⟩ : ∃ T7, T7 = w2.heap.size := ⟨_, rfl⟩
  obtain ⟨W3, hW3⟩ : ∃ W3, W3 = w2.alloc (Obj.cells #[.int .i64 0, .int .i64 0, .string ⟨#[]⟩, .slice none 0 0] 24) := ⟨_, rfl⟩
  have ht7 : W3.heap[T7]? = some (Obj.cells #[.int .i64 0, .int .i64 0, .string ⟨#[]⟩, .slice none 0 0] 24) := by rw [hW3, hT7]; exact heap_alloc_new _ _
  have hb3 : Below w2.heap.size w2 W3 := by rw [hW3]; exact (Below.refl _ _).alloc (Nat.le_refl _) _
  rw [← hW3, ← hT7]
  clear hW3 hT7
  have HT7 := Lib.hid ht7
  have HB3 := Lib.hid (HB2.out.trans (hb3.mono HB2.out.size))
  have HT33 := Lib.hid (HT32.out.next hb3)
  clear ht7 hb3 HT32 HB2
  obtain ⟨c0, c1, c2, c3⟩ := HT33.out.cells
  go_wp2_with fail
  refine (HPR.out W3 HB3.out).mono ?_
  rintro e w4 ⟨rfl, hb⟩
  have HB4 := Lib.hid (HB3.out.trans (hb.mono HB3.out.size))
  have HT7' := Lib.hid (show B4 w4 T7 (.int .i64 0) (.int .i64 0) (.string ⟨#[]⟩) (.slice none 0 0) from B4.next HT7.out hb)
  have HT34 := Lib.hid (HT33.out.next hb)
  clear hb HT33 HB3 HT7
  obtain ⟨c0, c1, c2, c3⟩ := HT34.out.cells
  go_wp2_with (go_at_call 25; refine (rnumber _ _ HN.out _).mono ?_; rintro e w3 ⟨rfl, rfl⟩)
  refine (HRS.out w4 HB4.out).mono ?_
  rintro e w5 ⟨v5, rfl, ⟨b9, c9, rfl, hs9, hl9⟩, hb⟩
  have HV5 : Hid (V w5 r _) := Lib.hid (VO.weak (ok := (w4.heap.size ≤ ·)) ⟨b9, c9, rfl, hs9, hl9⟩)
  have HB5 := Lib.hid (HB4.out.trans (hb.mono HB4.out.size))
  have HT75 := Lib.hid (HT7'.out.next hb)
  clear hs9 hl9 hb c0 c1 c2 c3 HT34 HB4 HT7'
  go_upto_region 5 with fail
  obtain ⟨T9, hT9⟩ : ∃ T9, T9 = w5.heap.size := ⟨_, rfl⟩
  obtain ⟨W6, hW6⟩ : ∃ W6, W6 = w5.alloc (Obj.cells #[.int .i64 r.op, .int .i64 r.n, .string r.name, .slice b9 r.args.length c9] 24) := ⟨_, rfl⟩
  have ht9 : B4 W6 T9 (.int .i64 r.op) (.int .i64 r.n) (.string r.name) (.slice b9 r.args.length c9) := by rw [hW6, hT9]; exact heap_alloc_new _ _
  have hb6 : Below w5.heap.size w5 W6 := by rw [hW6]; exact (Below.refl _ _).alloc (Nat.le_refl _) _
  rw [← hW6, ← hT9]
  clear hW6 hT9
  have HB6 := Lib.hid (HB5.out.trans (hb6.mono HB5.out.size))
  have HV6 := Lib.hid (HV5.out.next hb6)
  obtain ⟨t0, t1, t2, t3⟩ := (HT75.out.next hb6).cells
  obtain ⟨u0, u1, u2, u3⟩ := ht9.cells
  clear hb6 ht9 HV5 HB5 HT75
  go_wp2_with fail
  refine (zero_any zeroT _ W6 (v_zero W6)).mono ?_
  rintro e w7 ⟨rfl, hb⟩
  rw [same_refl zeroT]
  have HB7 := Lib.hid (HB6.out.trans (hb.mono HB6.out.size))
  clear hb HB6
  go_wp2_with fail
  refine (awake_any w7).mono ?_
  rintro e w8 ⟨rfl, hb⟩
  have HB8 := Lib.hid (HB7.out.trans (hb.mono HB7.out.size))
  clear hb HB7
  go_wp2_with fail
  go_ret
  exact ⟨rfl, HB8.out⟩

set_option maxRecDepth 100000 in
set_option maxHeartbeats 8000000 in
theorem law_ok (t : Ty) (d f : Int) (v : Value) (w : World) (hv : V w t v) (hgood : argB t d f = true) (hk : (shiftT d f t).2 = true) (hpp : isProper (shiftT d f t).1 = true) : Calls Try.prog 4 #[v, .int .i64 d, .int .i64 f] w fun e w' => e = .returned (.bool true) ∧ Below w.heap.size w w' := by
  have hpr := fun W (hb : Below w.heap.size w W) => proper_any t v W (hv.next hb)
  have hga := hgood
  unfold argB at hgood
  rw [Bool.and_eq_true, Bool.and_eq_true, Bool.and_eq_true, decide_eq_true_eq, decide_eq_true_eq] at hgood
  obtain ⟨hp, h1, h2, hn⟩ := hgood
  have hf : 0 ≤ f ∧ f ≤ 9999 := by unfold numB at hn; rw [Bool.and_eq_true, decide_eq_true_eq, decide_eq_true_eq] at hn; exact hn
  have hnt := proper_nodes t hp
  have hrs := fun W (hb : Below w.heap.size w W) => rshift_any t (Good.of hp) (by omega) d f hf (by omega) v W (hv.next hb)
  unfold ShiftP at hrs
  rw [hp] at hpr
  have HPR := Lib.hid hpr
  have HN := Lib.hid hn
  have q1 : decide (d < -9999) = false := decide_eq_false (by omega)
  have q2 : decide (9999 < d) = false := decide_eq_false (by omega)
  have hsh := fun W (hb : Below w.heap.size w W) => pshift_full t d f v W (hv.next hb) hga hk
  unfold PShP at hsh
  rw [hk] at hrs
  obtain ⟨r, hr⟩ : ∃ r, r = (shiftT d f t).1 := ⟨_, rfl⟩
  rw [← hr] at hrs hsh hpp
  simp only [fullV_ok hpp] at hsh
  clear hr
  have HW : Hid (wholeT r 0 r = true) := Lib.hid (by unfold wholeT; rw [if_pos hpp, same_refl]; rfl)
  have HRS := Lib.hid hrs
  have HSH := Lib.hid hsh
  clear hrs hsh hpr hk hp hn hnt h1 h2 hga hpp
  obtain ⟨b, c, ev, hsv, hlv⟩ := hv
  subst ev
  have hb1 : Below w.heap.size w (w.alloc (Obj.cells #[.int .i64 t.op, .int .i64 t.n, .string t.name, .slice b t.args.length c] 24)) := (Below.refl _ _).alloc (Nat.le_refl _) _
  have ht3 : B4 (w.alloc (Obj.cells #[.int .i64 t.op, .int .i64 t.n, .string t.name, .slice b t.args.length c] 24)) w.heap.size (.int .i64 t.op) (.int .i64 t.n) (.string t.name) (.slice b t.args.length c) := heap_alloc_new _ _
  have HB1 := Lib.hid hb1
  have HT3 := Lib.hid ht3
  clear hb1 ht3 hsv hlv
  go_enter Try.func4, Try.ntmps4
  go_upto_region 1 with fail
  obtain ⟨W1, hW1⟩ : ∃ W1, W1 = w.alloc (Obj.cells #[.int .i64 t.op, .int .i64 t.n, .string t.name, .slice b t.args.length c] 24) := ⟨_, rfl⟩
  rw [← hW1] at HB1 HT3 ⊢
  clear hW1
  obtain ⟨c0, c1, c2, c3⟩ := HT3.out.cells
  go_wp2_with fail
  refine (HSH.out W1 HB1.out).mono ?_
  rintro e w2 ⟨v2, rfl, ⟨ub, uc, rfl, hs2, hl2⟩, hb⟩
  have HU2 : Hid (V w2 r _) := Lib.hid (VO.weak (ok := (W1.heap.size ≤ ·)) ⟨ub, uc, rfl, hs2, hl2⟩)
  clear hs2 hl2
  have HB2 := Lib.hid (HB1.out.trans (hb.mono HB1.out.size))
  have HT32 := Lib.hid (HT3.out.next hb)
  clear hb HB1 HT3 c0 c1 c2 c3
  go_upto_region 2 with fail
  obtain ⟨T7, hT7⟩ : ∃ T7, T7 = w2.heap.size := ⟨_, rfl⟩
  obtain ⟨W3, hW3⟩ : ∃ W3, W3 = w2.alloc (Obj.cells #[.int .i64 r.op, .int .i64 r.n, .string r.name, .slice ub r.args.length uc] 24) := ⟨_, rfl⟩
  have ht7 : W3.heap[T7]? = some (Obj.cells #[.int .i64 r.op, .int .i64 r.n, .string r.name, .slice ub r.args.length uc] 24) := by rw [hW3, hT7]; exact heap_alloc_new _ _
  have hb3 : Below w2.heap.size w2 W3 := by rw [hW3]; exact (Below.refl _ _).alloc (Nat.le_refl _) _
  rw [← hW3, ← hT7]
  clear hW3 hT7
  have HT7 := Lib.hid ht7
  have HB3 := Lib.hid (HB2.out.trans (hb3.mono HB2.out.size))
  have HT33 := Lib.hid (HT32.out.next hb3)
  have HU3 := Lib.hid (HU2.out.next hb3)
  clear ht7 hb3 HT32 HB2
  obtain ⟨c0, c1, c2, c3⟩ := HT33.out.cells
  go_wp2_with fail
  refine (HPR.out W3 HB3.out).mono ?_
  rintro e w4 ⟨rfl, hb⟩
  have HB4 := Lib.hid (HB3.out.trans (hb.mono HB3.out.size))
  have HT7' := Lib.hid (show B4 w4 T7 (.int .i64 r.op) (.int .i64 r.n) (.string r.name) (.slice ub r.args.length uc) from B4.next HT7.out hb)
  have HT34 := Lib.hid (HT33.out.next hb)
  have HU4 := Lib.hid (HU3.out.next hb)
  clear hb HT33 HB3 HT7
  obtain ⟨c0, c1, c2, c3⟩ := HT34.out.cells
  go_wp2_with (go_at_call 25; refine (rnumber _ _ HN.out _).mono ?_; rintro e w3 ⟨rfl, rfl⟩)
  refine (HRS.out w4 HB4.out).mono ?_
  rintro e w5 ⟨v5, rfl, ⟨b9, c9, rfl, hs9, hl9⟩, hb⟩
  have HV5 : Hid (V w5 r _) := Lib.hid (VO.weak (ok := (w4.heap.size ≤ ·)) ⟨b9, c9, rfl, hs9, hl9⟩)
  have HB5 := Lib.hid (HB4.out.trans (hb.mono HB4.out.size))
  have HT75 := Lib.hid (HT7'.out.next hb)
  have HU5 := Lib.hid (HU4.out.next hb)
  clear hs9 hl9 hb c0 c1 c2 c3 HT34 HB4 HT7'
  go_upto_region 5 with fail
  obtain ⟨T9, hT9⟩ : ∃ T9, T9 = w5.heap.size := ⟨_, rfl⟩
  obtain ⟨W6, hW6⟩ : ∃ W6, W6 = w5.alloc (Obj.cells #[.int .i64 r.op, .int .i64 r.n, .string r.name, .slice b9 r.args.length c9] 24) := ⟨_, rfl⟩
  have ht9 : B4 W6 T9 (.int .i64 r.op) (.int .i64 r.n) (.string r.name) (.slice b9 r.args.length c9) := by rw [hW6, hT9]; exact heap_alloc_new _ _
  have hb6 : Below w5.heap.size w5 W6 := by rw [hW6]; exact (Below.refl _ _).alloc (Nat.le_refl _) _
  rw [← hW6, ← hT9]
  clear hW6 hT9
  have HB6 := Lib.hid (HB5.out.trans (hb6.mono HB5.out.size))
  have HV6 := Lib.hid (HV5.out.next hb6)
  obtain ⟨t0, t1, t2, t3⟩ := (HT75.out.next hb6).cells
  obtain ⟨u0, u1, u2, u3⟩ := ht9.cells
  have HU6 := Lib.hid (HU5.out.next hb6)
  clear hb6 ht9 HV5 HB5 HT75
  go_wp2_with fail
  refine (whole_any r r _ _ 0 W6 HU6.out HV6.out).mono ?_
  rintro e w7 ⟨rfl, hb⟩
  rw [HW.out]
  have HB7 := Lib.hid (HB6.out.trans (hb.mono HB6.out.size))
  clear hb HB6
  go_wp2_with fail
  refine (awake_any w7).mono ?_
  rintro e w8 ⟨rfl, hb⟩
  have HB8 := Lib.hid (HB7.out.trans (hb.mono HB7.out.size))
  clear hb HB7
  go_wp2_with fail
  go_ret
  exact ⟨rfl, HB8.out⟩

set_option maxRecDepth 100000 in
set_option maxHeartbeats 8000000 in
theorem law_big (t : Ty) (d f : Int) (v : Value) (w : World) (hv : V w t v) (hgood : argB t d f = true) (hk : (shiftT d f t).2 = true) (hpp : isProper (shiftT d f t).1 = false) : Calls Try.prog 4 #[v, .int .i64 d, .int .i64 f] w fun e w' => e = .returned (.bool true) ∧ Below w.heap.size w w' := by
  have hpr := fun W (hb : Below w.heap.size w W) => proper_any t v W (hv.next hb)
  have hga := hgood
  unfold argB at hgood
  rw [Bool.and_eq_true, Bool.and_eq_true, Bool.and_eq_true, decide_eq_true_eq, decide_eq_true_eq] at hgood
  obtain ⟨hp, h1, h2, hn⟩ := hgood
  have hf : 0 ≤ f ∧ f ≤ 9999 := by unfold numB at hn; rw [Bool.and_eq_true, decide_eq_true_eq, decide_eq_true_eq] at hn; exact hn
  have hnt := proper_nodes t hp
  have hrs := fun W (hb : Below w.heap.size w W) => rshift_any t (Good.of hp) (by omega) d f hf (by omega) v W (hv.next hb)
  unfold ShiftP at hrs
  rw [hp] at hpr
  have HPR := Lib.hid hpr
  have HN := Lib.hid hn
  have q1 : decide (d < -9999) = false := decide_eq_false (by omega)
  have q2 : decide (9999 < d) = false := decide_eq_false (by omega)
  have hsh : ∀ W, Below w.heap.size w W → Calls Try.prog 24 #[v, .int .i64 d, .int .i64 f] W (BadP 5 W) := fun W hb => (pshift_full t d f v W (hv.next hb) hga hk).mono fun e w' ⟨v', h1, _, h3⟩ => ⟨by rw [h1, fullV_bad hpp], h3⟩
  unfold BadP at hsh
  rw [hk] at hrs
  obtain ⟨r, hr⟩ : ∃ r, r = (shiftT d f t).1 := ⟨_, rfl⟩
  rw [← hr] at hrs hpp
  clear hr
  have HW : Hid (wholeT zeroT 5 r = true) := Lib.hid (by unfold wholeT; rw [if_neg (by rw [hpp]; simp), same_refl]; rfl)
  have HRS := Lib.hid hrs
  have HSH := Lib.hid hsh
  clear hrs hsh hpr hk hp hn hnt h1 h2 hga hpp
  obtain ⟨b, c, ev, hsv, hlv⟩ := hv
  subst ev
  have hb1 : Below w.heap.size w (w.alloc (Obj.cells #[.int .i64 t.op, .int .i64 t.n, .string t.name, .slice b t.args.length c] 24)) := (Below.refl _ _).alloc (Nat.le_refl _) _
  have ht3 : B4 (w.alloc (Obj.cells #[.int .i64 t.op, .int .i64 t.n, .string t.name, .slice b t.args.length c] 24)) w.heap.size (.int .i64 t.op) (.int .i64 t.n) (.string t.name) (.slice b t.args.length c) := heap_alloc_new _ _
  have HB1 := Lib.hid hb1
  have HT3 := Lib.hid ht3
  clear hb1 ht3 hsv hlv
  go_enter Try.func4, Try.ntmps4
  go_upto_region 1 with fail
  obtain ⟨W1, hW1⟩ : ∃ W1, W1 = w.alloc (Obj.cells #[.int .i64 t.op, .int .i64 t.n, .string t.name, .slice b t.args.length c] 24) := ⟨_, rfl⟩
  rw [← hW1] at HB1 HT3 ⊢
  clear hW1
  obtain ⟨c0, c1, c2, c3⟩ := HT3.out.cells
  go_wp2_with fail
  refine (HSH.out W1 HB1.out).mono ?_
  rintro e w2 ⟨rfl, hb⟩
  have HB2 := Lib.hid (HB1.out.trans (hb.mono HB1.out.size))
  have HT32 := Lib.hid (HT3.out.next hb)
  clear hb HB1 HT3 c0 c1 c2 c3
  go_upto_region 2 with fail
  obtain ⟨T7, hT7⟩ : ∃ T7, T7 = w2.heap.size := ⟨_, rfl⟩
  obtain ⟨W3, hW3⟩ : ∃ W3, W3 = w2.alloc (Obj.cells #[.int .i64 0, .int .i64 0, .string ⟨#[]⟩, .slice none 0 0] 24) := ⟨_, rfl⟩
  have ht7 : W3.heap[T7]? = some (Obj.cells #[.int .i64 0, .int .i64 0, .string ⟨#[]⟩, .slice none 0 0] 24) := by rw [hW3, hT7]; exact heap_alloc_new _ _
  have hb3 : Below w2.heap.size w2 W3 := by rw [hW3]; exact (Below.refl _ _).alloc (Nat.le_refl _) _
  rw [← hW3, ← hT7]
  clear hW3 hT7
  have HT7 := Lib.hid ht7
  have HB3 := Lib.hid (HB2.out.trans (hb3.mono HB2.out.size))
  have HT33 := Lib.hid (HT32.out.next hb3)
  clear ht7 hb3 HT32 HB2
  obtain ⟨c0, c1, c2, c3⟩ := HT33.out.cells
  go_wp2_with fail
  refine (HPR.out W3 HB3.out).mono ?_
  rintro e w4 ⟨rfl, hb⟩
  have HB4 := Lib.hid (HB3.out.trans (hb.mono HB3.out.size))
  have HT7' := Lib.hid (show B4 w4 T7 (.int .i64 0) (.int .i64 0) (.string ⟨#[]⟩) (.slice none 0 0) from B4.next HT7.out hb)
  have HT34 := Lib.hid (HT33.out.next hb)
  clear hb HT33 HB3 HT7
  obtain ⟨c0, c1, c2, c3⟩ := HT34.out.cells
  go_wp2_with (go_at_call 25; refine (rnumber _ _ HN.out _).mono ?_; rintro e w3 ⟨rfl, rfl⟩)
  refine (HRS.out w4 HB4.out).mono ?_
  rintro e w5 ⟨v5, rfl, ⟨b9, c9, rfl, hs9, hl9⟩, hb⟩
  have HV5 : Hid (V w5 r _) := Lib.hid (VO.weak (ok := (w4.heap.size ≤ ·)) ⟨b9, c9, rfl, hs9, hl9⟩)
  have HB5 := Lib.hid (HB4.out.trans (hb.mono HB4.out.size))
  have HT75 := Lib.hid (HT7'.out.next hb)
  clear hs9 hl9 hb c0 c1 c2 c3 HT34 HB4 HT7'
  go_upto_region 5 with fail
  obtain ⟨T9, hT9⟩ : ∃ T9, T9 = w5.heap.size := ⟨_, rfl⟩
  obtain ⟨W6, hW6⟩ : ∃ W6, W6 = w5.alloc (Obj.cells #[.int .i64 r.op, .int .i64 r.n, .string r.name, .slice b9 r.args.length c9] 24) := ⟨_, rfl⟩
  have ht9 : B4 W6 T9 (.int .i64 r.op) (.int .i64 r.n) (.string r.name) (.slice b9 r.args.length c9) := by rw [hW6, hT9]; exact heap_alloc_new _ _
  have hb6 : Below w5.heap.size w5 W6 := by rw [hW6]; exact (Below.refl _ _).alloc (Nat.le_refl _) _
  rw [← hW6, ← hT9]
  clear hW6 hT9
  have HB6 := Lib.hid (HB5.out.trans (hb6.mono HB5.out.size))
  have HV6 := Lib.hid (HV5.out.next hb6)
  obtain ⟨t0, t1, t2, t3⟩ := (HT75.out.next hb6).cells
  obtain ⟨u0, u1, u2, u3⟩ := ht9.cells
  clear hb6 ht9 HV5 HB5 HT75
  go_wp2_with fail
  refine (whole_any zeroT r _ _ 5 W6 (v_zero W6) HV6.out).mono ?_
  rintro e w7 ⟨rfl, hb⟩
  rw [HW.out]
  have HB7 := Lib.hid (HB6.out.trans (hb.mono HB6.out.size))
  clear hb HB6
  go_wp2_with fail
  refine (awake_any w7).mono ?_
  rintro e w8 ⟨rfl, hb⟩
  have HB8 := Lib.hid (HB7.out.trans (hb.mono HB7.out.size))
  clear hb HB7
  go_wp2_with fail
  go_ret
  exact ⟨rfl, HB8.out⟩

theorem law_shifts (t : Ty) (d f : Int) (v : Value) (w : World) (hv : V w t v) : Calls Try.prog 4 #[v, .int .i64 d, .int .i64 f] w fun e w' => e = .returned (.bool true) ∧ Below w.heap.size w w' := by
  cases ha : argB t d f with
  | false => exact law_bad t d f v w hv ha
  | true =>
    cases hk : (shiftT d f t).2 with
    | false => exact law_none t d f v w hv ha hk
    | true =>
      cases hp : isProper (shiftT d f t).1 with
      | false => exact law_big t d f v w hv ha hk hp
      | true => exact law_ok t d f v w hv ha hk hp

end Ty
end Go.Proofs.Ytkedhnahgpmkaaa
