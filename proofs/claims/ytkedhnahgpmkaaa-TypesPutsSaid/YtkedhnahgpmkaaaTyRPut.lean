/- What the reference's Up returns, and its put at leaves. Conditions: the types are well formed. -/
import Derived.Test.YtkedhnahgpmkaaaTyShiftsLaw
namespace Go.Proofs.Ytkedhnahgpmkaaa
open Go.RowKit

namespace Ty
set_option maxHeartbeats 4000000 in
theorem up_any (t : Ty) (hg : Good t) (hn : nodes t ≤ 1000000) (d : Int) (hd : -1000000 ≤ d ∧ d ≤ 1000000) (v : Value) (w : World) (hv : V w t v) : Calls Try.prog 105 #[v, .int .i64 d] w (RetF (shiftT d 0 t).1 w) := by
  have hcall := fun (W : World) (hb : Below w.heap.size w W) => rshift_any t hg hn d 0 (by omega) hd v W (hv.next hb)
  unfold ShiftP at hcall
  unfold RetF
  obtain ⟨b, c, ev, _, _⟩ := hv
  subst ev
  obtain ⟨ht3, ht6⟩ := two_boxes w (.int .i64 t.op) (.int .i64 t.n) (.string t.name) (.slice b t.args.length c) (.int .i64 0) (.int .i64 0) (.string ⟨#[]⟩) (.slice none 0 0)
  have hb2 : Below w.heap.size w ((w.alloc (Obj.cells #[.int .i64 t.op, .int .i64 t.n, .string t.name, .slice b t.args.length c] 24)).alloc (Obj.cells #[.int .i64 0, .int .i64 0, .string ⟨#[]⟩, .slice none 0 0] 24)) := below_two w _ _
  have HT3 := Lib.hid ht3
  have HT6 := Lib.hid ht6
  have HB2 := Lib.hid hb2
  clear ht3 ht6 hb2
  obtain ⟨p, hp⟩ : ∃ p, p = shiftT d 0 t := ⟨_, rfl⟩
  rw [← hp] at hcall ⊢
  clear hp
  obtain ⟨r, k⟩ := p
  simp only at hcall ⊢
  have HC := Lib.hid hcall
  clear hcall
  go_enter Try.func105, Try.ntmps105
  go_upto_region 1 with fail
  obtain ⟨W2, hW2⟩ : ∃ W2, W2 = (w.alloc (Obj.cells #[.int .i64 t.op, .int .i64 t.n, .string t.name, .slice b t.args.length c] 24)).alloc (Obj.cells #[.int .i64 0, .int .i64 0, .string ⟨#[]⟩, .slice none 0 0] 24) := ⟨_, rfl⟩
  rw [← hW2] at HT3 HT6 HB2 ⊢
  have HSZ : Hid (W2.heap.size = w.heap.size + 2) := Lib.hid (by rw [hW2]; simp)
  clear hW2
  obtain ⟨c0, c1, c2, c3⟩ := HT3.out.cells
  go_wp2_with fail
  refine (HC.out W2 HB2.out).mono ?_
  rintro e w2 ⟨v3, rfl, ⟨b9, c9, rfl, hs9, hl9⟩, hb⟩
  have HV3 : Hid (VO (W2.heap.size ≤ ·) w2 r _) := Lib.hid ⟨b9, c9, rfl, hs9, hl9⟩
  have HR3 := Lib.hid (HT6.out.next hb)
  have HB3 := Lib.hid (HB2.out.trans (hb.mono HB2.out.size))
  clear hs9 hl9 hb c0 c1 c2 c3 HT3 HT6 HB2 HC
  go_upto_region 2 with fail
  obtain ⟨T8, hT8⟩ : ∃ T8, T8 = w2.heap.size := ⟨_, rfl⟩
  obtain ⟨W4, hW4⟩ : ∃ W4, W4 = w2.alloc (Obj.cells #[.int .i64 r.op, .int .i64 r.n, .string r.name, .slice b9 r.args.length c9] 24) := ⟨_, rfl⟩
  have ht8 : B4 W4 T8 (.int .i64 r.op) (.int .i64 r.n) (.string r.name) (.slice b9 r.args.length c9) := by rw [hW4, hT8]; exact heap_alloc_new _ _
  have hb4 : Below w2.heap.size w2 W4 := by rw [hW4]; exact (Below.refl _ _).alloc (Nat.le_refl _) _
  rw [← hW4, ← hT8]
  clear hW4 hT8
  have HR4 := Lib.hid (HR3.out.next hb4)
  have HB4 := Lib.hid (HB3.out.trans (hb4.mono HB3.out.size))
  have HV4 := Lib.hid (HV3.out.next hb4)
  obtain ⟨t0, t1, t2, t3⟩ := ht8.cells
  clear ht8 hb4 HR3 HB3 HV3
  obtain ⟨z0, z1, z2, z3⟩ := HR4.out.cells
  have f0 := HR4.out.frozen 0
  have f1 := HR4.out.frozen 1
  have f2 := HR4.out.frozen 2
  have f3 := HR4.out.frozen 3
  go_wp2_with fail
  refine bodyPost_ret (results_ty (a := 4) (by kernel_rfl) (B := w.heap.size + 1) (by rfl) (put4_cells HR4.out _ _ _ _).cells.1 (put4_cells HR4.out _ _ _ _).cells.2.1 (put4_cells HR4.out _ _ _ _).cells.2.2.1 (put4_cells HR4.out _ _ _ _).cells.2.2.2) rfl ?_
  have hsz := HSZ.out
  exact ⟨_, rfl, HV4.out.keep (fun g hg => by show w.heap.size ≤ g; have : W2.heap.size ≤ g := hg; omega) (fun p v hp hc => put4_keep _ _ _ _ p v hc (by have : W2.heap.size ≤ p.block := hp; omega)), below_put4 HB4.out (by omega) _ _ _ _⟩

section
variable {base : Option Addr} {la cap : Nat}
/-- a leaf that is no variable -/
theorem rput_plain (w : World) (op n : Int) (na : ByteArray) (b : Option Addr) (c k : Nat) (hop : op ≠ 1) :
    Calls Try.prog 69 #[.agg #[.int .i64 op, .int .i64 n, .string na, .slice b 0 c], .slice base la cap, .int .i64 k] w fun e w' => e = .returned (.agg #[.int .i64 op, .int .i64 n, .string na, .slice none 0 0]) ∧ Below w.heap.size w w' := by
  have q : (op == 1) = false := by simpa using hop
  have HR := Lib.hid (RS.new w (.int .i64 op) (.int .i64 n) (.string na) (.slice b 0 c) (.int .i64 op) (.int .i64 n) (.string na))
  obtain ⟨ht3, ht6⟩ := two_boxes w (.int .i64 op) (.int .i64 n) (.string na) (.slice b 0 c) (.int .i64 0) (.int .i64 0) (.string ⟨#[]⟩) (.slice none 0 0)
  obtain ⟨c0, c1, c2, c3⟩ := ht3.cells
  clear hop ht3 ht6
  go_enter Try.func69, Try.ntmps69
  go_upto_region 9 with fail
  obtain ⟨W3, hW3⟩ : ∃ W3, W3 = ((w.alloc (Obj.cells #[.int .i64 op, .int .i64 n, .string na, .slice b 0 c] 24)).alloc (Obj.cells #[.int .i64 0, .int .i64 0, .string ⟨#[]⟩, .slice none 0 0] 24)).alloc (Obj.cells #[.int .i64 op, .int .i64 n, .string na, .slice none 0 0] 24) := ⟨_, rfl⟩
  rw [← hW3] at HR ⊢
  clear hW3 c0 c1 c2 c3
  obtain ⟨q0, q1, q2, q3⟩ := HR.out.box.cells
  obtain ⟨p0, p1, p2, p3⟩ := HR.out.out.cells
  obtain ⟨z0, z1, z2, z3⟩ := HR.out.res.cells
  have f0 := HR.out.res.frozen 0
  have f1 := HR.out.res.frozen 1
  have f2 := HR.out.res.frozen 2
  have f3 := HR.out.res.frozen 3
  go_wp2_with fail
  refine wp_loop_rounds 1 ?_
  rw [rounds_succ]
  go_wp2_with fail
  refine bodyPost_ret (results_ty (a := 6) (by kernel_rfl) (B := w.heap.size + 1) (by rfl) (put4_cells HR.out.res _ _ _ _).cells.1 (put4_cells HR.out.res _ _ _ _).cells.2.1 (put4_cells HR.out.res _ _ _ _).cells.2.2.1 (put4_cells HR.out.res _ _ _ _).cells.2.2.2) rfl ?_
  exact ⟨rfl, below_put4 HR.out.below (by omega) _ _ _ _⟩

set_option maxHeartbeats 4000000 in
theorem rput_low (w : World) (n : Int) (na : ByteArray) (b : Option Addr) (c k : Nat) (hlt : n < k) :
    Calls Try.prog 69 #[.agg #[.int .i64 1, .int .i64 n, .string na, .slice b 0 c], .slice base la cap, .int .i64 k] w fun e w' => e = .returned (.agg #[.int .i64 1, .int .i64 n, .string na, .slice b 0 c]) ∧ Below w.heap.size w w' := by
  have q1 : decide (n < (k : Int)) = true := decide_eq_true hlt
  obtain ⟨ht3, ht6⟩ := two_boxes w (.int .i64 1) (.int .i64 n) (.string na) (.slice b 0 c) (.int .i64 0) (.int .i64 0) (.string ⟨#[]⟩) (.slice none 0 0)
  have hb2 : Below w.heap.size w ((w.alloc (Obj.cells #[.int .i64 1, .int .i64 n, .string na, .slice b 0 c] 24)).alloc (Obj.cells #[.int .i64 0, .int .i64 0, .string ⟨#[]⟩, .slice none 0 0] 24)) := below_two w _ _
  have HT3 := Lib.hid ht3
  have HT6 := Lib.hid ht6
  have HB2 := Lib.hid hb2
  have HSZ : Hid (((w.alloc (Obj.cells #[.int .i64 1, .int .i64 n, .string na, .slice b 0 c] 24)).alloc (Obj.cells #[.int .i64 0, .int .i64 0, .string ⟨#[]⟩, .slice none 0 0] 24)).heap.size = w.heap.size + 2) := Lib.hid (by simp)
  clear ht3 ht6 hb2
  go_enter Try.func69, Try.ntmps69
  go_upto_region 1 with fail
  obtain ⟨W2, hW2⟩ : ∃ W2, W2 = (w.alloc (Obj.cells #[.int .i64 1, .int .i64 n, .string na, .slice b 0 c] 24)).alloc (Obj.cells #[.int .i64 0, .int .i64 0, .string ⟨#[]⟩, .slice none 0 0] 24) := ⟨_, rfl⟩
  rw [← hW2] at HT3 HT6 HB2 HSZ ⊢
  clear hW2
  obtain ⟨c0, c1, c2, c3⟩ := HT3.out.cells
  obtain ⟨z0, z1, z2, z3⟩ := HT6.out.cells
  have f0 := HT6.out.frozen 0
  have f1 := HT6.out.frozen 1
  have f2 := HT6.out.frozen 2
  have f3 := HT6.out.frozen 3
  go_wp2_with fail
  refine bodyPost_ret (results_ty (a := 6) (by kernel_rfl) (B := w.heap.size + 1) (by rfl) (put4_cells HT6.out _ _ _ _).cells.1 (put4_cells HT6.out _ _ _ _).cells.2.1 (put4_cells HT6.out _ _ _ _).cells.2.2.1 (put4_cells HT6.out _ _ _ _).cells.2.2.2) rfl ?_
  exact ⟨rfl, below_put4 HB2.out (by omega) _ _ _ _⟩

set_option maxHeartbeats 4000000 in
theorem rput_far (w : World) (n : Int) (na : ByteArray) (b : Option Addr) (c k : Nat) (hn : 0 ≤ n ∧ n ≤ 9999) (hk : k ≤ 1000000) (hla : la ≤ 600) (h1 : (k : Int) ≤ n) (h2 : (la : Int) ≤ n - k) :
    Calls Try.prog 69 #[.agg #[.int .i64 1, .int .i64 n, .string na, .slice b 0 c], .slice base la cap, .int .i64 k] w fun e w' => e = .returned (.agg #[.int .i64 1, .int .i64 (n - la), .string ⟨#[]⟩, .slice none 0 0]) ∧ Below w.heap.size w w' := by
  have q1 : decide (n < (k : Int)) = false := decide_eq_false (by omega)
  have q2 : decide (n - (k : Int) < (la : Int)) = false := decide_eq_false (by omega)
  obtain ⟨ht3, ht6⟩ := two_boxes w (.int .i64 1) (.int .i64 n) (.string na) (.slice b 0 c) (.int .i64 0) (.int .i64 0) (.string ⟨#[]⟩) (.slice none 0 0)
  have hb2 : Below w.heap.size w ((w.alloc (Obj.cells #[.int .i64 1, .int .i64 n, .string na, .slice b 0 c] 24)).alloc (Obj.cells #[.int .i64 0, .int .i64 0, .string ⟨#[]⟩, .slice none 0 0] 24)) := below_two w _ _
  have HT3 := Lib.hid ht3
  have HT6 := Lib.hid ht6
  have HB2 := Lib.hid hb2
  have HSZ : Hid (((w.alloc (Obj.cells #[.int .i64 1, .int .i64 n, .string na, .slice b 0 c] 24)).alloc (Obj.cells #[.int .i64 0, .int .i64 0, .string ⟨#[]⟩, .slice none 0 0] 24)).heap.size = w.heap.size + 2) := Lib.hid (by simp)
  clear ht3 ht6 hb2
  go_enter Try.func69, Try.ntmps69
  go_upto_region 1 with fail
  obtain ⟨W2, hW2⟩ : ∃ W2, W2 = (w.alloc (Obj.cells #[.int .i64 1, .int .i64 n, .string na, .slice b 0 c] 24)).alloc (Obj.cells #[.int .i64 0, .int .i64 0, .string ⟨#[]⟩, .slice none 0 0] 24) := ⟨_, rfl⟩
  rw [← hW2] at HT3 HT6 HB2 HSZ ⊢
  clear hW2
  obtain ⟨c0, c1, c2, c3⟩ := HT3.out.cells
  go_wp2_with fail
  refine (rvar _ _).mono ?_
  rintro e w3 ⟨rfl, hb⟩
  have HB3 := Lib.hid (HB2.out.trans (hb.mono HB2.out.size))
  have HR3 := Lib.hid (HT6.out.next hb)
  clear hb HB2 HT6 HT3 c0 c1 c2 c3
  obtain ⟨z0, z1, z2, z3⟩ := HR3.out.cells
  have f0 := HR3.out.frozen 0
  have f1 := HR3.out.frozen 1
  have f2 := HR3.out.frozen 2
  have f3 := HR3.out.frozen 3
  go_wp2_with fail
  refine bodyPost_ret (results_ty (a := 6) (by kernel_rfl) (B := w.heap.size + 1) (by rfl) (put4_cells HR3.out _ _ _ _).cells.1 (put4_cells HR3.out _ _ _ _).cells.2.1 (put4_cells HR3.out _ _ _ _).cells.2.2.1 (put4_cells HR3.out _ _ _ _).cells.2.2.2) rfl ?_
  exact ⟨rfl, below_put4 HB3.out (by omega) _ _ _ _⟩

set_option maxHeartbeats 4000000 in
theorem rput_put (w : World) (l : List Ty) (hll : la = l.length) (n : Int) (na : ByteArray) (b : Option Addr) (c k j : Nat) (hl : Sl w base l) (hn : 0 ≤ n ∧ n ≤ 9999) (hk : k ≤ 1000000) (hla : la ≤ 600) (h1 : (k : Int) ≤ n) (hj : j < l.length) (hjn : (la : Int) - 1 - (n - k) = j)
    (hg : Good (l[j]'hj)) (hnn : nodes (l[j]'hj) ≤ 1000000) :
    Calls Try.prog 69 #[.agg #[.int .i64 1, .int .i64 n, .string na, .slice b 0 c], .slice base la cap, .int .i64 k] w fun e w' => ∃ v, e = .returned v ∧ VO (w.heap.size ≤ ·) w' (shiftT k 0 (l[j]'hj)).1 v ∧ Below w.heap.size w w' := by
  rcases hl.2 with h0 | ⟨g, o, rfl, hrow⟩
  · exact absurd h0 (List.ne_nil_of_length_pos (by omega))
  obtain ⟨xb, xc, x0, x1, x2, x3, hvx⟩ := at_v (row_at hj hrow)
  obtain ⟨ht3, ht6⟩ := two_boxes w (.int .i64 1) (.int .i64 n) (.string na) (.slice b 0 c) (.int .i64 0) (.int .i64 0) (.string ⟨#[]⟩) (.slice none 0 0)
  have hb2 : Below w.heap.size w ((w.alloc (Obj.cells #[.int .i64 1, .int .i64 n, .string na, .slice b 0 c] 24)).alloc (Obj.cells #[.int .i64 0, .int .i64 0, .string ⟨#[]⟩, .slice none 0 0] 24)) := below_two w _ _
  have HT3 := Lib.hid ht3
  have HT6 := Lib.hid ht6
  have HB2 := Lib.hid hb2
  have HSZ : Hid (((w.alloc (Obj.cells #[.int .i64 1, .int .i64 n, .string na, .slice b 0 c] 24)).alloc (Obj.cells #[.int .i64 0, .int .i64 0, .string ⟨#[]⟩, .slice none 0 0] 24)).heap.size = w.heap.size + 2) := Lib.hid (by simp)
  clear ht3 ht6 hb2
  have x0 := keeps HB2.out _ _ x0
  have x1 := keeps HB2.out _ _ x1
  have x2 := keeps HB2.out _ _ x2
  have x3 := keeps HB2.out _ _ x3
  obtain ⟨x, hx⟩ : ∃ x, x = l[j]'hj := ⟨_, rfl⟩
  rw [← hx] at hvx x0 x1 x2 x3 hg hnn ⊢
  have hcall := up_any x hg hnn k (by omega) _ _ (hvx.next HB2.out)
  have HCALL := Lib.hid hcall
  have q1 : decide (n < (k : Int)) = false := decide_eq_false (by omega)
  have q2 : decide (n - (k : Int) < (la : Int)) = true := decide_eq_true (by omega)
  have hjl : j < la := by omega
  clear hcall hx hvx hrow hg hnn hll hl
  unfold RetF at HCALL
  obtain ⟨r, hr⟩ : ∃ r, r = (shiftT k 0 x).1 := ⟨_, rfl⟩
  rw [← hr] at HCALL ⊢
  clear hr
  go_enter Try.func69, Try.ntmps69
  go_upto_region 1 with fail
  obtain ⟨W2, hW2⟩ : ∃ W2, W2 = (w.alloc (Obj.cells #[.int .i64 1, .int .i64 n, .string na, .slice b 0 c] 24)).alloc (Obj.cells #[.int .i64 0, .int .i64 0, .string ⟨#[]⟩, .slice none 0 0] 24) := ⟨_, rfl⟩
  rw [← hW2] at HT3 HT6 HB2 HSZ HCALL x0 x1 x2 x3 ⊢
  clear hW2
  obtain ⟨c0, c1, c2, c3⟩ := HT3.out.cells
  go_wp2_with fail
  refine HCALL.out.mono ?_
  rintro e w3 ⟨v3, rfl, ⟨b9, c9, rfl, hs9, hl9⟩, hb⟩
  have HV3 : Hid (VO (W2.heap.size ≤ ·) w3 r _) := Lib.hid ⟨b9, c9, rfl, hs9, hl9⟩
  have HB3 := Lib.hid (HB2.out.trans (hb.mono HB2.out.size))
  have HR3 := Lib.hid (HT6.out.next hb)
  clear hs9 hl9 hb HB2 HT6 HT3 c0 c1 c2 c3 x0 x1 x2 x3 HCALL
  obtain ⟨z0, z1, z2, z3⟩ := HR3.out.cells
  have f0 := HR3.out.frozen 0
  have f1 := HR3.out.frozen 1
  have f2 := HR3.out.frozen 2
  have f3 := HR3.out.frozen 3
  go_wp2_with fail
  refine bodyPost_ret (results_ty (a := 6) (by kernel_rfl) (B := w.heap.size + 1) (by rfl) (put4_cells HR3.out _ _ _ _).cells.1 (put4_cells HR3.out _ _ _ _).cells.2.1 (put4_cells HR3.out _ _ _ _).cells.2.2.1 (put4_cells HR3.out _ _ _ _).cells.2.2.2) rfl ?_
  have hsz := HSZ.out
  exact ⟨_, rfl, HV3.out.keep (fun g hg => by show w.heap.size ≤ g; have : W2.heap.size ≤ g := hg; omega) (fun p v hp hc => put4_keep _ _ _ _ p v hc (by have : W2.heap.size ≤ p.block := hp; omega)), below_put4 HB3.out (by omega) _ _ _ _⟩

def RPutC (l : List Ty) (base : Option Addr) (cap : Nat) (t : Ty) : Prop := ∀ (v : Value) (k : Nat) (w : World), V w t v → Sl w base l → k + nodes t ≤ 1000000 → Calls Try.prog 69 #[v, .slice base l.length cap, .int .i64 k] w (RetF (reb (putF l) t k ()).1 w)

theorem rput_leaf (l : List Ty) (hla : l.length ≤ 600) (hgl : ∀ x ∈ l, Good x ∧ nodes x ≤ 1000000) (op n : Int) (s : List UInt8) (hgd : Good (.mk op n s [])) : RPutC l base cap (.mk op n s []) := by
  intro v k w hv hl hk
  obtain ⟨b, c, ev, _, _⟩ := hv
  rw [show v = .agg #[.int .i64 op, .int .i64 n, .string ⟨s.toArray⟩, .slice b 0 c] from ev]
  clear ev
  have hk' : k ≤ 1000000 := by omega
  rw [reb_leaf]
  have hnb : 0 ≤ n ∧ n ≤ 9999 := by
    cases hgd with
    | var op n h1 h2 h3 => exact ⟨h2, h3⟩
    | con s h1 h2 => exact ⟨by omega, by omega⟩
  have hs1 : op = 1 → s = [] := by
    intro h1
    cases hgd with
    | var op n _ _ _ => rfl
    | con s h3 h4 => exact absurd h1 (by decide)
  by_cases h1 : op = 1
  · obtain rfl := h1
    obtain rfl := hs1 rfl
    by_cases h2 : (k : Int) ≤ n
    · by_cases h3 : (l.length : Int) ≤ n - k
      · have he : putF l (.mk 1 n [] []) k () = (.mk 1 (n - l.length) [] [], ()) := by
          unfold putF
          rw [if_pos (show (mk 1 n [] []).op = 1 ∧ (k : Int) ≤ (mk 1 n [] []).n from ⟨rfl, h2⟩), if_pos (show (l.length : Int) ≤ (mk 1 n [] []).n - k from h3)]
          rfl
        rw [he]
        exact (rput_far w n ⟨([] : List UInt8).toArray⟩ b c k hnb hk' hla h2 h3).mono fun e w' ⟨h1, h2⟩ => ⟨_, h1, ⟨none, 0, rfl, Nat.zero_le _, Nat.zero_le _, .inl rfl⟩, h2⟩
      · have hj : l.length - 1 - (n - k).toNat < l.length := by omega
        have he : putF l (.mk 1 n [] []) k () = ((shiftT k 0 (l[l.length - 1 - (n - k).toNat]'hj)).1, ()) := by
          unfold putF
          rw [if_pos (show (mk 1 n [] []).op = 1 ∧ (k : Int) ≤ (mk 1 n [] []).n from ⟨rfl, h2⟩), if_neg (show ¬ (l.length : Int) ≤ (mk 1 n [] []).n - k from h3)]
          show (match l[(l.length - 1 - (n - k).toNat)]? with | some x => ((shiftT k 0 x).1, ()) | none => (Ty.mk 1 n [] [], ())) = _
          rw [List.getElem?_eq_getElem hj]
        rw [he]
        obtain ⟨hg1, hg2⟩ := hgl _ (List.getElem_mem hj)
        exact rput_put w l rfl n ⟨([] : List UInt8).toArray⟩ b c k _ hl hnb hk' hla h2 hj (by omega) hg1 hg2
    · have he : putF l (.mk 1 n [] []) k () = (.mk 1 n [] [], ()) := if_neg (fun h => h2 h.2)
      rw [he]
      exact (rput_low w n ⟨([] : List UInt8).toArray⟩ b c k (by omega)).mono fun e w' ⟨h1, h2⟩ => ⟨_, h1, ⟨b, c, rfl, Nat.zero_le _, Nat.zero_le _, .inl rfl⟩, h2⟩
  · have he : putF l (.mk op n s []) k () = (.mk op n s [], ()) := if_neg (fun h => h1 h.1)
    rw [he]
    exact (rput_plain w op n ⟨s.toArray⟩ b c k h1).mono fun e w' ⟨h1, h2⟩ => ⟨_, h1, ⟨none, 0, rfl, leaf_len hgd, Nat.zero_le _, .inl rfl⟩, h2⟩
end

end Ty
end Go.Proofs.Ytkedhnahgpmkaaa
