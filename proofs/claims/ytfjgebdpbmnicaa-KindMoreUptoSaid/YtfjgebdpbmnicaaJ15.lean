/- What the closure of Put does with a leaf. Conditions: the list lies in memory, its types are well formed. -/
import Derived.Test.YtfjgebdpbmnicaaJ13
import Derived.Test.YtfjgebdpbmnicaaJ14
import Derived.Test.YtfjgebdpbmnicaaJ05
namespace Go.Proofs.Ytfjgebdpbmnicaa
open Go.RowKit

namespace Ty
/-- what is done with a leaf when types are put in -/
def putF (l : List Ty) (t : Ty) (k : Nat) (st : Unit) : Ty × Unit :=
  if t.op = 1 ∧ (k : Int) ≤ t.n then
    (if (l.length : Int) ≤ t.n - k then (.mk 1 (t.n - l.length) t.s [], st)
     else match l[(l.length - 1 - (t.n - k).toNat)]? with
      | some x => ((shiftT k 0 x).1, st)
      | none => (t, st))
  else (t, st)
/-- the variable of the closure -/
def PuI (B1 : Nat) (base : Option Addr) (la cap : Nat) (w : World) (_ : Unit) : Prop := w.heap[B1]? = some (.cells #[.slice base la cap] 32 (0, 0))
theorem PuI.next {B1 lim la cap : Nat} {base : Option Addr} {w w' : World} {st : Unit} (h : PuI B1 base la cap w st) (h1 : B1 < lim) (hb : Below lim w w') : PuI B1 base la cap w' st := (hb.block _ h1).trans h

section
variable {B1 : Nat} {base : Option Addr} {la cap : Nat}

set_option maxHeartbeats 4000000 in
theorem putl_no (W : World) (op n : Int) (na : ByteArray) (k : Nat) (hi : PuI B1 base la cap W ()) (hn : 0 ≤ n ∧ n ≤ 9999) (hk : k ≤ 1000000) (hno : ¬ (op = 1 ∧ (k : Int) ≤ n)) :
    Calls Try.prog 84 #[.agg #[.int .i64 op, .int .i64 n, .string na, .slice none 0 0], .int .i64 k, .pointer (some ⟨B1, 0, none⟩)] W fun e w' => e = .returned (.agg #[.int .i64 op, .int .i64 n, .string na, .slice none 0 0]) ∧ Below W.heap.size W w' := by
  obtain ⟨ht3, ht5⟩ := two_boxes W (.int .i64 op) (.int .i64 n) (.string na) (.slice none 0 0) (.int .i64 0) (.int .i64 0) (.string ⟨#[]⟩) (.slice none 0 0)
  have hb2 : Below W.heap.size W ((W.alloc (Obj.cells #[.int .i64 op, .int .i64 n, .string na, .slice none 0 0] 36)).alloc (Obj.cells #[.int .i64 0, .int .i64 0, .string ⟨#[]⟩, .slice none 0 0] 36)) := below_two W _ _
  have b1 := keeps hb2 _ _ (one_cell hi)
  obtain ⟨c0, c1, c2, c3⟩ := ht3.cells
  obtain ⟨z0, z1, z2, z3⟩ := ht5.cells
  have f0 := ht5.frozen 0
  have f1 := ht5.frozen 1
  have f2 := ht5.frozen 2
  have f3 := ht5.frozen 3
  have HB := Lib.hid hb2
  have HT5 := Lib.hid ht5
  have HNO := Lib.hid hno
  clear hi ht3 ht5 hb2 hno
  by_cases h1 : op = 1
  · have q1 : (op != 1) = false := by simpa using h1
    have q2 : decide (n - (k : Int) < 0) = true := decide_eq_true (by have : ¬ (k : Int) ≤ n := fun h => HNO.out ⟨h1, h⟩; omega)
    have q3 : decide (n < (k : Int)) = true := decide_eq_true (by have : ¬ (k : Int) ≤ n := fun h => HNO.out ⟨h1, h⟩; omega)
    clear h1
    go_enter Try.func84, Try.ntmps84
    go_upto_region 1 with fail
    obtain ⟨W2, hW2⟩ : ∃ W2, W2 = (W.alloc (Obj.cells #[.int .i64 op, .int .i64 n, .string na, .slice none 0 0] 36)).alloc (Obj.cells #[.int .i64 0, .int .i64 0, .string ⟨#[]⟩, .slice none 0 0] 36) := ⟨_, rfl⟩
    rw [← hW2] at b1 c0 c1 c2 c3 z0 z1 z2 z3 f0 f1 f2 f3 HB HT5 ⊢
    clear hW2
    go_wp2_with fail
    refine bodyPost_ret (results_ty (a := 5) (by kernel_rfl) (B := W.heap.size + 1) (by rfl) (put4_cells HT5.out _ _ _ _).cells.1 (put4_cells HT5.out _ _ _ _).cells.2.1 (put4_cells HT5.out _ _ _ _).cells.2.2.1 (put4_cells HT5.out _ _ _ _).cells.2.2.2) rfl ?_
    exact ⟨rfl, below_put4 HB.out (by omega) _ _ _ _⟩
  · have q1 : (op != 1) = true := by simpa using h1
    clear h1
    go_enter Try.func84, Try.ntmps84
    go_upto_region 1 with fail
    obtain ⟨W2, hW2⟩ : ∃ W2, W2 = (W.alloc (Obj.cells #[.int .i64 op, .int .i64 n, .string na, .slice none 0 0] 36)).alloc (Obj.cells #[.int .i64 0, .int .i64 0, .string ⟨#[]⟩, .slice none 0 0] 36) := ⟨_, rfl⟩
    rw [← hW2] at b1 c0 c1 c2 c3 z0 z1 z2 z3 f0 f1 f2 f3 HB HT5 ⊢
    clear hW2
    go_wp2_with fail
    refine bodyPost_ret (results_ty (a := 5) (by kernel_rfl) (B := W.heap.size + 1) (by rfl) (put4_cells HT5.out _ _ _ _).cells.1 (put4_cells HT5.out _ _ _ _).cells.2.1 (put4_cells HT5.out _ _ _ _).cells.2.2.1 (put4_cells HT5.out _ _ _ _).cells.2.2.2) rfl ?_
    exact ⟨rfl, below_put4 HB.out (by omega) _ _ _ _⟩

set_option maxHeartbeats 4000000 in
theorem putl_far (W : World) (n : Int) (na : ByteArray) (k : Nat) (hi : PuI B1 base la cap W ()) (hn : 0 ≤ n ∧ n ≤ 9999) (hk : k ≤ 1000000) (hla : la ≤ 600) (h1 : (k : Int) ≤ n) (h2 : (la : Int) ≤ n - k) :
    Calls Try.prog 84 #[.agg #[.int .i64 1, .int .i64 n, .string na, .slice none 0 0], .int .i64 k, .pointer (some ⟨B1, 0, none⟩)] W fun e w' => e = .returned (.agg #[.int .i64 1, .int .i64 (n - la), .string na, .slice none 0 0]) ∧ Below W.heap.size W w' := by
  obtain ⟨ht3, ht5⟩ := two_boxes W (.int .i64 1) (.int .i64 n) (.string na) (.slice none 0 0) (.int .i64 0) (.int .i64 0) (.string ⟨#[]⟩) (.slice none 0 0)
  have hb2 : Below W.heap.size W ((W.alloc (Obj.cells #[.int .i64 1, .int .i64 n, .string na, .slice none 0 0] 36)).alloc (Obj.cells #[.int .i64 0, .int .i64 0, .string ⟨#[]⟩, .slice none 0 0] 36)) := below_two W _ _
  have b1 := keeps hb2 _ _ (one_cell hi)
  have h13 : B1 ≠ W.heap.size := by have := lt_of_block hi; omega
  obtain ⟨c0, c1, c2, c3⟩ := ht3.cells
  obtain ⟨z0, z1, z2, z3⟩ := ht5.cells
  have g1 := ht3.frozen 1
  have f0 := ht5.frozen 0
  have f1 := ht5.frozen 1
  have f2 := ht5.frozen 2
  have f3 := ht5.frozen 3
  have q2 : decide (n - (k : Int) < 0) = false := decide_eq_false (by omega)
  have q3 : decide (n < (k : Int)) = false := decide_eq_false (by omega)
  have q4 : decide ((la : Int) ≤ n - (k : Int)) = true := decide_eq_true h2
  have HB := Lib.hid hb2
  have HT5 := Lib.hid ht5
  clear hi ht3 ht5 hb2
  go_enter Try.func84, Try.ntmps84
  go_upto_region 1 with fail
  obtain ⟨W2, hW2⟩ : ∃ W2, W2 = (W.alloc (Obj.cells #[.int .i64 1, .int .i64 n, .string na, .slice none 0 0] 36)).alloc (Obj.cells #[.int .i64 0, .int .i64 0, .string ⟨#[]⟩, .slice none 0 0] 36) := ⟨_, rfl⟩
  rw [← hW2] at b1 c0 c1 c2 c3 z0 z1 z2 z3 g1 f0 f1 f2 f3 HB HT5 ⊢
  clear hW2
  go_wp2_with fail
  have hr : B4 (put4 (W2.setCell ⟨W.heap.size, 1, none⟩ (.int .i64 (n - la))) (W.heap.size + 1) (.int .i64 1) (.int .i64 (n - la)) (.string na) (.slice none 0 0)) (W.heap.size + 1) (.int .i64 1) (.int .i64 (n - la)) (.string na) (.slice none 0 0) := put4_cells (one_other HT5.out (by omega)) _ _ _ _
  refine bodyPost_ret (results_ty (a := 5) (by kernel_rfl) (B := W.heap.size + 1) (by rfl) hr.cells.1 hr.cells.2.1 hr.cells.2.2.1 hr.cells.2.2.2) rfl ?_
  exact ⟨rfl, below_put4 (HB.out.setCell (Nat.le_refl _) _) (by omega) _ _ _ _⟩

set_option maxHeartbeats 4000000 in
theorem putl_put (W w0 : World) (l : List Ty) (hll : la = l.length) (n : Int) (na : ByteArray) (k j : Nat) (hi : PuI B1 base la cap W ()) (hb0 : Below w0.heap.size w0 W) (hl : Sl w0 base l) (hn : 0 ≤ n ∧ n ≤ 9999) (hk : k ≤ 1000000) (hla : la ≤ 600) (h1 : (k : Int) ≤ n) (hj : j < l.length) (hjn : (la : Int) - 1 - (n - k) = j)
    (hg : Good (l[j]'hj)) (hnn : nodes (l[j]'hj) ≤ 1000000) :
    Calls Try.prog 84 #[.agg #[.int .i64 1, .int .i64 n, .string na, .slice none 0 0], .int .i64 k, .pointer (some ⟨B1, 0, none⟩)] W fun e w' => ∃ v, e = .returned v ∧ VO (W.heap.size ≤ ·) w' (shiftT k 0 (l[j]'hj)).1 v ∧ Below W.heap.size W w' := by
  rcases hl.2 with h0 | ⟨g, o, rfl, hrow⟩
  · exact absurd h0 (List.ne_nil_of_length_pos (by omega))
  obtain ⟨xb, xc, x0, x1, x2, x3, hvx⟩ := at_v (row_at hj hrow)
  obtain ⟨ht3, ht5⟩ := two_boxes W (.int .i64 1) (.int .i64 n) (.string na) (.slice none 0 0) (.int .i64 0) (.int .i64 0) (.string ⟨#[]⟩) (.slice none 0 0)
  have hb2 : Below W.heap.size W ((W.alloc (Obj.cells #[.int .i64 1, .int .i64 n, .string na, .slice none 0 0] 36)).alloc (Obj.cells #[.int .i64 0, .int .i64 0, .string ⟨#[]⟩, .slice none 0 0] 36)) := below_two W _ _
  have hsz : ((W.alloc (Obj.cells #[.int .i64 1, .int .i64 n, .string na, .slice none 0 0] 36)).alloc (Obj.cells #[.int .i64 0, .int .i64 0, .string ⟨#[]⟩, .slice none 0 0] 36)).heap.size = W.heap.size + 2 := by simp
  have b1 := keeps hb2 _ _ (one_cell hi)
  have hb3 := hb0.trans (hb2.mono hb0.size)
  have x0 := keeps hb3 _ _ x0
  have x1 := keeps hb3 _ _ x1
  have x2 := keeps hb3 _ _ x2
  have x3 := keeps hb3 _ _ x3
  obtain ⟨x, hx⟩ : ∃ x, x = l[j]'hj := ⟨_, rfl⟩
  rw [← hx] at hvx x0 x1 x2 x3 hg hnn ⊢
  have hcall := shift_any x hg hnn k 0 (by omega) (by omega) _ _ (hvx.next hb3)
  have HCALL := Lib.hid hcall
  obtain ⟨c0, c1, c2, c3⟩ := ht3.cells
  have q2 : decide (n - (k : Int) < 0) = false := decide_eq_false (by omega)
  have q3 : decide (n < (k : Int)) = false := decide_eq_false (by omega)
  have q4 : decide ((la : Int) ≤ n - (k : Int)) = false := decide_eq_false (by omega)
  have hjl : j < la := by omega
  have HB := Lib.hid hb2
  have HT5 := Lib.hid ht5
  have HSZ := Lib.hid hsz
  clear hi ht3 ht5 hb2 hcall hx hb3 hvx hrow hb0 hg hnn hll hl hsz
  unfold ShiftP at HCALL
  obtain ⟨r, hr⟩ : ∃ r, r = shiftT k 0 x := ⟨_, rfl⟩
  rw [← hr] at HCALL ⊢
  clear hr
  obtain ⟨r, ok⟩ := r
  go_enter Try.func84, Try.ntmps84
  go_upto_region 1 with fail
  obtain ⟨W2, hW2⟩ : ∃ W2, W2 = (W.alloc (Obj.cells #[.int .i64 1, .int .i64 n, .string na, .slice none 0 0] 36)).alloc (Obj.cells #[.int .i64 0, .int .i64 0, .string ⟨#[]⟩, .slice none 0 0] 36) := ⟨_, rfl⟩
  rw [← hW2] at b1 c0 c1 c2 c3 x0 x1 x2 x3 HB HT5 HSZ HCALL ⊢
  clear hW2
  go_wp2_with fail
  refine HCALL.out.mono ?_
  rintro e w2 ⟨v, rfl, ⟨b9, c9, rfl, hs9, hl9⟩, hbl⟩
  have HV9 : Hid (VO (W2.heap.size ≤ ·) w2 r _) := Lib.hid ⟨b9, c9, rfl, hs9, hl9⟩
  have HT := Lib.hid (HT5.out.next hbl)
  have HBL := Lib.hid (HB.out.trans (hbl.mono HB.out.size))
  have HZ : Hid (W.heap.size + 1 < w2.heap.size) := Lib.hid (lt_of_block HT.out)
  clear hs9 hl9 hbl HT5 HB HCALL b1 c0 c1 c2 c3 x0 x1 x2 x3
  go_upto_region 8 with fail
  obtain ⟨W9, hW9⟩ : ∃ W9, W9 = w2.alloc (Obj.cells #[.int .i64 r.op, .int .i64 r.n, .string r.name, .slice b9 r.args.length c9] 36) := ⟨_, rfl⟩
  have ht9 : B4 W9 w2.heap.size (.int .i64 r.op) (.int .i64 r.n) (.string r.name) (.slice b9 r.args.length c9) := by rw [hW9]; exact heap_alloc_new _ _
  have hb9 : Below w2.heap.size w2 W9 := by rw [hW9]; exact (Below.refl _ _).alloc (Nat.le_refl _) _
  rw [← hW9]
  clear hW9
  have HR := Lib.hid (HT.out.next hb9)
  have HV := Lib.hid (HV9.out.next hb9)
  have HBF := Lib.hid (HBL.out.trans (hb9.mono HBL.out.size))
  obtain ⟨t0, t1, t2, t3⟩ := ht9.cells
  obtain ⟨z0, z1, z2, z3⟩ := HR.out.cells
  have f0 := HR.out.frozen 0
  have f1 := HR.out.frozen 1
  have f2 := HR.out.frozen 2
  have f3 := HR.out.frozen 3
  clear HT HV9 HBL hb9 ht9
  go_wp2_with fail
  refine bodyPost_ret (results_ty (a := 5) (by kernel_rfl) (B := W.heap.size + 1) (by rfl) (put4_cells HR.out _ _ _ _).cells.1 (put4_cells HR.out _ _ _ _).cells.2.1 (put4_cells HR.out _ _ _ _).cells.2.2.1 (put4_cells HR.out _ _ _ _).cells.2.2.2) rfl ?_
  have hs5 := HSZ.out
  exact ⟨_, rfl, HV.out.keep (fun g hg => by show W.heap.size ≤ g; have : W2.heap.size ≤ g := hg; omega) (fun p v hp hc => put4_keep _ _ _ _ p v hc (by have : W2.heap.size ≤ p.block := hp; omega)), below_put4 HBF.out (by omega) _ _ _ _⟩

theorem put_leaf (w0 : World) (lim : Nat) (l : List Ty) (hla : l.length ≤ 600) (hl : Sl w0 base l) (hg : ∀ x ∈ l, Good x ∧ nodes x ≤ 1000000) :
    Leafs 84 #[.pointer (some ⟨B1, 0, none⟩)] (putF l) (PuI B1 base l.length cap) none w0 lim := by
  intro W op n s k st hgd hi _ hb hk
  have hn : op = 1 → 0 ≤ n ∧ n ≤ 9999 := by
    intro h1
    cases hgd with
    | var op n h1 h2 h3 => exact ⟨h2, h3⟩
    | con s h3 h4 => exact absurd h1 (by decide)
  by_cases h1 : op = 1 ∧ (k : Int) ≤ n
  · obtain ⟨rfl, h1⟩ := h1
    obtain ⟨hn0, hn1⟩ := hn rfl
    by_cases h2 : (l.length : Int) ≤ n - k
    · have he : putF l (.mk 1 n s []) k st = (.mk 1 (n - l.length) s [], st) := by
        unfold putF
        rw [if_pos (show (mk 1 n s []).op = 1 ∧ (k : Int) ≤ (mk 1 n s []).n from ⟨rfl, h1⟩), if_pos (show (l.length : Int) ≤ (mk 1 n s []).n - k from h2)]
        rfl
      rw [he]
      exact (putl_far W n ⟨s.toArray⟩ k hi ⟨hn0, hn1⟩ hk hla h1 h2).mono fun e w' ⟨h1, h2⟩ => ⟨_, h1, ⟨none, 0, rfl, leaf_len hgd, Nat.zero_le _, .inl rfl⟩, grown_of_below h2, hi.next (lt_of_block hi) h2⟩
    · have hj : l.length - 1 - (n - k).toNat < l.length := by omega
      have he : putF l (.mk 1 n s []) k st = ((shiftT k 0 (l[l.length - 1 - (n - k).toNat]'hj)).1, st) := by
        unfold putF
        rw [if_pos (show (mk 1 n s []).op = 1 ∧ (k : Int) ≤ (mk 1 n s []).n from ⟨rfl, h1⟩), if_neg (show ¬ (l.length : Int) ≤ (mk 1 n s []).n - k from h2)]
        show (match l[(l.length - 1 - (n - k).toNat)]? with | some x => ((shiftT k 0 x).1, st) | none => (Ty.mk 1 n s [], st)) = _
        rw [List.getElem?_eq_getElem hj]
      rw [he]
      obtain ⟨hg1, hg2⟩ := hg _ (List.getElem_mem hj)
      exact (putl_put W w0 l rfl n ⟨s.toArray⟩ k _ hi hb hl ⟨hn0, hn1⟩ hk hla h1 hj (by omega) hg1 hg2).mono fun e w' ⟨v, h1, h2, h3⟩ => ⟨v, h1, h2, grown_of_below h3, hi.next (lt_of_block hi) h3⟩
  · have he : putF l (.mk op n s []) k st = (.mk op n s [], st) := if_neg h1
    rw [he]
    have hn' : 0 ≤ n ∧ n ≤ 9999 := by
      cases hgd with
      | var op n h1 h2 h3 => exact ⟨h2, h3⟩
      | con s h1 h2 => exact ⟨by omega, by omega⟩
    exact (putl_no W op n ⟨s.toArray⟩ k hi hn' hk h1).mono fun e w' ⟨h1, h2⟩ => ⟨_, h1, ⟨none, 0, rfl, leaf_len hgd, Nat.zero_le _, .inl rfl⟩, grown_of_below h2, hi.next (lt_of_block hi) h2⟩
end

end Ty
end Go.Proofs.Ytfjgebdpbmnicaa

/- What the reference's Propers, SameInts, compare and words return. Conditions: the lists lie in memory. -/
namespace Go.Proofs.Ytfjgebdpbmnicaa
open Go.RowKit

namespace Ty
def propersT (l : List Ty) : Bool := decide (l.length ≤ 600) && l.all isProper
theorem all_false {l : List Ty} {j : Nat} (h : j < l.length) (hf : isProper (l[j]'h) = false) : l.all isProper = false := by
  cases hc : l.all isProper with
  | false => rfl
  | true =>
    have := List.all_eq_true.mp hc _ (List.getElem_mem h)
    rw [hf] at this; cases this
theorem all_true {l : List Ty} (h : ∀ k (hk : k < l.length), isProper (l[k]'hk) = true) : l.all isProper = true :=
  List.all_eq_true.mpr fun x hx => by obtain ⟨k, hk, rfl⟩ := List.mem_iff_getElem.mp hx; exact h k hk

/-- -1, 0 or 1 for two numbers -/
def cmpI (a b : Int) : Int := if a < b then -1 else if b < a then 1 else 0

end Ty
end Go.Proofs.Ytfjgebdpbmnicaa
