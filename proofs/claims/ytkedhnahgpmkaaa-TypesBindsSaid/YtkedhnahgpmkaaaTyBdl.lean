/- What the closure of Bind does with a leaf. Conditions: its variables lie in memory. -/
import Derived.Test.YtkedhnahgpmkaaaTyBdP
import Derived.Test.YtkedhnahgpmkaaaTyShl
namespace Go.Proofs.Ytkedhnahgpmkaaa
open Go.RowKit Go.WideMaps Go.Maps

namespace Ty
/-- the variables of the closure: the map, the kind of variables, the list -/
structure BdI (B1 B2 B3 Bm : Nat) (op : Int) (base : Option Addr) (cap : Nat) (l : List Int) (w : World) : Prop where
  map : w.heap[B1]? = some (.cells #[.map (some Bm)] 101 (0, 0))
  own : w.ownsMap Try.prog 3 (plainElem Try.prog 3) Bm l.length (mset l.length l)
  op : w.heap[B2]? = some (.cells #[.int .i64 op] 3 (0, 0))
  list : w.heap[B3]? = some (.cells #[.slice base l.length cap] 25 (0, 0))
theorem own_next {Bm n base : Nat} {D : DataW Unit} {w w' : World} (h : w.ownsMap Try.prog 3 (plainElem Try.prog 3) Bm n D) (hm : Bm < base) (hb : Below base w w') : w'.ownsMap Try.prog 3 (plainElem Try.prog 3) Bm n D := by
  obtain ⟨es, clock, hb2, Ft, hs, hD⟩ := h
  exact ⟨es, clock, (hb.block _ hm).trans hb2, Ft, hs, hD⟩
theorem BdI.next {B1 B2 B3 Bm base' : Nat} {op : Int} {base : Option Addr} {cap : Nat} {l : List Int} {w w' : World} (h : BdI B1 B2 B3 Bm op base cap l w) (h1 : B1 < base') (h2 : B2 < base') (h3 : B3 < base') (hm : Bm < base') (hb : Below base' w w') : BdI B1 B2 B3 Bm op base cap l w' :=
  ⟨(hb.block _ h1).trans h.map, own_next h.own hm hb, (hb.block _ h2).trans h.op, (hb.block _ h3).trans h.list⟩
theorem int_zero (w : World) : (zeroValue 3).run Try.prog w = .ok (.int .i64 0) w := Try.zeroValue3 w

section
variable {B1 B2 B3 Bm : Nat} {kind : Int} {base : Option Addr} {cap : Nat} {l : List Int}

set_option maxRecDepth 100000 in
set_option maxHeartbeats 4000000 in
theorem bdl_same (W : World) (op n : Int) (na : ByteArray) (k : Nat) (hi : BdI B1 B2 B3 Bm kind base cap l W) (hn : 0 ≤ n ∧ n ≤ 9999) (hno : ¬ (op = kind ∧ n ∈ l)) (hno2 : ¬ (op = 1 ∧ (k : Int) ≤ n)) :
    Calls Try.prog 87 #[.agg #[.int .i64 op, .int .i64 n, .string na, .slice none 0 0], .int .i64 k, .pointer (some ⟨B1, 0, none⟩), .pointer (some ⟨B2, 0, none⟩), .pointer (some ⟨B3, 0, none⟩)] W fun e w' => e = .returned (.agg #[.int .i64 op, .int .i64 n, .string na, .slice none 0 0]) ∧ Below W.heap.size W w' := by
  obtain ⟨ht5, ht7⟩ := two_boxes W (.int .i64 op) (.int .i64 n) (.string na) (.slice none 0 0) (.int .i64 0) (.int .i64 0) (.string ⟨#[]⟩) (.slice none 0 0)
  have hb2 := below_two W (Obj.cells #[.int .i64 op, .int .i64 n, .string na, .slice none 0 0] 24) (Obj.cells #[.int .i64 0, .int .i64 0, .string ⟨#[]⟩, .slice none 0 0] 24)
  have b1 := keeps hb2 _ _ (one_cell hi.map)
  have b2 := keeps hb2 _ _ (one_cell hi.op)
  have HO := Lib.hid (own_next hi.own hi.own.lt hb2)
  have HK : Hid (keyOf Try.prog 3 (.int .i64 n) = some (.int .i64 n)) := Lib.hid (keyOf_int_mk Try.underlying3 (int_wf (by omega)))
  have hh := mset_has l.length n l
  have HH := Lib.hid hh
  obtain ⟨c0, c1, c2, c3⟩ := ht5.cells
  obtain ⟨z0, z1, z2, z3⟩ := ht7.cells
  have f0 := ht7.frozen 0
  have f1 := ht7.frozen 1
  have f2 := ht7.frozen 2
  have f3 := ht7.frozen 3
  have HB := Lib.hid hb2
  have HT7 := Lib.hid ht7
  have HNO := Lib.hid hno
  have HNO2 := Lib.hid hno2
  obtain ⟨hs, hhs⟩ : ∃ b, b = decide (n ∈ l) := ⟨_, rfl⟩
  rw [← hhs] at HH
  have HHS := Lib.hid hhs
  clear hi ht5 ht7 hb2 hno hno2 hh hhs
  by_cases h1 : op = kind
  · have q1 : (op == kind) = true := by simpa using h1
    have hs0 : hs = false := by
      rw [HHS.out]
      exact decide_eq_false (fun h => HNO.out ⟨h1, h⟩)
    subst hs0
    by_cases h2 : op = 1
    · have q2 : (op == 1) = true := by simpa using h2
      have q3 : decide ((k : Int) ≤ n) = false := decide_eq_false (fun h => HNO2.out ⟨h2, h⟩)
      clear h1 h2
      go_enter Try.func87, Try.ntmps87
      go_upto_region 1 with fail
      obtain ⟨W2, hW2⟩ : ∃ W2, W2 = (W.alloc (Obj.cells #[.int .i64 op, .int .i64 n, .string na, .slice none 0 0] 24)).alloc (Obj.cells #[.int .i64 0, .int .i64 0, .string ⟨#[]⟩, .slice none 0 0] 24) := ⟨_, rfl⟩
      rw [← hW2] at b1 b2 c0 c1 c2 c3 z0 z1 z2 z3 f0 f1 f2 f3 HB HT7 HO ⊢
      clear hW2
      go_wp2_with (at_lookup; go_loud (refine wpList_lookup_own_ok_int _ rfl _ _ 101 rfl 3 3 .i64 ikeys Try.underlying101 Try.underlying3 (int_zero _) Bm l.length (mset l.length l) rfl HO.out _ (.int .i64 n) rfl HK.out ?_; intro c _ _; rw [HH.out]))
      refine bodyPost_ret (results_ty (a := 7) (by kernel_rfl) (B := W.heap.size + 1) (by rfl) (put4_cells HT7.out _ _ _ _).cells.1 (put4_cells HT7.out _ _ _ _).cells.2.1 (put4_cells HT7.out _ _ _ _).cells.2.2.1 (put4_cells HT7.out _ _ _ _).cells.2.2.2) rfl ?_
      exact ⟨rfl, below_put4 HB.out (by omega) _ _ _ _⟩
    · have q2 : (op == 1) = false := by simpa using h2
      clear h1 h2
      go_enter Try.func87, Try.ntmps87
      go_upto_region 1 with fail
      obtain ⟨W2, hW2⟩ : ∃ W2, W2 = (W.alloc (Obj.cells #[.int .i64 op, .int .i64 n, .string na, .slice none 0 0] 24)).alloc (Obj.cells #[.int .i64 0, .int .i64 0, .string ⟨#[]⟩, .slice none 0 0] 24) := ⟨_, rfl⟩
      rw [← hW2] at b1 b2 c0 c1 c2 c3 z0 z1 z2 z3 f0 f1 f2 f3 HB HT7 HO ⊢
      clear hW2
      go_wp2_with (at_lookup; go_loud (refine wpList_lookup_own_ok_int _ rfl _ _ 101 rfl 3 3 .i64 ikeys Try.underlying101 Try.underlying3 (int_zero _) Bm l.length (mset l.length l) rfl HO.out _ (.int .i64 n) rfl HK.out ?_; intro c _ _; rw [HH.out]))
      refine bodyPost_ret (results_ty (a := 7) (by kernel_rfl) (B := W.heap.size + 1) (by rfl) (put4_cells HT7.out _ _ _ _).cells.1 (put4_cells HT7.out _ _ _ _).cells.2.1 (put4_cells HT7.out _ _ _ _).cells.2.2.1 (put4_cells HT7.out _ _ _ _).cells.2.2.2) rfl ?_
      exact ⟨rfl, below_put4 HB.out (by omega) _ _ _ _⟩
  · have q1 : (op == kind) = false := by simpa using h1
    by_cases h2 : op = 1
    · have q2 : (op == 1) = true := by simpa using h2
      have q3 : decide ((k : Int) ≤ n) = false := decide_eq_false (fun h => HNO2.out ⟨h2, h⟩)
      clear h1 h2
      go_enter Try.func87, Try.ntmps87
      go_upto_region 1 with fail
      obtain ⟨W2, hW2⟩ : ∃ W2, W2 = (W.alloc (Obj.cells #[.int .i64 op, .int .i64 n, .string na, .slice none 0 0] 24)).alloc (Obj.cells #[.int .i64 0, .int .i64 0, .string ⟨#[]⟩, .slice none 0 0] 24) := ⟨_, rfl⟩
      rw [← hW2] at b1 b2 c0 c1 c2 c3 z0 z1 z2 z3 f0 f1 f2 f3 HB HT7 HO ⊢
      clear hW2
      go_wp2_with (at_lookup; go_loud (refine wpList_lookup_own_ok_int _ rfl _ _ 101 rfl 3 3 .i64 ikeys Try.underlying101 Try.underlying3 (int_zero _) Bm l.length (mset l.length l) rfl HO.out _ (.int .i64 n) rfl HK.out ?_; intro c _ _; rw [HH.out]))
      refine bodyPost_ret (results_ty (a := 7) (by kernel_rfl) (B := W.heap.size + 1) (by rfl) (put4_cells HT7.out _ _ _ _).cells.1 (put4_cells HT7.out _ _ _ _).cells.2.1 (put4_cells HT7.out _ _ _ _).cells.2.2.1 (put4_cells HT7.out _ _ _ _).cells.2.2.2) rfl ?_
      exact ⟨rfl, below_put4 HB.out (by omega) _ _ _ _⟩
    · have q2 : (op == 1) = false := by simpa using h2
      clear h1 h2
      go_enter Try.func87, Try.ntmps87
      go_upto_region 1 with fail
      obtain ⟨W2, hW2⟩ : ∃ W2, W2 = (W.alloc (Obj.cells #[.int .i64 op, .int .i64 n, .string na, .slice none 0 0] 24)).alloc (Obj.cells #[.int .i64 0, .int .i64 0, .string ⟨#[]⟩, .slice none 0 0] 24) := ⟨_, rfl⟩
      rw [← hW2] at b1 b2 c0 c1 c2 c3 z0 z1 z2 z3 f0 f1 f2 f3 HB HT7 HO ⊢
      clear hW2
      go_wp2_with (at_lookup; go_loud (refine wpList_lookup_own_ok_int _ rfl _ _ 101 rfl 3 3 .i64 ikeys Try.underlying101 Try.underlying3 (int_zero _) Bm l.length (mset l.length l) rfl HO.out _ (.int .i64 n) rfl HK.out ?_; intro c _ _; rw [HH.out]))
      refine bodyPost_ret (results_ty (a := 7) (by kernel_rfl) (B := W.heap.size + 1) (by rfl) (put4_cells HT7.out _ _ _ _).cells.1 (put4_cells HT7.out _ _ _ _).cells.2.1 (put4_cells HT7.out _ _ _ _).cells.2.2.1 (put4_cells HT7.out _ _ _ _).cells.2.2.2) rfl ?_
      exact ⟨rfl, below_put4 HB.out (by omega) _ _ _ _⟩
set_option maxRecDepth 100000 in
set_option maxHeartbeats 4000000 in
theorem bdl_bound (W : World) (n : Int) (na : ByteArray) (k : Nat) (hi : BdI B1 B2 B3 Bm kind base cap l W) (hkind : kind ≠ 1) (hl : l.length ≤ 600) (hn : 0 ≤ n ∧ n ≤ 9999) (hyes : (k : Int) ≤ n) :
    Calls Try.prog 87 #[.agg #[.int .i64 1, .int .i64 n, .string na, .slice none 0 0], .int .i64 k, .pointer (some ⟨B1, 0, none⟩), .pointer (some ⟨B2, 0, none⟩), .pointer (some ⟨B3, 0, none⟩)] W fun e w' => e = .returned (.agg #[.int .i64 1, .int .i64 (n + l.length), .string na, .slice none 0 0]) ∧ Below W.heap.size W w' := by
  obtain ⟨ht5, ht7⟩ := two_boxes W (.int .i64 1) (.int .i64 n) (.string na) (.slice none 0 0) (.int .i64 0) (.int .i64 0) (.string ⟨#[]⟩) (.slice none 0 0)
  have hb2 := below_two W (Obj.cells #[.int .i64 1, .int .i64 n, .string na, .slice none 0 0] 24) (Obj.cells #[.int .i64 0, .int .i64 0, .string ⟨#[]⟩, .slice none 0 0] 24)
  have b1 := keeps hb2 _ _ (one_cell hi.map)
  have b2 := keeps hb2 _ _ (one_cell hi.op)
  have b3 := keeps hb2 _ _ (one_cell hi.list)
  have HO := Lib.hid (own_next hi.own hi.own.lt hb2)
  have HK : Hid (keyOf Try.prog 3 (.int .i64 n) = some (.int .i64 n)) := Lib.hid (keyOf_int_mk Try.underlying3 (int_wf (by omega)))
  have HH := Lib.hid (mset_has l.length n l)
  obtain ⟨c0, c1, c2, c3⟩ := ht5.cells
  obtain ⟨z0, z1, z2, z3⟩ := ht7.cells
  have f0 := ht7.frozen 0
  have f1 := ht7.frozen 1
  have f2 := ht7.frozen 2
  have f3 := ht7.frozen 3
  have g1 := ht5.frozen 1
  have HB := Lib.hid hb2
  have HT5 := Lib.hid ht5
  have HT7 := Lib.hid ht7
  obtain ⟨hs, hhs⟩ : ∃ b, b = decide (n ∈ l) := ⟨_, rfl⟩
  rw [← hhs] at HH
  clear hi ht5 ht7 hb2
  clear hhs
  have q1 : ((1 : Int) == kind) = false := by simp; omega
  have q3 : decide ((k : Int) ≤ n) = true := decide_eq_true hyes
  clear hkind
  have HR : Hid (B4 (put4 (((W.alloc (Obj.cells #[.int .i64 1, .int .i64 n, .string na, .slice none 0 0] 24)).alloc (Obj.cells #[.int .i64 0, .int .i64 0, .string ⟨#[]⟩, .slice none 0 0] 24)).setCell ⟨W.heap.size, 1, none⟩ (.int .i64 (n + l.length))) (W.heap.size + 1) (.int .i64 1) (.int .i64 (n + l.length)) (.string na) (.slice none 0 0)) (W.heap.size + 1) (.int .i64 1) (.int .i64 (n + l.length)) (.string na) (.slice none 0 0)) := Lib.hid (put4_cells (one_other HT7.out (by omega)) _ _ _ _)
  have HG : Hid (Below W.heap.size W (put4 (((W.alloc (Obj.cells #[.int .i64 1, .int .i64 n, .string na, .slice none 0 0] 24)).alloc (Obj.cells #[.int .i64 0, .int .i64 0, .string ⟨#[]⟩, .slice none 0 0] 24)).setCell ⟨W.heap.size, 1, none⟩ (.int .i64 (n + l.length))) (W.heap.size + 1) (.int .i64 1) (.int .i64 (n + l.length)) (.string na) (.slice none 0 0))) := Lib.hid (below_put4 (HB.out.setCell (Nat.le_refl _) _) (by omega) _ _ _ _)
  have hla : l.length ≤ 600 := hl
  go_enter Try.func87, Try.ntmps87
  go_upto_region 1 with fail
  obtain ⟨W2, hW2⟩ : ∃ W2, W2 = (W.alloc (Obj.cells #[.int .i64 1, .int .i64 n, .string na, .slice none 0 0] 24)).alloc (Obj.cells #[.int .i64 0, .int .i64 0, .string ⟨#[]⟩, .slice none 0 0] 24) := ⟨_, rfl⟩
  rw [← hW2] at b1 b2 b3 c0 c1 c2 c3 z0 z1 z2 z3 g1 f0 f1 f2 f3 HB HT5 HT7 HO HR HG ⊢
  clear hW2
  go_wp2_with (at_lookup; go_loud (refine wpList_lookup_own_ok_int _ rfl _ _ 101 rfl 3 3 .i64 ikeys Try.underlying101 Try.underlying3 (int_zero _) Bm l.length (mset l.length l) rfl HO.out _ (.int .i64 n) rfl HK.out ?_; intro c _ _; rw [HH.out]))
  refine bodyPost_ret (results_ty (a := 7) (by kernel_rfl) (B := W.heap.size + 1) (by rfl) HR.out.cells.1 HR.out.cells.2.1 HR.out.cells.2.2.1 HR.out.cells.2.2.2) rfl ?_
  exact ⟨rfl, HG.out⟩

set_option maxRecDepth 100000 in
set_option maxHeartbeats 4000000 in
theorem bdl_var (W : World) (n : Int) (na : ByteArray) (k i : Nat) (hi : BdI B1 B2 B3 Bm kind base cap l W) (hl : l.length ≤ 600) (hnd : l.Nodup) (hn : 0 ≤ n ∧ n ≤ 9999) (hk : k ≤ 1000000) (hx : l[i]? = some n) (hil : i < l.length) :
    Calls Try.prog 87 #[.agg #[.int .i64 kind, .int .i64 n, .string na, .slice none 0 0], .int .i64 k, .pointer (some ⟨B1, 0, none⟩), .pointer (some ⟨B2, 0, none⟩), .pointer (some ⟨B3, 0, none⟩)] W fun e w' => e = .returned (.agg #[.int .i64 1, .int .i64 ((l.length : Int) - 1 - (i : Nat) + k), .string ⟨#[]⟩, .slice none 0 0]) ∧ Below W.heap.size W w' := by
  obtain ⟨ht5, ht7⟩ := two_boxes W (.int .i64 kind) (.int .i64 n) (.string na) (.slice none 0 0) (.int .i64 0) (.int .i64 0) (.string ⟨#[]⟩) (.slice none 0 0)
  have hb2 := below_two W (Obj.cells #[.int .i64 kind, .int .i64 n, .string na, .slice none 0 0] 24) (Obj.cells #[.int .i64 0, .int .i64 0, .string ⟨#[]⟩, .slice none 0 0] 24)
  have b1 := keeps hb2 _ _ (one_cell hi.map)
  have b2 := keeps hb2 _ _ (one_cell hi.op)
  have HO := Lib.hid (own_next hi.own hi.own.lt hb2)
  have HK : Hid (keyOf Try.prog 3 (.int .i64 n) = some (.int .i64 n)) := Lib.hid (keyOf_int_mk Try.underlying3 (int_wf (by omega)))
  have HH := Lib.hid (mset_has l.length n l)
  obtain ⟨c0, c1, c2, c3⟩ := ht5.cells
  obtain ⟨z0, z1, z2, z3⟩ := ht7.cells
  have f0 := ht7.frozen 0
  have f1 := ht7.frozen 1
  have f2 := ht7.frozen 2
  have f3 := ht7.frozen 3
  have HB := Lib.hid hb2
  have HT7 := Lib.hid ht7
  obtain ⟨hs, hhs⟩ : ∃ b, b = decide (n ∈ l) := ⟨_, rfl⟩
  rw [← hhs] at HH
  clear hi ht5 ht7 hb2
  have hs1 : hs = true := by rw [hhs]; exact decide_eq_true (List.mem_of_getElem? hx)
  subst hs1
  clear hhs
  have q1 : (kind == kind) = true := by simp
  have HAT := Lib.hid (mset_at (m := l.length) (.lit (.int .i64 0)) hnd hx)
  have hla : l.length ≤ 600 := hl
  clear hnd hx
  go_enter Try.func87, Try.ntmps87
  go_upto_region 1 with fail
  obtain ⟨W2, hW2⟩ : ∃ W2, W2 = (W.alloc (Obj.cells #[.int .i64 kind, .int .i64 n, .string na, .slice none 0 0] 24)).alloc (Obj.cells #[.int .i64 0, .int .i64 0, .string ⟨#[]⟩, .slice none 0 0] 24) := ⟨_, rfl⟩
  rw [← hW2] at b1 b2 c0 c1 c2 c3 z0 z1 z2 z3 f0 f1 f2 f3 HB HT7 HO ⊢
  clear hW2
  go_wp2_with (at_lookup; go_loud (refine wpList_lookup_own_ok_int _ rfl _ _ 101 rfl 3 3 .i64 ikeys Try.underlying101 Try.underlying3 (int_zero _) Bm l.length (mset l.length l) rfl HO.out _ (.int .i64 n) rfl HK.out ?_; intro c hat _; rw [HH.out]; rw [HAT.out] at hat; have hcc : (l.length : Int) - 1 - (i : Nat) = c := (by simpa using hat); have hc1 : 0 ≤ c := (by omega); have hc2 : c ≤ 600 := (by omega); have HCC := Lib.hid hcc; clear hat hcc))
  refine bodyPost_ret (results_ty (a := 7) (by kernel_rfl) (B := W.heap.size + 1) (by rfl) (put4_cells HT7.out _ _ _ _).cells.1 (put4_cells HT7.out _ _ _ _).cells.2.1 (put4_cells HT7.out _ _ _ _).cells.2.2.1 (put4_cells HT7.out _ _ _ _).cells.2.2.2) rfl ?_
  exact ⟨by rw [HCC.out], below_put4 HB.out (by omega) _ _ _ _⟩

theorem bdl_leaf (w0 : World) (base' : Nat) (hkind : kind = 6 ∨ kind = 7) (hl : l.length ≤ 600) (hnd : l.Nodup) (hB : B1 < base' ∧ B2 < base' ∧ B3 < base' ∧ Bm < base') :
    Leafs 87 #[.pointer (some ⟨B1, 0, none⟩), .pointer (some ⟨B2, 0, none⟩), .pointer (some ⟨B3, 0, none⟩)] (bdF kind l) (fun W _ => BdI B1 B2 B3 Bm kind base cap l W) none w0 base' := by
  intro W op n s k st hg hi hbase _ hk
  have hn : 0 ≤ n ∧ n ≤ 9999 := by
    cases hg with
    | var op n h1 h2 h3 => exact ⟨h2, h3⟩
    | con s h1 h2 => omega
  have hnext : ∀ w', Below W.heap.size W w' → BdI B1 B2 B3 Bm kind base cap l w' := fun w' hb => hi.next (by omega) (by omega) (by omega) (by omega) hb
  by_cases h1 : op = kind ∧ (idxN l n).isSome = true
  · obtain ⟨rfl, hs⟩ := h1
    obtain ⟨i, hidx⟩ := Option.isSome_iff_exists.mp hs
    obtain ⟨hx, hil⟩ := idx_some hidx
    have he : bdF op l (.mk op n s []) k st = (.mk 1 ((l.length : Int) - 1 - (i : Nat) + k) [] [], ()) := by
      unfold bdF
      rw [if_pos (show (mk op n s []).op = op ∧ (idxN l (mk op n s []).n).isSome = true from ⟨rfl, hs⟩), show idxN l (mk op n s []).n = some i from hidx]
      rfl
    rw [he]
    exact (bdl_var W n ⟨s.toArray⟩ k i hi hl hnd hn hk hx hil).mono fun e w' ⟨e1, e2⟩ => ⟨_, e1, ⟨none, 0, rfl, Nat.zero_le _, Nat.zero_le _, .inl rfl⟩, grown_of_below e2, hnext _ e2⟩
  · by_cases h2 : op = 1 ∧ (k : Int) ≤ n
    · obtain ⟨rfl, hkn⟩ := h2
      have he : bdF kind l (.mk 1 n s []) k st = (.mk 1 (n + l.length) s [], ()) := by
        unfold bdF
        rw [if_neg (show ¬ ((mk 1 n s []).op = kind ∧ (idxN l (mk 1 n s []).n).isSome = true) from h1), if_pos (show (mk 1 n s []).op = 1 ∧ (k : Int) ≤ (mk 1 n s []).n from ⟨rfl, hkn⟩)]
        rfl
      rw [he]
      exact (bdl_bound W n ⟨s.toArray⟩ k hi (by omega) hl hn hkn).mono fun e w' ⟨e1, e2⟩ => ⟨_, e1, ⟨none, 0, rfl, leaf_len hg, Nat.zero_le _, .inl rfl⟩, grown_of_below e2, hnext _ e2⟩
    · have he : bdF kind l (.mk op n s []) k st = (.mk op n s [], ()) := by
        unfold bdF
        rw [if_neg (show ¬ ((mk op n s []).op = kind ∧ (idxN l (mk op n s []).n).isSome = true) from h1), if_neg (show ¬ ((mk op n s []).op = 1 ∧ (k : Int) ≤ (mk op n s []).n) from h2)]
      rw [he]
      have hno : ¬ (op = kind ∧ n ∈ l) := fun h => h1 ⟨h.1, by
        cases hx : idxN l n with
        | none => exact absurd h.2 (idx_none.mp hx)
        | some i => rfl⟩
      exact (bdl_same W op n ⟨s.toArray⟩ k hi hn hno h2).mono fun e w' ⟨e1, e2⟩ => ⟨_, e1, ⟨none, 0, rfl, leaf_len hg, Nat.zero_le _, .inl rfl⟩, grown_of_below e2, hnext _ e2⟩

end
end Ty
end Go.Proofs.Ytkedhnahgpmkaaa
