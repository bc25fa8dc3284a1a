/- What the closures of freeNumbers and numbersOf do with a node: a number is put into a set. Conditions: the closures' variables lie in memory. -/
import Derived.Test.YtkedhnahgpmkaaaTyWalkN
import Derived.Test.YtkedhnahgpmkaaaTyShl
import Derived.Maps.OwnSet
namespace Go.Proofs.Ytkedhnahgpmkaaa
open Go.RowKit Go.WideMaps Go.Maps

theorem ikeys : Keyed Try.prog 3 := int_keyed Try.underlying3
theorem int_wf {a : Int} (h : -9223372036854775808 ≤ a ∧ a ≤ 9223372036854775807) : (Lit.int .i64 a).wf = true := by
  have h1 : decide ((IntKind.i64).min ≤ a) = true := decide_eq_true (by rw [show (IntKind.i64).min = -9223372036854775808 from by decide]; exact h.1)
  have h2 : decide (a ≤ (IntKind.i64).max) = true := decide_eq_true (by rw [show (IntKind.i64).max = 9223372036854775807 from by decide]; exact h.2)
  show (decide ((IntKind.i64).min ≤ a) && decide (a ≤ (IntKind.i64).max)) = true
  rw [h1, h2]; rfl

namespace Ty
/-- a set of numbers -/
def iset (l : List Int) : DataW Unit := setOf (.lit (.bool true)) (l.map (Lit.int .i64))
theorem iset_snoc (l : List Int) (x : Int) : iset (l ++ [x]) = (iset l).put (.int .i64 x) (.lit (.bool true)) := by
  unfold iset
  rw [List.map_append, List.map_cons, List.map_nil, setOf_snoc]
/-- a box leads to the set of some numbers -/
structure MI (B1 Bm : Nat) (W : World) (l : List Int) : Prop where
  box : W.heap[B1]? = some (.cells #[.map (some Bm)] 105 (0, 0))
  own : W.ownsMap Try.prog 3 (plainElem Try.prog 4) Bm l.length (iset l)
theorem MI.next {B1 Bm base : Nat} {w w' : World} {l : List Int} (h : MI B1 Bm w l) (h1 : B1 < base) (h2 : Bm < base) (hb : Below base w w') : MI B1 Bm w' l := by
  refine ⟨(hb.block _ h1).trans h.box, ?_⟩
  obtain ⟨es, clock, hb2, Ft, hs, hD⟩ := h.own
  exact ⟨es, clock, (hb.block _ h2).trans hb2, Ft, hs, hD⟩

/-- what is done with a node for the free variables -/
def frF (t : Ty) (k : Nat) (l : List Int) : List Int := if t.op = 1 ∧ (k : Int) ≤ t.n then l ++ [t.n - k] else l
/-- .. and for the numbers of one kind -/
def numF (op : Int) (t : Ty) (_ : Nat) (l : List Int) : List Int := if t.op = op then l ++ [t.n] else l

set_option maxHeartbeats 4000000 in
theorem fr_no (B1 Bm : Nat) (W : World) (op n : Int) (na : ByteArray) (b : Option Addr) (la c k : Nat) (l : List Int) (hi : MI B1 Bm W l) (hno : ¬ (op = 1 ∧ (k : Int) ≤ n)) :
    Calls Try.prog 92 #[.agg #[.int .i64 op, .int .i64 n, .string na, .slice b la c], .int .i64 k, .pointer (some ⟨B1, 0, none⟩)] W (WP l (MI B1 Bm) (some Bm) W) := by
  have hl1 := lt_of_block hi.box
  have hl2 := hi.own.lt
  have hb2 : Below W.heap.size W (W.alloc (Obj.cells #[.int .i64 op, .int .i64 n, .string na, .slice b la c] 24)) := (Below.refl _ _).alloc (Nat.le_refl _) _
  have HD : Hid (WP l (MI B1 Bm) (some Bm) W (.returned (.tuple #[])) (W.alloc (Obj.cells #[.int .i64 op, .int .i64 n, .string na, .slice b la c] 24))) := Lib.hid ⟨rfl, grown_of_below hb2, hi.next hl1 hl2 hb2⟩
  by_cases h1 : op = 1
  · have q1 : (op == 1) = true := by simpa using h1
    have q2 : decide ((k : Int) ≤ n) = false := decide_eq_false (fun h => hno ⟨h1, h⟩)
    clear hb2 hi hno h1 hl1 hl2
    go_enter Try.func92, Try.ntmps92
    go_wp2_with fail
    refine bodyPost_end (results_none (by kernel_rfl)) rfl ?_
    exact HD.out
  · have q1 : (op == 1) = false := by simpa using h1
    clear hb2 hi hno h1 hl1 hl2
    go_enter Try.func92, Try.ntmps92
    go_wp2_with fail
    refine bodyPost_end (results_none (by kernel_rfl)) rfl ?_
    exact HD.out

set_option maxHeartbeats 4000000 in
theorem fr_yes (B1 Bm : Nat) (W : World) (n : Int) (na : ByteArray) (b : Option Addr) (la c k : Nat) (l : List Int) (hi : MI B1 Bm W l) (hl : l.length ≤ 1000000) (hn : 0 ≤ n ∧ n ≤ 9999) (hk : k ≤ 1000000) (hyes : (k : Int) ≤ n) :
    Calls Try.prog 92 #[.agg #[.int .i64 1, .int .i64 n, .string na, .slice b la c], .int .i64 k, .pointer (some ⟨B1, 0, none⟩)] W (WP (l ++ [n - k]) (MI B1 Bm) (some Bm) W) := by
  have hl1 := lt_of_block hi.box
  have hl2 := hi.own.lt
  have hb2 : Below W.heap.size W (W.alloc (Obj.cells #[.int .i64 1, .int .i64 n, .string na, .slice b la c] 24)) := (Below.refl _ _).alloc (Nat.le_refl _) _
  have hi2 := hi.next hl1 hl2 hb2
  have hgb := grown_of_below (m := some Bm) hb2
  have hne : B1 ≠ Bm := fun e => by
    obtain ⟨es, clock, hbm, _⟩ := hi.own
    have hbx := hi.box
    rw [e, hbm] at hbx
    simp at hbx
  obtain ⟨c0, c1, c2, c3⟩ := (two_B4 (W := W) (v0 := .int .i64 1) (v1 := .int .i64 n) (v2 := .string na) (v3 := .slice b la c)).cells
  have q2 : decide ((k : Int) ≤ n) = true := decide_eq_true hyes
  have e1 := one_cell hi2.box
  have HB := Lib.hid hi2.box
  have HO := Lib.hid hi2.own
  have HG := Lib.hid hgb
  have HL : Hid (l.length < maxLen) := Lib.hid (by unfold maxLen; omega)
  have HK : Hid (keyOf Try.prog 3 (.int .i64 (n - k)) = some (.int .i64 (n - k))) := Lib.hid (keyOf_int_mk Try.underlying3 (int_wf (by omega)))
  clear hb2 hi hi2 hgb hl1 hl2
  go_enter Try.func92, Try.ntmps92
  go_upto_region 1 with fail
  obtain ⟨W1, hW1⟩ : ∃ W1, W1 = W.alloc (Obj.cells #[.int .i64 1, .int .i64 n, .string na, .slice b la c] 24) := ⟨_, rfl⟩
  rw [← hW1] at HB HO HG e1 c0 c1 c2 c3 ⊢
  clear hW1
  go_wp2_with (at_mapUpdate; refine wpList_mapUpdate_own _ rfl _ _ _ 105 rfl 3 4 ikeys Try.underlying105 _ Bm l.length (iset l) rfl HO.out HL.out _ _ (.int .i64 (n - k)) rfl rfl HK.out (.lit (.bool true)) [] (plainElem_bool Try.underlying4 true) ?_; intro w1 hown1 hgrow1)
  refine bodyPost_end (results_none (by kernel_rfl)) rfl ?_
  refine ⟨rfl, grown_trans' HG.out hgrow1, (hgrow1.block _ (lt_of_block HB.out) (fun e => hne (by injection e))).trans HB.out, ?_⟩
  rw [List.length_append, iset_snoc]
  exact hown1
/-- a box holds the kind of variables that is asked for, another one leads to the set -/
structure MO (B1 B2 Bm : Nat) (kind : Int) (W : World) (l : List Int) : Prop where
  kind : W.heap[B1]? = some (.cells #[.int .i64 kind] 3 (0, 0))
  mi : MI B2 Bm W l
theorem MO.next {B1 B2 Bm base : Nat} {kind : Int} {w w' : World} {l : List Int} (h : MO B1 B2 Bm kind w l) (h0 : B1 < base) (h1 : B2 < base) (h2 : Bm < base) (hb : Below base w w') : MO B1 B2 Bm kind w' l :=
  ⟨(hb.block _ h0).trans h.kind, h.mi.next h1 h2 hb⟩
theorem MI.ne {B1 Bm : Nat} {W : World} {l : List Int} (h : MI B1 Bm W l) : B1 ≠ Bm := fun e => by
  obtain ⟨es, clock, hbm, _⟩ := h.own
  have hbx := h.box
  rw [e, hbm] at hbx
  simp at hbx
theorem MO.ne {B1 B2 Bm : Nat} {kind : Int} {W : World} {l : List Int} (h : MO B1 B2 Bm kind W l) : B1 ≠ Bm := fun e => by
  obtain ⟨es, clock, hbm, _⟩ := h.mi.own
  have hbx := h.kind
  rw [e, hbm] at hbx
  simp at hbx

set_option maxHeartbeats 4000000 in
theorem num_no (B1 B2 Bm : Nat) (kind : Int) (W : World) (op n : Int) (na : ByteArray) (b : Option Addr) (la c k : Nat) (l : List Int) (hi : MO B1 B2 Bm kind W l) (hno : op ≠ kind) :
    Calls Try.prog 95 #[.agg #[.int .i64 op, .int .i64 n, .string na, .slice b la c], .int .i64 k, .pointer (some ⟨B1, 0, none⟩), .pointer (some ⟨B2, 0, none⟩)] W (WP l (MO B1 B2 Bm kind) (some Bm) W) := by
  have hl0 := lt_of_block hi.kind
  have hl1 := lt_of_block hi.mi.box
  have hl2 := hi.mi.own.lt
  have hb2 : Below W.heap.size W (W.alloc (Obj.cells #[.int .i64 op, .int .i64 n, .string na, .slice b la c] 24)) := (Below.refl _ _).alloc (Nat.le_refl _) _
  have HD : Hid (WP l (MO B1 B2 Bm kind) (some Bm) W (.returned (.tuple #[])) (W.alloc (Obj.cells #[.int .i64 op, .int .i64 n, .string na, .slice b la c] 24))) := Lib.hid ⟨rfl, grown_of_below hb2, hi.next hl0 hl1 hl2 hb2⟩
  have e1 := keeps hb2 _ _ (one_cell hi.kind)
  have q1 : (op == kind) = false := by simpa using hno
  clear hb2 hi hno hl0 hl1 hl2
  go_enter Try.func95, Try.ntmps95
  go_wp2_with fail
  refine bodyPost_end (results_none (by kernel_rfl)) rfl ?_
  exact HD.out

set_option maxHeartbeats 4000000 in
theorem num_yes (B1 B2 Bm : Nat) (kind : Int) (W : World) (n : Int) (na : ByteArray) (b : Option Addr) (la c k : Nat) (l : List Int) (hi : MO B1 B2 Bm kind W l) (hl : l.length ≤ 1000000) (hn : 0 ≤ n ∧ n ≤ 9999) :
    Calls Try.prog 95 #[.agg #[.int .i64 kind, .int .i64 n, .string na, .slice b la c], .int .i64 k, .pointer (some ⟨B1, 0, none⟩), .pointer (some ⟨B2, 0, none⟩)] W (WP (l ++ [n]) (MO B1 B2 Bm kind) (some Bm) W) := by
  have hl0 := lt_of_block hi.kind
  have hl1 := lt_of_block hi.mi.box
  have hl2 := hi.mi.own.lt
  have hb2 : Below W.heap.size W (W.alloc (Obj.cells #[.int .i64 kind, .int .i64 n, .string na, .slice b la c] 24)) := (Below.refl _ _).alloc (Nat.le_refl _) _
  have hi2 := hi.next hl0 hl1 hl2 hb2
  have hgb := grown_of_below (m := some Bm) hb2
  have hne := hi.mi.ne
  have hne0 := hi.ne
  obtain ⟨c0, c1, c2, c3⟩ := (two_B4 (W := W) (v0 := .int .i64 kind) (v1 := .int .i64 n) (v2 := .string na) (v3 := .slice b la c)).cells
  have q1 : (kind == kind) = true := by simp
  have e0 := one_cell hi2.kind
  have e1 := one_cell hi2.mi.box
  have HK0 := Lib.hid hi2.kind
  have HB := Lib.hid hi2.mi.box
  have HO := Lib.hid hi2.mi.own
  have HG := Lib.hid hgb
  have HL : Hid (l.length < maxLen) := Lib.hid (by unfold maxLen; omega)
  have HK : Hid (keyOf Try.prog 3 (.int .i64 n) = some (.int .i64 n)) := Lib.hid (keyOf_int_mk Try.underlying3 (int_wf (by omega)))
  clear hb2 hi hi2 hgb hl0 hl1 hl2
  go_enter Try.func95, Try.ntmps95
  go_upto_region 1 with fail
  obtain ⟨W1, hW1⟩ : ∃ W1, W1 = W.alloc (Obj.cells #[.int .i64 kind, .int .i64 n, .string na, .slice b la c] 24) := ⟨_, rfl⟩
  rw [← hW1] at HK0 HB HO HG e0 e1 c0 c1 c2 c3 ⊢
  clear hW1
  go_wp2_with (at_mapUpdate; refine wpList_mapUpdate_own _ rfl _ _ _ 105 rfl 3 4 ikeys Try.underlying105 _ Bm l.length (iset l) rfl HO.out HL.out _ _ (.int .i64 n) rfl rfl HK.out (.lit (.bool true)) [] (plainElem_bool Try.underlying4 true) ?_; intro w1 hown1 hgrow1)
  refine bodyPost_end (results_none (by kernel_rfl)) rfl ?_
  refine ⟨rfl, grown_trans' HG.out hgrow1, (hgrow1.block _ (lt_of_block HK0.out) (fun e => hne0 (by injection e))).trans HK0.out, (hgrow1.block _ (lt_of_block HB.out) (fun e => hne (by injection e))).trans HB.out, ?_⟩
  rw [List.length_append, iset_snoc]
  exact hown1

theorem frF_len (t : Ty) (k : Nat) (l : List Int) : (frF t k l).length ≤ l.length + 1 := by unfold frF; split <;> simp
theorem numF_len (op : Int) (t : Ty) (k : Nat) (l : List Int) : (numF op t k l).length ≤ l.length + 1 := by unfold numF; split <;> simp
theorem good_n {t : Ty} (hg : Good t) : 0 ≤ t.n ∧ t.n ≤ 9999 := by
  cases hg with
  | var op n h1 h2 h3 => exact ⟨h2, h3⟩
  | con s h1 h2 => exact ⟨Int.le_refl 0, by show (0 : Int) ≤ 9999; decide⟩
  | node op x y h hx hy => exact ⟨Int.le_refl 0, by show (0 : Int) ≤ 9999; decide⟩

theorem fr_nodes (B1 Bm : Nat) (w0 : World) (base : Nat) : NodesN List.length 92 #[.pointer (some ⟨B1, 0, none⟩)] frF (MI B1 Bm) (some Bm) w0 base := by
  intro W t v k l hg hv hi _ _ hk hc
  obtain ⟨b, c, ev, _, _⟩ := hv
  subst ev
  have hn := good_n hg
  by_cases h : t.op = 1 ∧ (k : Int) ≤ t.n
  · rw [show frF t k l = l ++ [t.n - k] from if_pos h, h.1]
    exact fr_yes B1 Bm W t.n t.name b t.args.length c k l hi (by omega) hn (by omega) h.2
  · rw [show frF t k l = l from if_neg h]
    exact fr_no B1 Bm W t.op t.n t.name b t.args.length c k l hi h
theorem num_nodes (B1 B2 Bm : Nat) (kind : Int) (w0 : World) (base : Nat) : NodesN List.length 95 #[.pointer (some ⟨B1, 0, none⟩), .pointer (some ⟨B2, 0, none⟩)] (numF kind) (MO B1 B2 Bm kind) (some Bm) w0 base := by
  intro W t v k l hg hv hi _ _ _ hc
  obtain ⟨b, c, ev, _, _⟩ := hv
  subst ev
  have hn := good_n hg
  by_cases h : t.op = kind
  · rw [show numF kind t k l = l ++ [t.n] from if_pos h, h]
    exact num_yes B1 B2 Bm kind W t.n t.name b t.args.length c k l hi (by omega) hn
  · rw [show numF kind t k l = l from if_neg h]
    exact num_no B1 B2 Bm kind W t.op t.n t.name b t.args.length c k l hi h
end Ty
end Go.Proofs.Ytkedhnahgpmkaaa
