/- What isToken returns. Conditions: the text is no longer than a string can be. -/
import Derived.Test.YtcedigkknjioeaaRefK
import Derived.Test.YtcedigkknjioeaaWords
import Derived.Deep.QuietTactic
import Derived.BigQuiet
namespace Go.Proofs.Ytcedigkknjioeaa
open Go.RowKit Go.WideMaps Go.Maps

def okT (k : Int) (l : List UInt8) : Bool := if k = 7 then l.isEmpty else (decide (k ≠ 0) && decide (k = Lx.kind l))
abbrev WMap (w : World) (b : Nat) : Prop := w.ownsMap Try.prog 9 (plainElem Try.prog 4) b 21 (wset 21)
theorem WMap.next {w w' : World} {b : Nat} (h : WMap w b) (hb : Below w.heap.size w w') : WMap w' b :=
  h.kept (row := none) ⟨hb.os, hb.tape, hb.output, hb.size, fun j hj _ => hb.block j hj⟩ (by simp)

theorem tok_box (w : World) (k : Int) (q : ByteArray) (p : Int) :
    (w.alloc (Obj.cells #[Value.int IntKind.i64 k, Value.string q, Value.int IntKind.i64 p] 45)).cell? ⟨w.heap.size, 0, none⟩ = some (.int .i64 k) ∧
    (w.alloc (Obj.cells #[Value.int IntKind.i64 k, Value.string q, Value.int IntKind.i64 p] 45)).cell? ⟨w.heap.size, 1, none⟩ = some (.string q) ∧
    (w.alloc (Obj.cells #[Value.int IntKind.i64 k, Value.string q, Value.int IntKind.i64 p] 45)).cell? ⟨w.heap.size, 2, none⟩ = some (.int .i64 p) := by
  refine ⟨?_, ?_, ?_⟩
  · rw [cell_of_row (w.alloc _) w.heap.size 0 _ 45 (0, 0) (heap_alloc_new w _)]; rfl
  · rw [cell_of_row (w.alloc _) w.heap.size 1 _ 45 (0, 0) (heap_alloc_new w _)]; rfl
  · rw [cell_of_row (w.alloc _) w.heap.size 2 _ 45 (0, 0) (heap_alloc_new w _)]; rfl

theorem toList_nil (q : ByteArray) : (q.toList == []) = q.data.toList.isEmpty := by
  rw [Lib.toList_data]
  cases q.data.toList <;> rfl

set_option maxHeartbeats 2000000 in
theorem istok7 (q : ByteArray) (p : Int) (w : World) (b : Nat) :
    Calls Try.prog 48 #[.map (some b), .agg #[.int .i64 7, .string q, .int .i64 p]] w fun e w' => e = .returned (.bool q.data.toList.isEmpty) ∧ Below w.heap.size w w' := by
  have hq := Lib.hid (toList_nil q)
  go_enter Try.func48, Try.ntmps48
  go_wp2_with fail
  go_ret
  exact ⟨ret_bool (by first | exact hq.out | (rw [← hq.out]; simp)), (Below.refl _ _).alloc (Nat.le_refl _) _⟩

set_option maxHeartbeats 2000000 in
theorem istok0 (q : ByteArray) (p : Int) (w : World) (b : Nat) :
    Calls Try.prog 48 #[.map (some b), .agg #[.int .i64 0, .string q, .int .i64 p]] w fun e w' => e = .returned (.bool false) ∧ Below w.heap.size w w' := by
  go_enter Try.func48, Try.ntmps48
  go_wp2_with fail
  obtain ⟨c0, c1, c2⟩ := tok_box w 0 q p
  obtain ⟨w0, hw0⟩ : ∃ w0, w0 = w.alloc (Obj.cells #[Value.int IntKind.i64 0, Value.string q, Value.int IntKind.i64 p] 45) := ⟨_, rfl⟩
  have hB0 : Hid (Below w.heap.size w w0) := Lib.hid (by rw [hw0]; exact (Below.refl _ _).alloc (Nat.le_refl _) _)
  rw [← hw0] at c0 c1 c2 ⊢
  clear hw0
  go_quiet (fail)
  go_wp2_with fail
  go_ret
  exact ⟨rfl, below_drewN hB0.out _⟩

set_option maxHeartbeats 2000000 in
theorem istokK (k : Int) (q : ByteArray) (p : Int) (w : World) (b : Nat) (hm : WMap w b) (hs : q.size ≤ maxLen) (h7 : ¬ k = 7) (h0 : ¬ k = 0) (v : Bool) (hv : (k == Lx.kind q.data.toList) = v) :
    Calls Try.prog 48 #[.map (some b), .agg #[.int .i64 k, .string q, .int .i64 p]] w fun e w' => e = .returned (.bool v) ∧ Below w.heap.size w w' := by
  have q7 : (k == 7) = false := by simpa using h7
  have q0 : (k != 0) = true := by simpa using h0
  generalize hkd : Lx.kind q.data.toList = kd at hv
  have HM := Lib.hid (hm.alloc (Obj.cells #[Value.int IntKind.i64 k, Value.string q, Value.int IntKind.i64 p] 45))
  have HS := Lib.hid hs
  have HKD := Lib.hid hkd
  clear hm hs hkd h7 h0
  go_enter Try.func48, Try.ntmps48
  go_wp2_with fail
  obtain ⟨c0, c1, c2⟩ := tok_box w k q p
  obtain ⟨w0, hw0⟩ : ∃ w0, w0 = w.alloc (Obj.cells #[Value.int IntKind.i64 k, Value.string q, Value.int IntKind.i64 p] 45) := ⟨_, rfl⟩
  have hB0 : Hid (Below w.heap.size w w0) := Lib.hid (by rw [hw0]; exact (Below.refl _ _).alloc (Nat.le_refl _) _)
  rw [← hw0] at c0 c1 c2 HM ⊢
  clear hw0
  have HC : Hid (∀ n, Calls Try.prog 30 #[.map (some b), .string q] (w0.drewN n) fun e w' => e = .returned (.int .i64 kd) ∧ w' = w0.drewN n) := Lib.hid (fun n => by
    have := kindOf_any (w := w0.drewN n) (b := b) (by exact HM.out) q HS.out
    rw [HKD.out] at this
    exact this.mono fun e w' ⟨h1, h2⟩ => ⟨h1, h2.symm⟩)
  go_quiet (first | (go_at_call 30; refine Calls.quiet_of_same (HC.out _)))
  go_wp2_with fail
  go_ret
  exact ⟨rfl, below_drewN hB0.out _⟩

theorem istok (k : Int) (q : ByteArray) (p : Int) (w : World) (b : Nat) (hm : WMap w b) (hs : q.size ≤ maxLen) (v : Bool) (hv : okT k q.data.toList = v) :
    Calls Try.prog 48 #[.map (some b), .agg #[.int .i64 k, .string q, .int .i64 p]] w fun e w' => e = .returned (.bool v) ∧ Below w.heap.size w w' := by
  subst hv
  by_cases h7 : k = 7
  · subst h7
    exact istok7 q p w b
  · by_cases h0 : k = 0
    · subst h0
      exact istok0 q p w b
    · refine istokK k q p w b hm hs h7 h0 _ ?_
      unfold okT
      rw [if_neg h7, decide_eq_true (by exact h0)]
      rfl

end Go.Proofs.Ytcedigkknjioeaa
