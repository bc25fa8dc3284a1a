/- What the reference's Is returns for a token of each kind. Conditions: the text is no longer than a string can be. -/
import Derived.Test.YtcedigkknjioeaaRefI
import Derived.Deep.RegionWith
namespace Go.Proofs.Ytcedigkknjioeaa
open Go.RowKit Go.WideMaps Go.Maps

theorem below_box {w w' : World} {o : Obj} (h : Below (w.alloc o).heap.size (w.alloc o) w') : Below w.heap.size w w' :=
  ((Below.refl _ _).alloc (Nat.le_refl _) _).trans (h.mono (by simp))

set_option maxHeartbeats 1000000 in
theorem ris1 (s : ByteArray) (p : Int) (w : World) (hs : s.size ≤ maxLen) :
    Calls Try.prog 51 #[.agg #[.int .i64 1, .string s, .int .i64 p]] w fun e w' => e = .returned (.bool (smallL s.data.toList)) ∧ Below w.heap.size w w' := by
  go_enter Try.func51, Try.ntmps51
  go_wp2_with fail
  refine (rIsSmall _ _ hs).mono ?_
  rintro e w1 ⟨rfl, hb1⟩
  go_wp2_with fail
  go_ret
  exact ⟨rfl, below_box hb1⟩

set_option maxHeartbeats 1000000 in
theorem ris2 (s : ByteArray) (p : Int) (w : World) (hs : s.size ≤ maxLen) :
    Calls Try.prog 51 #[.agg #[.int .i64 2, .string s, .int .i64 p]] w fun e w' => e = .returned (.bool (Lx.isCap s.data.toList)) ∧ Below w.heap.size w w' := by
  go_enter Try.func51, Try.ntmps51
  go_wp2_with fail
  refine (rIsCapital _ _ hs).mono ?_
  rintro e w1 ⟨rfl, rfl⟩
  go_wp2_with fail
  go_ret
  exact ⟨rfl, (Below.refl _ _).alloc (Nat.le_refl _) _⟩

set_option maxHeartbeats 1000000 in
theorem ris3 (s : ByteArray) (p : Int) (w : World) (hs : s.size ≤ maxLen) :
    Calls Try.prog 51 #[.agg #[.int .i64 3, .string s, .int .i64 p]] w fun e w' => e = .returned (.bool (Lx.isOpL s.data.toList)) ∧ Below w.heap.size w w' := by
  go_enter Try.func51, Try.ntmps51
  go_wp2_with fail
  refine (rIsOp _ _ hs).mono ?_
  rintro e w1 ⟨rfl, hb1⟩
  go_wp2_with fail
  go_ret
  exact ⟨rfl, below_box hb1⟩

set_option maxHeartbeats 1000000 in
theorem ris4 (s : ByteArray) (p : Int) (w : World) (hs : s.size ≤ maxLen) :
    Calls Try.prog 51 #[.agg #[.int .i64 4, .string s, .int .i64 p]] w fun e w' => e = .returned (.bool (Lx.isNum s.data.toList)) ∧ Below w.heap.size w w' := by
  go_enter Try.func51, Try.ntmps51
  go_wp2_with fail
  refine (rIsNumber _ _ hs).mono ?_
  rintro e w1 ⟨rfl, rfl⟩
  go_wp2_with fail
  go_ret
  exact ⟨rfl, (Below.refl _ _).alloc (Nat.le_refl _) _⟩

set_option maxHeartbeats 2000000 in
theorem ris6 (s : ByteArray) (p : Int) (w : World) :
    Calls Try.prog 51 #[.agg #[.int .i64 6, .string s, .int .i64 p]] w fun e w' => e = .returned (.bool (hasL Lx.words s.data.toList)) ∧ Below w.heap.size w w' := by
  go_enter Try.func51, Try.ntmps51
  go_wp2_with fail
  obtain ⟨w0, hw0⟩ : ∃ w0, w0 = w.alloc (Obj.cells #[Value.int IntKind.i64 6, Value.string s, Value.int IntKind.i64 p] 45) := ⟨_, rfl⟩
  rw [← hw0]
  have hlt : w.heap.size < w0.heap.size := by rw [hw0]; simp
  have c1 : w0.cell? ⟨w.heap.size, 1, none⟩ = some (.string s) := by
    rw [hw0, cell_of_row (w.alloc _) w.heap.size 1 _ 45 (0, 0) (heap_alloc_new w _)]
    rfl
  have hB0 : Hid (Below w.heap.size w w0) := Lib.hid (by rw [hw0]; exact (Below.refl _ _).alloc (Nat.le_refl _) _)
  clear hw0
  go_region_with (first | (go_at_call 21; refine (rwords _).mono ?_; rintro e w1 ⟨rfl, hcells, hb⟩; have HCE := Lib.hid hcells; have cT := (hb.cell (p := ⟨w.heap.size, 1, none⟩) (by exact hlt)).trans c1; clear hcells) | (go_at_call 39; refine (rhasWords _ _ _ HCE.out).mono ?_; rintro e w2 ⟨rfl, rfl⟩))
  all_goals
    go_wp2_with fail
    go_ret
    first
    | exact ⟨rfl, hB0.out.trans (hb.mono (Nat.le_of_lt hlt))⟩
    | exact ⟨rfl, hB0.out.drew.trans (hb.mono (Nat.le_of_lt hlt))⟩

theorem rhasRunsB (b : Bool) (s : ByteArray) (w0 w : World) (hb : hasL Lx.runSigns s.data.toList = b) (h : ∀ (j : Nat) (l : List UInt8), Lx.runSigns[j]? = some l → w.cell? ⟨w0.heap.size, j, none⟩ = some (.string ⟨l.toArray⟩)) :
    Calls Try.prog 39 #[.slice (some ⟨w0.heap.size, 0, none⟩) 11 11, .string s] w fun e w' => e = .returned (.bool b) ∧ w = w' :=
  (rhasRuns s w0 w h).mono fun e w' ⟨h1, h2⟩ => ⟨by rw [h1, hb], h2⟩

end Go.Proofs.Ytcedigkknjioeaa
