/- What the reference's Is returns for a sign. Conditions: none. -/
import Derived.Test.YtcedigkknjioeaaRefK
namespace Go.Proofs.Ytcedigkknjioeaa
open Go.RowKit Go.WideMaps Go.Maps

set_option maxHeartbeats 4000000 in
theorem ris5a (s : ByteArray) (p : Int) (w : World) (hr : hasL Lx.runSigns s.data.toList = true) :
    Calls Try.prog 51 #[.agg #[.int .i64 5, .string s, .int .i64 p]] w fun e w' => e = .returned (.bool true) ∧ Below w.heap.size w w' := by
  have HR := Lib.hid hr
  clear hr
  go_enter Try.func51, Try.ntmps51
  go_wp2_with fail
  obtain ⟨w0, hw0⟩ : ∃ w0, w0 = w.alloc (Obj.cells #[Value.int IntKind.i64 5, Value.string s, Value.int IntKind.i64 p] 45) := ⟨_, rfl⟩
  rw [← hw0]
  have hlt : w.heap.size < w0.heap.size := by rw [hw0]; simp
  have c1 : w0.cell? ⟨w.heap.size, 1, none⟩ = some (.string s) := by
    rw [hw0, cell_of_row (w.alloc _) w.heap.size 1 _ 45 (0, 0) (heap_alloc_new w _)]
    rfl
  have hB0 : Hid (Below w.heap.size w w0) := Lib.hid (by rw [hw0]; exact (Below.refl _ _).alloc (Nat.le_refl _) _)
  clear hw0
  first | (go_region_with (first | (go_at_call 44; refine (rruns _).mono ?_; rintro e w1 ⟨rfl, hcells, hb⟩; have HCE := Lib.hid hcells; have cT := (hb.cell (p := ⟨w.heap.size, 1, none⟩) (by exact hlt)).trans c1; clear hcells) | (go_at_call 39; refine (rhasRunsB true _ _ _ HR.out HCE.out).mono ?_; rintro e w2 ⟨rfl, rfl⟩))) | fail
  all_goals
    go_wp2_with fail
    go_ret
    first
    | exact ⟨rfl, hB0.out.trans (hb.mono (Nat.le_of_lt hlt))⟩
    | exact ⟨rfl, hB0.out.drew.trans (hb.mono (Nat.le_of_lt hlt))⟩

set_option maxHeartbeats 4000000 in
theorem ris5b (s : ByteArray) (p : Int) (w : World) (hr : hasL Lx.runSigns s.data.toList = false) :
    Calls Try.prog 51 #[.agg #[.int .i64 5, .string s, .int .i64 p]] w fun e w' => e = .returned (.bool (hasL Lx.byteSigns s.data.toList)) ∧ Below w.heap.size w w' := by
  have HR := Lib.hid hr
  clear hr
  go_enter Try.func51, Try.ntmps51
  go_wp2_with fail
  obtain ⟨w0, hw0⟩ : ∃ w0, w0 = w.alloc (Obj.cells #[Value.int IntKind.i64 5, Value.string s, Value.int IntKind.i64 p] 45) := ⟨_, rfl⟩
  rw [← hw0]
  have hlt : w.heap.size < w0.heap.size := by rw [hw0]; simp
  have c1 : w0.cell? ⟨w.heap.size, 1, none⟩ = some (.string s) := by
    rw [hw0, cell_of_row (w.alloc _) w.heap.size 1 _ 45 (0, 0) (heap_alloc_new w _)]
    rfl
  have hB0 : Hid (Below w.heap.size w w0) := Lib.hid (by rw [hw0]; exact (Below.refl _ _).alloc (Nat.le_refl _) _)
  clear hw0
  first | (go_region_with (first
    | (go_at_call 44; refine (rruns _).mono ?_; rintro e w1 ⟨rfl, hcells, hb⟩; have HCE := Lib.hid hcells; have hlt1 : w.heap.size < w1.heap.size := Nat.lt_of_lt_of_le hlt hb.size; have cT := (hb.cell (p := ⟨w.heap.size, 1, none⟩) (by exact hlt)).trans c1; have HBB : Hid (Below w.heap.size w w1) := Lib.hid (by first | exact hB0.out.trans (hb.mono (Nat.le_of_lt hlt)) | exact hB0.out.drew.trans (hb.mono (Nat.le_of_lt hlt))); clear hcells hb)
    | (go_at_call 58; refine (rbytes _).mono ?_; rintro e w3 ⟨rfl, hcells3, hb3⟩; have HCB := Lib.hid hcells3; have cT3 := (hb3.cell (p := ⟨w.heap.size, 1, none⟩) (by exact hlt1)).trans cT; have HBC : Hid (Below w.heap.size w w3) := Lib.hid (HBB.out.trans (hb3.mono HBB.out.size)); clear hcells3 hb3)
    | (go_at_call 39; refine (rhasBytes _ _ _ HCB.out).mono ?_; rintro e w2 ⟨rfl, rfl⟩)
    | (go_at_call 39; refine (rhasRunsB false _ _ _ HR.out HCE.out).mono ?_; rintro e w2 ⟨rfl, rfl⟩))) | fail
  all_goals
    go_wp2_with fail
    go_ret
    exact ⟨rfl, HBC.out⟩

end Go.Proofs.Ytcedigkknjioeaa
