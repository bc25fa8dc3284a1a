/- What the reference's Same returns for two lists of tokens that agree. Conditions: both lie in memory. -/
import Derived.Test.YtcedigkknjioeaaAwake
import Derived.Deep.QuietTactic
import Derived.BigQuiet
namespace Go.Proofs.Ytcedigkknjioeaa
open Go.RowKit Go.WideMaps Go.Maps

set_option maxHeartbeats 2000000 in
theorem rsameAt (k : Nat → Int) (q : Nat → ByteArray) (p : Nat → Int) (g1 g2 n c1 c2 : Nat) (w : World) (hn : n ≤ 20000) (hg1 : g1 < w.heap.size) (hg2 : g2 < w.heap.size)
    (h1 : ∀ j, j < n → w.cell? ⟨g1, j * 3, none⟩ = some (.int .i64 (k j)) ∧ w.cell? ⟨g1, j * 3 + 1, none⟩ = some (.string (q j)) ∧ w.cell? ⟨g1, j * 3 + 2, none⟩ = some (.int .i64 (p j)))
    (h2 : ∀ j, j < n → w.cell? ⟨g2, j * 3, none⟩ = some (.int .i64 (k j)) ∧ w.cell? ⟨g2, j * 3 + 1, none⟩ = some (.string (q j)) ∧ w.cell? ⟨g2, j * 3 + 2, none⟩ = some (.int .i64 (p j))) :
    Calls Try.prog 11 #[.slice (some ⟨g1, 0, none⟩) n c1, .slice (some ⟨g2, 0, none⟩) n c2, .bool true] w fun e w' => e = .returned (.bool true) ∧ Below w.heap.size w w' := by
  have H1 := Lib.hid h1
  have H2 := Lib.hid h2
  clear h1 h2
  go_enter Try.func11, Try.ntmps11
  go_wp2_with fail
  go_loopw [15] (fun i wr => ∃ j : Nat, j ≤ n ∧ i = .int .i64 j ∧ Below w.heap.size w wr) (fun i _ => n - (intOf i).toNat)
  case atStart => exact ⟨0, Nat.zero_le _, rfl, Below.refl _ _⟩
  case round =>
    obtain ⟨j, hj, rfl, hb⟩ := hrel
    by_cases hlt : j < n
    · have a1 := (hb.cell (p := ⟨g1, j * 3, none⟩) hg1).trans (H1.out j hlt).1
      have a2 := (hb.cell (p := ⟨g1, j * 3 + 1, none⟩) hg1).trans (H1.out j hlt).2.1
      have a3 := (hb.cell (p := ⟨g1, j * 3 + 2, none⟩) hg1).trans (H1.out j hlt).2.2
      have b1 := (hb.cell (p := ⟨g2, j * 3, none⟩) hg2).trans (H2.out j hlt).1
      have b2 := (hb.cell (p := ⟨g2, j * 3 + 1, none⟩) hg2).trans (H2.out j hlt).2.1
      have b3 := (hb.cell (p := ⟨g2, j * 3 + 2, none⟩) hg2).trans (H2.out j hlt).2.2
      generalize k j = x at *
      generalize q j = y at *
      generalize p j = z at *
      have HB := Lib.hid hb
      clear hb
      have qx : (x != x) = false := by simp
      have qz : (z != z) = false := by simp
      have qy : (y.toList != y.toList) = false := by simp
      go_wp2_with fail
      go_quiet (fail)
      go_wp2_with fail
      go_roundw
      case rel => exact ⟨j + 1, by omega, by go_num, below_drewN HB.out _⟩
      case measure => simp [intOf]; omega
    · go_wp2_with fail
      go_ret
      exact ⟨rfl, hb⟩

set_option maxHeartbeats 2000000 in
theorem rsameNo (k : Nat → Int) (q : Nat → ByteArray) (g1 g2 n c1 c2 : Nat) (w : World) (hn : n ≤ 20000) (hg1 : g1 < w.heap.size) (hg2 : g2 < w.heap.size)
    (h1 : ∀ j, j < n → w.cell? ⟨g1, j * 3, none⟩ = some (.int .i64 (k j)) ∧ w.cell? ⟨g1, j * 3 + 1, none⟩ = some (.string (q j)))
    (h2 : ∀ j, j < n → w.cell? ⟨g2, j * 3, none⟩ = some (.int .i64 (k j)) ∧ w.cell? ⟨g2, j * 3 + 1, none⟩ = some (.string (q j))) :
    Calls Try.prog 11 #[.slice (some ⟨g1, 0, none⟩) n c1, .slice (some ⟨g2, 0, none⟩) n c2, .bool false] w fun e w' => e = .returned (.bool true) ∧ Below w.heap.size w w' := by
  have H1 := Lib.hid h1
  have H2 := Lib.hid h2
  clear h1 h2
  go_enter Try.func11, Try.ntmps11
  go_wp2_with fail
  go_loopw [15] (fun i wr => ∃ j : Nat, j ≤ n ∧ i = .int .i64 j ∧ Below w.heap.size w wr) (fun i _ => n - (intOf i).toNat)
  case atStart => exact ⟨0, Nat.zero_le _, rfl, Below.refl _ _⟩
  case round =>
    obtain ⟨j, hj, rfl, hb⟩ := hrel
    by_cases hlt : j < n
    · have a1 := (hb.cell (p := ⟨g1, j * 3, none⟩) hg1).trans (H1.out j hlt).1
      have a2 := (hb.cell (p := ⟨g1, j * 3 + 1, none⟩) hg1).trans (H1.out j hlt).2
      have b1 := (hb.cell (p := ⟨g2, j * 3, none⟩) hg2).trans (H2.out j hlt).1
      have b2 := (hb.cell (p := ⟨g2, j * 3 + 1, none⟩) hg2).trans (H2.out j hlt).2
      generalize k j = x at *
      generalize q j = y at *
      have HB := Lib.hid hb
      clear hb
      have qx : (x != x) = false := by simp
      have qy : (y.toList != y.toList) = false := by simp
      go_wp2_with fail
      go_quiet (fail)
      go_wp2_with fail
      go_roundw
      case rel => exact ⟨j + 1, by omega, by go_num, below_drewN HB.out _⟩
      case measure => simp [intOf]; omega
    · go_wp2_with fail
      go_ret
      exact ⟨rfl, hb⟩

end Go.Proofs.Ytcedigkknjioeaa
