/- The examples come out: awake returns true. Conditions: none. -/
import Derived.Test.YtcedigkknjioeaaTokens
import Derived.Laws.OwnMore
namespace Go.Proofs.Ytcedigkknjioeaa
open Go.RowKit Go.WideMaps Go.Maps

theorem pure1 : Lx.toksA [102, 32, 120, 32, 61, 32, 120, 43, 43, 121] 0 = ([(1, [102], 0), (1, [120], 2), (5, [61], 4), (1, [120], 6), (3, [43, 43], 7), (1, [121], 9)], none) := by decide +kernel
theorem pure2 : Lx.toksA [48, 49] 0 = ([], some 0) := by decide +kernel
theorem pure3 : Lx.toksA [39, 90] 0 = ([(5, [39], 0), (2, [90], 1)], none) := by decide +kernel

theorem own_slice {w : World} {base n : Nat} {v : Value} {xs : List Value} (h : w.ownsRow base 45 3 v n xs) (hn : 0 < n) :
    ∃ g cap, v = .slice (some ⟨g, 0, none⟩) n cap ∧ base ≤ g ∧ g < w.heap.size ∧ ∀ j, j < n * 3 → w.cell? ⟨g, j, none⟩ = xs[j]? := by
  have h' := h
  obtain ⟨h1, ⟨_, h2⟩ | ⟨g, cap, cur, rfl, r2, r3, _⟩⟩ := h
  · omega
  · exact ⟨g, cap, rfl, r2, lt_of_block r3, fun j hj => h'.cellAt j hj⟩

def Ex1 (w : World) (e : Ending) (w' : World) : Prop := ∃ g cap, e = .returned (.tuple #[.slice (some ⟨g, 0, none⟩) 7 cap, .int .i64 0, .int .i64 0]) ∧ w.heap.size ≤ g ∧ g < w'.heap.size ∧ Below w.heap.size w w' ∧
  w'.cell? ⟨g, 12, none⟩ = some (.int .i64 3) ∧ w'.cell? ⟨g, 13, none⟩ = some (.string ⟨#[43, 43]⟩) ∧ w'.cell? ⟨g, 14, none⟩ = some (.int .i64 7) ∧ w'.cell? ⟨g, 20, none⟩ = some (.int .i64 10)
theorem ex1 (w : World) : Calls Try.prog 9 #[.string { data := #[102, 32, 120, 32, 61, 32, 120, 43, 43, 121] }] w (Ex1 w) :=
  (tokens_any { data := #[102, 32, 120, 32, 61, 32, 120, 43, 43, 121] } w (by decide)).mono fun e w' ⟨hb, h⟩ => by
    rw [show ({ data := #[102, 32, 120, 32, 61, 32, 120, 43, 43, 121] } : ByteArray).data.toList = [102, 32, 120, 32, 61, 32, 120, 43, 43, 121] from rfl, pure1] at h
    obtain ⟨v, rfl, hown⟩ := h
    obtain ⟨g, cap, rfl, h1, h2, h3⟩ := own_slice hown (by decide)
    exact ⟨g, cap, rfl, h1, h2, hb, h3 12 (by decide), h3 13 (by decide), h3 14 (by decide), h3 20 (by decide)⟩

def Ex2 (w : World) (e : Ending) (w' : World) : Prop := e = .returned (.tuple #[.slice none 0 0, .int .i64 0, .int .i64 4]) ∧ Below w.heap.size w w'
theorem ex2 (w : World) : Calls Try.prog 9 #[.string { data := #[48, 49] }] w (Ex2 w) :=
  (tokens_any { data := #[48, 49] } w (by decide)).mono fun e w' ⟨hb, h⟩ => by
    rw [show ({ data := #[48, 49] } : ByteArray).data.toList = [48, 49] from rfl, pure2] at h
    exact ⟨h, hb⟩

def Ex3 (w : World) (e : Ending) (w' : World) : Prop := ∃ g cap, e = .returned (.tuple #[.slice (some ⟨g, 0, none⟩) 3 cap, .int .i64 0, .int .i64 0]) ∧ Below w.heap.size w w' ∧ w'.cell? ⟨g, 0, none⟩ = some (.int .i64 5)
theorem ex3 (w : World) : Calls Try.prog 9 #[.string { data := #[39, 90] }] w (Ex3 w) :=
  (tokens_any { data := #[39, 90] } w (by decide)).mono fun e w' ⟨hb, h⟩ => by
    rw [show ({ data := #[39, 90] } : ByteArray).data.toList = [39, 90] from rfl, pure3] at h
    obtain ⟨v, rfl, hown⟩ := h
    obtain ⟨g, cap, rfl, h1, h2, h3⟩ := own_slice hown (by decide)
    exact ⟨g, cap, rfl, hb, h3 0 (by decide)⟩

set_option maxRecDepth 100000 in
set_option maxHeartbeats 4000000 in
theorem awake_any (w : World) : Calls Try.prog 12 #[] w fun e w' => e = .returned (.bool true) ∧ Below w.heap.size w w' := by
  go_enter Try.func12, Try.ntmps12
  go_wp2_with fail
  refine (ex1 _).mono ?_
  rintro e w1 ⟨g1, cap1, rfl, hg, hg1, hb1, c12, c13, c14, c20⟩
  go_wp2_with fail
  refine (ex2 _).mono ?_
  rintro e w2 ⟨rfl, hb2⟩
  go_wp2_with fail
  refine (ex3 _).mono ?_
  rintro e w3 ⟨g3, cap3, rfl, hb3, d0⟩
  have hsz1 := hb1.size
  have hsz2 := hb2.size
  have hB := Lib.hid ((hb1.trans (hb2.mono hsz1)).trans (hb3.mono (Nat.le_trans hsz1 hsz2)))
  have hcell : ∀ j, w3.cell? ⟨g1, j, none⟩ = w1.cell? ⟨g1, j, none⟩ := fun j => by
    rw [hb3.cell (p := ⟨g1, j, none⟩) (by show g1 < _; omega), hb2.cell (p := ⟨g1, j, none⟩) (by exact hg1)]
  have k12 := (hcell 12).trans c12
  have k13 := (hcell 13).trans c13
  have k14 := (hcell 14).trans c14
  have k20 := (hcell 20).trans c20
  clear hcell c12 c13 c14 c20 hb1 hb2 hb3 hg hg1 hsz1 hsz2
  go_wp2_with fail
  go_ret
  exact ⟨rfl, hB.out⟩

end Go.Proofs.Ytcedigkknjioeaa
