/- What Words returns: all words, ascending. Conditions: none. -/
import Derived.Test.YtcedigkknjioeaaRefN
import Derived.Test.YtcedigkknjioeaaSort
import Derived.Maps.RangeWalk
import Derived.Sort.KeysCollected
import Derived.Sort.OwnSorted
import Derived.Maps.AppendAt
import Derived.Deep.QuietTactic
import Derived.BigQuiet
namespace Go.Proofs.Ytcedigkknjioeaa
open Go.RowKit Go.WideMaps Go.Maps Go.Sort

theorem Try.info9 : (Try.prog.info? 9).map (fun i => (i.zero, i.size, i.bytes)) = some (some (.string ⟨#[]⟩), 1, 16) := by kernel_rfl

theorem keys_words : strKeys (wset 21) = Lx.words := by decide +kernel
theorem words_sorted : (strKeys (wset 21)).mergeSort (fun x y => decide (x ≤ y)) = Lx.words := by
  rw [keys_words]
  exact List.mergeSort_of_pairwise (by decide +kernel)

def boolV (n : Nat) : Value := .bool (n == 1)
theorem boolV_of (v : Value) (y : DataW Unit × List MemPlace) (h : plainElem Try.prog 4 v = some y) : ∃ c, v = boolV c := by
  obtain ⟨x, rfl, _⟩ := plainElem_bool_inv Try.underlying4 h
  cases x
  · exact ⟨0, rfl⟩
  · exact ⟨1, rfl⟩
theorem words_size : Maps.size (wset 21) = 21 := by decide +kernel

theorem sorted_words {ss : List (List UInt8)} (h : ss.Perm (strKeys (wset 21))) : ss.mergeSort (fun x y => decide (x ≤ y)) = Lx.words ∧ ss.length = 21 := by
  have h1 : ss.mergeSort (fun x y => decide (x ≤ y)) = Lx.words := (mergeSort_of_perm h).trans words_sorted
  refine ⟨h1, ?_⟩
  rw [← List.length_mergeSort (le := fun x y => decide (x ≤ y)) ss, h1]
  rfl

set_option maxRecDepth 100000 in
set_option maxHeartbeats 2000000 in
theorem words_any (w : World) : Calls Try.prog 20 #[] w fun e w' => ∃ g cap, e = .returned (.slice (some ⟨g, 0, none⟩) 21 cap) ∧ (∀ (j : Nat) (l : List UInt8), Lx.words[j]? = some l → w'.cell? ⟨g, j, none⟩ = some (.string ⟨l.toArray⟩)) ∧ g < w'.heap.size ∧ Below w.heap.size w w' := by
  obtain ⟨i0, hi, hz0, hz1, hz2⟩ := info_parts Try.info9
  have hsz := words_size
  have HSZ := Lib.hid hsz
  clear hsz
  go_enter Try.func20, Try.ntmps20
  go_wp2_with fail
  refine (wordSet_any _).mono ?_
  rintro e w1 ⟨rfl, hws⟩
  have hown := hws.1
  have hbl := hown.lt
  have hnx1 := hws.2.1
  clear hws
  go_wp2_with (at_range; refine wpList_range_own _ rfl _ 48 rfl 9 4 keys Try.underlying48 _ w.heap.size 21 _ rfl hown ?_; intro w0 hrg0 hg0 hs0)
  go_frame
  have hs1 : w1.heap.size + 1 ≤ w0.heap.size := by omega
  clear hs0
  go_loopw [1] (fun v wr => ∃ (left : Lit → Bool) (cnt : Nat) (ss : List (List UInt8)), wr.ranges Try.prog 9 (plainElem Try.prog 4) w.heap.size w1.heap.size 21 (wset 21) left cnt ∧ ss.length + cnt ≤ 21 ∧
      wr.ownsRow (w1.heap.size + 1) 9 1 v ss.length (ss.map encStr) ∧ Collected (wset 21) left ss ∧ Below w.heap.size w wr ∧ w1.heap.size + 1 ≤ wr.heap.size)
    (fun _ wr => wr.rangeLeft w.heap.size w1.heap.size)
  case atStart =>
    exact ⟨_, _, [], hrg0, by rw [HSZ.out]; simp, World.ownsRow_nil _ _ _ _, Collected.start _, hnx1.grown hg0 hnx1.size (fun j hj => by cases hj), hs1⟩
  case round =>
    obtain ⟨left, cnt, ss, hrg, hcs, hrow, hC, hnx, hup⟩ := hrel
    go_wp2_with (at_next; refine wpList_next_ranges _ rfl _ rfl 9 keys (plainElem Try.prog 4) encStr boolV (fun key kl hk => by obtain ⟨x, hx, _⟩ := Maps.keyOf_str Try.underlying9 hk; exact ⟨x, hx⟩) boolV_of w.heap.size w1.heap.size 21 _ _ _ rfl hrg ?_ ?_)
    · intro hc0 hl0
      obtain ⟨hsort, hlen⟩ := sorted_words (hC.perm hown keys Try.underlying9 hl0)
      have HL := Lib.hid hlen
      have HS := Lib.hid hsort
      rcases hrow.2 with ⟨_, h0⟩ | ⟨g, cap, cur, rfl, hbase, hb, h1, h2, h3, h4⟩
      · rw [hlen] at h0
        cases h0
      have hH : Holds encStr wr g 0 ss.toArray := holds_of_block hb (by simpa using h4)
      have hgl : g < wr.heap.size := (Array.getElem?_eq_some_iff.1 hb).1
      have hc := Try.slices_Sort_string g 0 cap ss wr hH hgl (by omega)
      have HC := Lib.hid hc
      have HB := Lib.hid hb
      have H4 := Lib.hid h4
      clear hlen hsort hc hc0 hl0 hb h4 hH
      go_wp2_with (go_at_call 45; refine HC.out.mono ?_; rintro e w' ⟨rfl, nn, os, rfl⟩)
      go_ret
      have ho := ownsRow_sorted (w := wr) (n := nn) (os := os) (ss := ss) (ts := ss.mergeSort fun x y => decide (x ≤ y)) (by simp) hbase HB.out h1 h2 h3
      rw [HS.out, HL.out] at ho
      refine ⟨g, cap, by rw [HL.out]; rfl, fun j l hj => ?_, ?_, hnx.grown (grownBy_sorted _) hnx.size (fun j hj => by cases hj; omega)⟩
      · have hj2 : j < 21 := by
          rcases Nat.lt_or_ge j 21 with h | h
          · exact h
          · rw [List.getElem?_eq_none h] at hj
            cases hj
        rw [HS.out, ho.cellAt j (by omega), List.getElem?_map, hj]
        rfl
      · rw [HS.out]
        exact (ho.lt g rfl).2
    · intro x c kl yd yp w2 cnt2 hkey hlk hv hat hrg2 hlt hg2 hs2 hen
      obtain ⟨x', ex, rfl, _⟩ := Maps.keyOf_str Try.underlying9 hkey
      obtain rfl : x = x' := encStr_inj ex
      have hrow2 := hrow.kept hg2 (Or.inr (row_ne_iter hrow hrg).symm)
      clear hs2
      go_wp2_with (at_builtin; refine wpList_append_own _ rfl _ _ 32 rfl (w1.heap.size + 1) 9 i0 (.string ⟨#[]⟩) 1 16 Try.underlying32 hi hz0 hz1 hz2 rfl (by decide) _ _ _ rfl (hrow2.alloc _) ⟨w2.heap.size, 0, none⟩ 1 1 [encStr x] rfl rfl (cell_one_new _ _ _) (by simp [Value.oneCell', encStr]) (by unfold maxLen at *; omega) (by omega) (by have := hg2.size; simp; omega) ?_; intro v' w3 hown' hg3 hnil3; go_frame)
      have hrg3 := (hrg2.alloc _).kept hg3 (row_ne_low hrow2 (by omega)) (row_ne_iter hrow2 hrg2)
      go_roundw
      case rel =>
        refine ⟨_, cnt2, ss ++ [x], hrg3, by simp; omega, by simpa using hown', hC.step hlk hat, ?_, ?_⟩
        · exact ((hnx.grown hg2 hnx.size (fun j hj => by cases hj; omega)).alloc (by have := hnx.size; have := hg2.size; omega) _).grown hg3 (by have := hnx.size; have := hg2.size; simp; omega) (fun j hj => by have := (hrow2.lt j hj).1; omega)
        · have := hg3.size; have := hg2.size; simp at *; omega
      case measure => rw [hrg3.left_eq, hrg.left_eq]; exact hlt

set_option maxHeartbeats 1000000 in
theorem rsameStrings (f : Nat → ByteArray) (g1 g2 n c1 c2 : Nat) (w : World) (hn : n ≤ 1000) (hg1 : g1 < w.heap.size) (hg2 : g2 < w.heap.size)
    (h1 : ∀ j, j < n → w.cell? ⟨g1, j, none⟩ = some (.string (f j))) (h2 : ∀ j, j < n → w.cell? ⟨g2, j, none⟩ = some (.string (f j))) :
    Calls Try.prog 19 #[.slice (some ⟨g1, 0, none⟩) n c1, .slice (some ⟨g2, 0, none⟩) n c2] w fun e w' => e = .returned (.bool true) ∧ Below w.heap.size w w' := by
  have H1 := Lib.hid h1
  have H2 := Lib.hid h2
  clear h1 h2
  go_enter Try.func19, Try.ntmps19
  go_wp2_with fail
  go_loopw [13] (fun i wr => ∃ k : Nat, k ≤ n ∧ i = .int .i64 k ∧ Below w.heap.size w wr) (fun i _ => n - (intOf i).toNat)
  case atStart => exact ⟨0, Nat.zero_le _, rfl, Below.refl _ _⟩
  case round =>
    obtain ⟨k, hk, rfl, hb⟩ := hrel
    by_cases hlt : k < n
    · have k1 : wr.cell? ⟨g1, k, none⟩ = some (.string (f k)) := (hb.cell (p := ⟨g1, k, none⟩) hg1).trans (H1.out k hlt)
      have k2 : wr.cell? ⟨g2, k, none⟩ = some (.string (f k)) := (hb.cell (p := ⟨g2, k, none⟩) hg2).trans (H2.out k hlt)
      generalize f k = x at k1 k2
      have HB := Lib.hid hb
      clear hb
      go_wp2_with fail
      go_quiet (fail)
      go_wp2_with fail
      go_roundw
      case rel => exact ⟨k + 1, by omega, by go_num, below_drewN HB.out _⟩
      case measure => simp [intOf]; omega
    · go_wp2_with fail
      go_ret
      exact ⟨rfl, hb⟩

end Go.Proofs.Ytcedigkknjioeaa
