/- What the closure of Tokens does: it hands out the next bytes and moves on. Conditions: its two variables lie in memory, the bytes are there. -/
import Derived.Test.YtcedigkknjioeaaWords
namespace Go.Proofs.Ytcedigkknjioeaa
open Go.RowKit Go.WideMaps Go.Maps

/-- what Tokens keeps in memory: the source, the position, the words -/
structure TI (B0 BM BA : Nat) (s : ByteArray) (a : Nat) (w : World) : Prop where
  h1 : B0 < BM
  h2 : BM < BA
  src : w.heap[B0]? = some (.cells #[.string s] 9 (0, 0))
  pos : w.heap[BA]? = some (.cells #[.int .i64 a] 3 (0, 0))
  map : w.ownsMap Try.prog 9 (plainElem Try.prog 4) BM 21 (wset 21)

theorem grown_setCell (w : World) (b : Nat) (u : Value) : w.grownBy (w.setCell ⟨b, 0, none⟩ u) (some b) :=
  ⟨rfl, rfl, rfl, by show w.heap.size ≤ (w.heap.modify b _).size; simp, fun k _ hk => Below.heap_setCell _ _ _ _ (fun e => hk (by rw [e]))⟩

theorem TI.grown {B0 BM BA a : Nat} {s : ByteArray} {w w' : World} {row : Option Nat} (h : TI B0 BM BA s a w) (hg : w.grownBy w' row) (hr : ∀ k, row = some k → BA < k) : TI B0 BM BA s a w' := by
  have q1 := h.h1
  have q2 := h.h2
  refine ⟨q1, q2, ?_, ?_, h.map.kept hg (fun e => by have := hr _ e.symm; omega)⟩
  · rw [hg.block B0 (lt_of_block h.src) (fun e => by have := hr _ e.symm; omega)]; exact h.src
  · rw [hg.block BA (lt_of_block h.pos) (fun e => by have := hr _ e.symm; omega)]; exact h.pos

theorem TI.move {B0 BM BA a : Nat} {s : ByteArray} {w : World} (h : TI B0 BM BA s a w) (n : Nat) : TI B0 BM BA s n (w.setCell ⟨BA, 0, none⟩ (.int .i64 n)) := by
  have q1 := h.h1
  have q2 := h.h2
  refine ⟨q1, q2, ?_, one_setCell h.pos, h.map.kept (grown_setCell w BA _) (by simp; omega)⟩
  rw [Below.heap_setCell _ _ _ _ (by show B0 ≠ BA; omega)]
  exact h.src

set_option maxHeartbeats 1000000 in
theorem step_any {B0 BM BA a : Nat} {s : ByteArray} {w : World} (h : TI B0 BM BA s a w) (n : Nat) (hs : s.size ≤ maxLen) (hn : a + n ≤ s.size) :
    Calls Try.prog 27 #[.int .i64 n, .pointer (some ⟨BA, 0, none⟩), .pointer (some ⟨B0, 0, none⟩)] w fun e w' => e = .returned (.string (s.extract a (a + n))) ∧ w' = w.setCell ⟨BA, 0, none⟩ (.int .i64 ((a + n : Nat) : Int)) := by
  unfold maxLen at hs
  have c1 := cell_of_one h.src
  have c2 := cell_of_one h.pos
  have f2 := free_of_one h.pos
  have hne : B0 ≠ BA := by have := h.h1; have := h.h2; omega
  clear h
  go_enter Try.func27, Try.ntmps27
  go_wp2
  go_ret
  exact ⟨rfl, rfl⟩

end Go.Proofs.Ytcedigkknjioeaa
