/- What the program's freeNumbers, numbersOf, Free, Metas, Rigids, Size and Check return. Conditions: the type lies in memory. -/
import Derived.Test.YtkedhnahgpmkaaaTyNums
import Derived.Test.YtkedhnahgpmkaaaTySorted
import Derived.Test.YtkedhnahgpmkaaaTyAsc
namespace Go.Proofs.Ytkedhnahgpmkaaa
open Go.RowKit Go.Maps Go.Sort Go.Shelf

namespace Ty
theorem keys_any (mb : Option Nat) (W : World) : Calls Try.prog 94 #[.map mb] W fun e w' => e = .returned (.func (.func 121) #[] #[.pointer (some ⟨W.heap.size, 0, none⟩)]) ∧ w' = W.alloc (.cells #[.map mb] 105) :=
  (callsIn_wide (n := 5)).1 (AnyZI.keys_in Try.laysKeys Fence.wide 5 trivial rfl mb W)
theorem sorts_in (m : Nat) : AnyZI.SortsIn Try.prog Try.sorted_ren Fence.wide m :=
  ⟨fun blk off cap ss W hH hblk hsz => callsIn_wide.2 (AnyM.slices_Sort_int Try.laysSort blk off cap ss W hH hblk hsz),
   fun p cap W => callsIn_wide.2 (AnyM.slices_Sort_int_none Try.laysSort p cap W)⟩

/-- what Sorted leaves for the keys of a set -/
def SortedP (D : DataW Unit) (W : World) (e : Ending) (w' : World) : Prop := ∃ (v : Value) (ss : List Int), e = .returned v ∧ ss.Perm (intKeys D) ∧ OI W.heap.size v (ss.mergeSort (fun x y => decide (x ≤ y))) w' ∧ Below W.heap.size W w'

set_option maxHeartbeats 2000000 in
theorem sorted_any (b nn : Nat) (D : DataW Unit) (W : World) (p : Nat) (hp : W.cell? ⟨p, 0, none⟩ = some (.map (some b))) (hlt : p < W.heap.size) (hown : W.ownsMap Try.prog 3 (plainElem Try.prog 4) b nn D) (hmax : Maps.size D ≤ 1000000) :
    Calls Try.prog 93 #[.func (.func 121) #[] #[.pointer (some ⟨p, 0, none⟩)]] W (SortedP D W) := by
  have hseq : SeqGives Fence.wide 2 Try.prog 121 #[.pointer (some ⟨p, 0, none⟩)] encZ (fun ss => ss.Perm (intKeys D)) (Maps.size D) W :=
    AnyZI.keys_gives (ρ := Try.keys_ren) { Try.laysKeys with } Fence.wide _ trivial rfl (by omega) p b nn D W hlt hp hown
  have cS := AnyZI.sorted_in Try.laysSorted Fence.wide 5 trivial trivial trivial trivial rfl (by omega) (sorts_in _) (enters_of Try.func120 (by kernel_rfl) rfl) 121 #[.pointer (some ⟨p, 0, none⟩)] trivial (enters_of Try.func121 (by kernel_rfl) rfl) _ _ (by unfold maxLen; omega) (by omega) _ hseq
  refine ((callsIn_wide (n := 5)).1 cS).mono fun e w' ⟨v, ss, h1, h2, h3, _, h5⟩ => ⟨v, ss, h1, h2, ?_, h5⟩
  exact OI.mk h3 (by rw [List.length_mergeSort]) rfl

theorem OI.isl {b : Nat} {v : Value} {l : List Int} {w : World} (h : OI b v l w) (hl : l.length ≤ 100000) : ∃ base cap, v = .slice base l.length cap ∧ ISl w base l := by
  have h0 := h
  obtain ⟨h1, h2⟩ := h
  rcases h2 with ⟨rfl, hn⟩ | ⟨g, cap, cur, rfl, hg, hh, hc, _⟩
  · exact ⟨none, 0, by rw [hn], by unfold maxLen; omega, .inl (List.eq_nil_of_length_eq_zero hn)⟩
  · refine ⟨some ⟨g, 0, none⟩, cap, rfl, by unfold maxLen; omega, .inr ⟨g, 0, rfl, fun i hi => ?_⟩⟩
    have := World.ownsRow.cells h0 (g := g) rfl i (encI (l[i]'hi)) (by rw [List.getElem?_map, List.getElem?_eq_getElem hi]; rfl)
    rwa [Addr.add_lit] at this

theorem fr_len {t : Ty} (hg : Good t) : (wlk frF t 0 []).length ≤ nodes t := by have := wlk_len (f := frF) frF_len hg 0 []; simpa using this
theorem num_len (op : Int) {t : Ty} (hg : Good t) : (wlk (numF op) t 0 []).length ≤ nodes t := by have := wlk_len (f := numF op) (numF_len op) hg 0 []; simpa using this

/-- three blocks: what was there, an empty map, a box that leads to it -/
theorem map_made (w : World) : MI (w.heap.size + 1) w.heap.size ((w.alloc (.map #[] 0)).alloc (Obj.cells #[.map (some w.heap.size)] 105)) [] := by
  refine ⟨?_, (World.ownsMap_made w Try.prog 3 (plainElem Try.prog 4)).alloc _⟩
  have := heap_alloc_new (w.alloc (.map #[] 0)) (Obj.cells #[.map (some w.heap.size)] 105)
  rw [show (w.alloc (.map #[] 0)).heap.size = w.heap.size + 1 from by simp] at this
  exact this

/-- behind the walk: the keys, sorted -/
theorem tail_any {L : List Int} {B Bm : Nat} {W : World} (hmi : MI B Bm W L) (hn : L.length ≤ 600) : Calls Try.prog 93 #[.func (.func 121) #[] #[.pointer (some ⟨W.heap.size, 0, none⟩)]] (W.alloc (.cells #[.map (some Bm)] 105)) (AddP W.heap.size (ascOf L) (W.alloc (.cells #[.map (some Bm)] 105))) := by
  have hown := hmi.own.alloc (.cells #[.map (some Bm)] 105)
  have hc : (W.alloc (.cells #[.map (some Bm)] 105)).cell? ⟨W.heap.size, 0, none⟩ = some (.map (some Bm)) := one_cell (heap_alloc_new W _)
  refine (sorted_any Bm L.length (iset L) _ W.heap.size hc (by simp) hown (Nat.le_trans hown.size_le (by omega))).mono fun e w' ⟨v, ss, h1, h2, h3, h4⟩ => ⟨v, h1, ?_, h4⟩
  rw [sorted_asc h2] at h3
  exact h3.base (by simp)

set_option maxHeartbeats 4000000 in
theorem free_nums (t : Ty) (hg : Good t) (hn : nodes t ≤ 600) (v : Value) (w : World) (hv : V w t v) : Calls Try.prog 54 #[v] w (AddP w.heap.size (colT 1 t) w) := by
  have hcall := fun (W : World) (hb : Below w.heap.size w W) (hs : w.heap.size + 3 ≤ W.heap.size) (hi : MI (w.heap.size + 2) (w.heap.size + 1) W []) => visN_of (walk_92 (B1 := w.heap.size + 2) (f := frF) (cf := List.length) (I := MI (w.heap.size + 2) (w.heap.size + 1)) (m := some (w.heap.size + 1)) (w0 := w) (base := w.heap.size + 3) (fr_nodes _ _ _ _) (fun W W' st hi hb => hi.next (by omega) (by omega) hb) (fun j hj => by injection hj with hj; omega) frF_len t hg) (fun W W' st hi hb => hi.next (by omega) (by omega) hb) v [] W hv hb hs hi (by omega) (by simp; omega)
  have hlen := Nat.le_trans (fr_len hg) hn
  rw [← fr_asc hg]
  obtain ⟨L, hL⟩ : ∃ L, L = wlk frF t 0 [] := ⟨_, rfl⟩
  rw [← hL] at hcall hlen ⊢
  obtain ⟨b, c, ev, _, _⟩ := hv
  subst ev
  have hb1 : Below w.heap.size w (w.alloc (Obj.cells #[.int .i64 t.op, .int .i64 t.n, .string t.name, .slice b t.args.length c] 24)) := (Below.refl _ _).alloc (Nat.le_refl _) _
  obtain ⟨W1, hW1⟩ : ∃ W, W = w.alloc (Obj.cells #[.int .i64 t.op, .int .i64 t.n, .string t.name, .slice b t.args.length c] 24) := ⟨_, rfl⟩
  have hc0 : B4 W1 w.heap.size (.int .i64 t.op) (.int .i64 t.n) (.string t.name) (.slice b t.args.length c) := by rw [hW1]; exact two_B4
  have hs1 : W1.heap.size = w.heap.size + 1 := by rw [hW1]; simp
  rw [← hW1] at hb1
  have hmade := map_made W1
  have hb2 := below_two W1 (.map #[] 0) (Obj.cells #[.map (some W1.heap.size)] 105)
  rw [hs1] at hmade hb2
  have hs3 : ((W1.alloc (.map #[] 0)).alloc (Obj.cells #[.map (some (w.heap.size + 1))] 105)).heap.size = w.heap.size + 3 := by simp [hs1]
  have HC := Lib.hid (hcall _ (hb1.trans (hb2.mono (by omega))) (by rw [hs3]; exact Nat.le_refl _) hmade)
  have hc2 := hc0.next (show Below W1.heap.size W1 _ from by rw [hs1]; exact hb2)
  have HB3 := Lib.hid (hb1.trans (hb2.mono (by omega)))
  have hmm := @run_makeMap Try.prog
  have HS1 := Lib.hid hs1
  have HT := Lib.hid (fun (W : World) (h : MI (w.heap.size + 2) (w.heap.size + 1) W L) => tail_any h hlen)
  obtain ⟨c0, c1, c2, c3⟩ := hc2.cells
  have HC2 := Lib.hid hc2
  clear hcall hb1 hmade hb2 hc0 hs3 hc2 hL hlen hs1
  go_enter Try.func54, Try.ntmps54
  go_upto_region 1 with fail
  rw [← hW1]
  clear hW1
  have HS1' := HS1.out
  go_wp2_with fail
  clear HS1'
  refine HC.out.mono ?_
  rintro e w2 ⟨rfl, hgr, hi⟩
  have HB : Hid (Below w.heap.size w w2) := Lib.hid (grown_below' HB3.out hgr (fun j hj => by injection hj with hj; omega))
  have e1 : w2.cell? ⟨w.heap.size + 1 + 1, 0, none⟩ = _ := one_cell hi.box
  have HI := Lib.hid hi
  clear hgr hi c0 c1 c2 c3 HC2 hmm
  go_wp2_with fail
  refine (keys_any _ _).mono ?_
  rintro e w3 ⟨rfl, hw3⟩
  rw [hw3]
  clear hw3 e1
  go_wp2_with fail
  refine (HT.out _ HI.out).mono ?_
  rintro e w4 ⟨rv, rfl, ho, hb⟩
  have HO := Lib.hid (ho.base HB.out.size)
  have HB4 : Hid (Below w.heap.size w w4) := Lib.hid ((HB.out.alloc HB.out.size _).trans (hb.mono (by have := HB.out.size; simp; omega)))
  clear ho hb
  go_wp2_with fail
  go_ret
  exact ⟨_, rfl, HO.out, HB4.out⟩
end Ty
end Go.Proofs.Ytkedhnahgpmkaaa
