/- What the program's numbersOf, Free, Metas, Rigids, Size and Check return, and the reference's Free, Metas and Rigids. Conditions: the type lies in memory. -/
import Derived.Test.YtkedhnahgpmkaaaTyFree
import Derived.Test.YtkedhnahgpmkaaaTyPSize
import Derived.Test.YtkedhnahgpmkaaaTyType
namespace Go.Proofs.Ytkedhnahgpmkaaa
open Go.RowKit Go.Maps Go.Sort Go.Shelf

namespace Ty
/-- numbers are returned, and no error -/
def NumP (l : List Int) (w : World) (e : Ending) (w' : World) : Prop := ∃ v, e = .returned (.tuple #[v, .int .i64 0]) ∧ OI w.heap.size v l w' ∧ Below w.heap.size w w'
/-- no numbers are returned, and an error -/
def NumBad (w : World) (e : Ending) (w' : World) : Prop := e = .returned (.tuple #[.slice none 0 0, .int .i64 2]) ∧ Below w.heap.size w w'

theorem op_boxes (w : World) (v0 v1 v2 v3 u : Value) : B4 ((w.alloc (Obj.cells #[v0, v1, v2, v3] 24)).alloc (Obj.cells #[u] 3)) w.heap.size v0 v1 v2 v3 ∧ ((w.alloc (Obj.cells #[v0, v1, v2, v3] 24)).alloc (Obj.cells #[u] 3)).heap[w.heap.size + 1]? = some (Obj.cells #[u] 3) := by
  refine ⟨(two_B4 (W := w) (v0 := v0) (v1 := v1) (v2 := v2) (v3 := v3)).next ((Below.refl _ _).alloc (Nat.le_refl _) _), ?_⟩
  have := heap_alloc_new (w.alloc (Obj.cells #[v0, v1, v2, v3] 24)) (Obj.cells #[u] 3)
  rw [show (w.alloc (Obj.cells #[v0, v1, v2, v3] 24)).heap.size = w.heap.size + 1 from by simp] at this
  exact this

set_option maxHeartbeats 4000000 in
theorem nums_bad (t : Ty) (hp : isProper t = false) (op : Int) (v : Value) (w : World) (hv : V w t v) : Calls Try.prog 55 #[v, .int .i64 op] w (NumBad w) := by
  have hty := fun W (hb : Below w.heap.size w W) => ptype_any t v W (hv.next hb)
  rw [hp] at hty
  obtain ⟨b, c, ev, _, _⟩ := hv
  subst ev
  obtain ⟨hc, _⟩ := op_boxes w (.int .i64 t.op) (.int .i64 t.n) (.string t.name) (.slice b t.args.length c) (.int .i64 op)
  have hb2 := below_two w (Obj.cells #[.int .i64 t.op, .int .i64 t.n, .string t.name, .slice b t.args.length c] 24) (Obj.cells #[.int .i64 op] 3)
  obtain ⟨c0, c1, c2, c3⟩ := hc.cells
  have HB := Lib.hid hb2
  have HT := Lib.hid hty
  clear hty hb2 hc hp
  go_enter Try.func55, Try.ntmps55
  go_wp2_with fail
  refine (HT.out _ HB.out).mono ?_
  rintro e w2 ⟨rfl, hb⟩
  have HB2 := Lib.hid (HB.out.trans (hb.mono HB.out.size))
  clear hb
  go_wp2_with fail
  go_ret2
  exact ⟨rfl, HB2.out⟩

set_option maxHeartbeats 4000000 in
theorem nums_ok (t : Ty) (hp : isProper t = true) (op : Int) (hop : op ≠ 1) (v : Value) (w : World) (hv : V w t v) : Calls Try.prog 55 #[v, .int .i64 op] w (NumP (colT op t) w) := by
  have hg := Good.of hp
  have hn := proper_nodes t hp
  have hty := fun W (hb : Below w.heap.size w W) => ptype_any t v W (hv.next hb)
  rw [hp] at hty
  have hcall := fun (w2 W : World) (hb0 : Below w.heap.size w w2) (h2 : w.heap.size + 2 ≤ w2.heap.size) (hk : w2.heap[w.heap.size + 1]? = some (.cells #[.int .i64 op] 3 (0, 0))) (hb : Below w2.heap.size w2 W) (hs : w2.heap.size + 2 ≤ W.heap.size) (hi : MI (w2.heap.size + 1) w2.heap.size W []) =>
    visN_of (walk_95 (B1 := w.heap.size + 1) (B2 := w2.heap.size + 1) (f := numF op) (cf := List.length) (I := MO (w.heap.size + 1) (w2.heap.size + 1) w2.heap.size op) (m := some w2.heap.size) (w0 := w2) (base := w2.heap.size + 2) (num_nodes _ _ _ _ _ _) (fun W W' st hi hb => hi.next (by omega) (by omega) (by omega) hb) (fun j hj => by injection hj with hj; omega) (numF_len op) t hg) (fun W W' st hi hb => hi.next (by omega) (by omega) (by omega) hb) v [] W (hv.next hb0) hb hs ⟨(hb.block _ (by omega)).trans hk, hi⟩ (by omega) (by simp; omega)
  have hlen := Nat.le_trans (num_len op hg) hn
  rw [← num_asc hop hg]
  obtain ⟨L, hL⟩ : ∃ L, L = wlk (numF op) t 0 [] := ⟨_, rfl⟩
  rw [← hL] at hcall hlen ⊢
  obtain ⟨b, c, ev, _, _⟩ := hv
  subst ev
  obtain ⟨hc, hob⟩ := op_boxes w (.int .i64 t.op) (.int .i64 t.n) (.string t.name) (.slice b t.args.length c) (.int .i64 op)
  have hb2 := below_two w (Obj.cells #[.int .i64 t.op, .int .i64 t.n, .string t.name, .slice b t.args.length c] 24) (Obj.cells #[.int .i64 op] 3)
  have hsz : ((w.alloc (Obj.cells #[.int .i64 t.op, .int .i64 t.n, .string t.name, .slice b t.args.length c] 24)).alloc (Obj.cells #[.int .i64 op] 3)).heap.size = w.heap.size + 2 := by simp
  obtain ⟨c0, c1, c2, c3⟩ := hc.cells
  have HX := Lib.hid hc
  have HOB := Lib.hid hob
  have HB := Lib.hid hb2
  have HSZ := Lib.hid hsz
  have HT := Lib.hid hty
  have HC := Lib.hid hcall
  have HTL := Lib.hid (fun (W : World) (B Bm : Nat) (h : MI B Bm W L) => tail_any h hlen)
  clear hty hb2 hc hp hcall hob hL hlen hg hn hop hsz
  go_enter Try.func55, Try.ntmps55
  go_wp2_with fail
  refine (HT.out _ HB.out).mono ?_
  rintro e w2 ⟨rfl, hb⟩
  have HB2 := Lib.hid (HB.out.trans (hb.mono HB.out.size))
  have HX2 := Lib.hid (HX.out.next hb)
  have HS2 : Hid (w.heap.size + 2 ≤ w2.heap.size) := Lib.hid (by have := hb.size; have := HSZ.out; omega)
  have HOB2 : Hid (w2.heap[w.heap.size + 1]? = some (.cells #[.int .i64 op] 3 (0, 0))) := Lib.hid ((hb.block _ (by have := HSZ.out; omega)).trans HOB.out)
  clear hb c0 c1 c2 c3 HX HB HOB HSZ HT
  have hmade := map_made w2
  have hbm := below_two w2 (.map #[] 0) (Obj.cells #[.map (some w2.heap.size)] 105)
  have hs3 : ((w2.alloc (.map #[] 0)).alloc (Obj.cells #[.map (some w2.heap.size)] 105)).heap.size = w2.heap.size + 2 := by simp
  have HC2 := Lib.hid (HC.out w2 _ HB2.out HS2.out HOB2.out hbm (by rw [hs3]; exact Nat.le_refl _) hmade)
  have HB3 := Lib.hid hbm
  obtain ⟨c0, c1, c2, c3⟩ := (HX2.out.next hbm).cells
  have hmm := @run_makeMap Try.prog
  clear hmade hbm hs3 HC
  go_wp2_with fail
  refine HC2.out.mono ?_
  rintro e w3 ⟨rfl, hgr, hi⟩
  have HB4 : Hid (Below w.heap.size w w3) := Lib.hid (HB2.out.trans ((grown_below' HB3.out hgr (fun j hj => by injection hj with hj; omega)).mono HB2.out.size))
  have e1 := one_cell hi.mi.box
  have HI := Lib.hid hi.mi
  clear hgr hi c0 c1 c2 c3 hmm HC2 HB3
  go_wp2_with fail
  refine (keys_any _ _).mono ?_
  rintro e w4 ⟨rfl, hw4⟩
  rw [hw4]
  clear hw4 e1
  go_wp2_with fail
  refine (HTL.out _ _ _ HI.out).mono ?_
  rintro e w5 ⟨rv, rfl, ho, hb⟩
  have HO := Lib.hid (ho.base HB4.out.size)
  have HB5 : Hid (Below w.heap.size w w5) := Lib.hid ((HB4.out.alloc HB4.out.size _).trans (hb.mono (by have := HB4.out.size; simp; omega)))
  clear ho hb
  go_wp2_with fail
  go_ret2
  exact ⟨_, rfl, HO.out, HB5.out⟩
end Ty
end Go.Proofs.Ytkedhnahgpmkaaa
