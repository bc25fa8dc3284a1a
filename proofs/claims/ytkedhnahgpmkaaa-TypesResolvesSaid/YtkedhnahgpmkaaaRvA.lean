/- Texts of the law TypesResolves, joined. -/
import Derived.Test.YtkedhnahgpmkaaaTyFree
import Derived.Test.YtkedhnahgpmkaaaTyWalk
import Derived.Test.YtkedhnahgpmkaaaTyShl
import Derived.Test.YtkedhnahgpmkaaaTyType
import Derived.Test.YtkedhnahgpmkaaaTyMisc
import Derived.Deep.RegionHeld3
import Derived.Laws.Cover1
import Derived.Test.YtkedhnahgpmkaaaTyAnew
import Derived.Test.YtkedhnahgpmkaaaTyNums
import Derived.Test.YtkedhnahgpmkaaaTyRebA
import Derived.Test.YtkedhnahgpmkaaaTySpine
import Derived.Test.YtkedhnahgpmkaaaTyRS
import Derived.Deep.DeepCutAuto
import Derived.IntWalk
import Derived.Test.YtkedhnahgpmkaaaTyPut
import Derived.Test.YtkedhnahgpmkaaaTyAwake
import Derived.Deep.AppendLies

/- What the program's numbersOf, Free, Metas, Rigids, Size and Check return, and the reference's Free, Metas and Rigids. Conditions: the type lies in memory. -/
namespace Go.Proofs.Ytkedhnahgpmkaaa
open Go.RowKit Go.Maps Go.Sort Go.Shelf

namespace Ty
/-- numbers are returned, and no error -/
def NumP (l : List Int) (w : World) (e : Ending) (w' : World) : Prop := ∃ v, e = .returned (.tuple #[v, .int .i64 0]) ∧ OI w.heap.size v l w' ∧ Below w.heap.size w w'
/-- no numbers are returned, and an error -/
def NumBad (w : World) (e : Ending) (w' : World) : Prop := e = .returned (.tuple #[.slice none 0 0, .int .i64 2]) ∧ Below w.heap.size w w'

theorem op_boxes (w : World) (v0 v1 v2 v3 u : Value) : B4 ((w.alloc (Obj.cells #[v0, v1, v2, v3] 24)).alloc (Obj.cells #[u] 3)) w.heap.size v0 v1 v2 v3 ∧ ((w.alloc (Obj.cells #[v0, v1, v2, v3] 24)).alloc (Obj.cells #[u] 3)).heap[w.heap.size + 1]? = some (Obj.cells #[u] 3) := by
  refine ⟨(two_B4 (W := w) (v0 := v0) (v1 := v1) (v2 := v2) (v3 := v3)).next ((Below.refl _ _).alloc (Nat.le_refl _) _), ?_⟩
  have := heap_alloc_new (w.alloc (Obj.cells #[v0, v1, v2, v3] 24)) (Obj.cells #[u] 3)
  rw [show (w.alloc (Obj.cells #[v0, v1, v2, v3] 24)).heap.size = w.heap.size + 1 from by simp] at this
  exact this

set_option maxHeartbeats 4000000 in
theorem nums_bad (t : Ty) (hp : isProper t = false) (op : Int) (v : Value) (w : World) (hv : V w t v) : Calls Try.prog 55 #[v, .int .i64 op] w (NumBad w) := by
  have hty := fun W (hb : Below w.heap.size w W) => ptype_any t v W (hv.next hb)
  rw [hp] at hty
  obtain ⟨b, c, ev, _, _⟩ := hv
  subst ev
  obtain ⟨hc, _⟩ := op_boxes w (.int .i64 t.op) (.int .i64 t.n) (.string t.name) (.slice b t.args.length c) (.int .i64 op)
  have hb2 := below_two w (Obj.cells #[.int .i64 t.op, .int .i64 t.n, .string t.name, .slice b t.args.length c] 24) (Obj.cells #[.int .i64 op] 3)
  obtain ⟨c0, c1, c2, c3⟩ := hc.cells
  have HB := Lib.hid hb2
  have HT := Lib.hid hty
  clear hty hb2 hc hp
  go_enter Try.func55, Try.ntmps55
  go_wp2_with fail
  refine (HT.out _ HB.out).mono ?_
  rintro e w2 ⟨rfl, hb⟩
  have HB2 := Lib.hid (HB.out.trans (hb.mono HB.out.size))
  clear hb
  go_wp2_with fail
  go_ret2
  exact ⟨rfl, HB2.out⟩

set_option maxHeartbeats 4000000 in
theorem nums_ok (t : Ty) (hp : isProper t = true) (op : Int) (hop : op ≠ 1) (v : Value) (w : World) (hv : V w t v) : Calls Try.prog 55 #[v, .int .i64 op] w (NumP (colT op t) w) := by
  have hg := Good.of hp
  have hn := proper_nodes t hp
  have hty := fun W (hb : Below w.heap.size w W) => ptype_any t v W (hv.next hb)
  rw [hp] at hty
  have hcall := fun (w2 W : World) (hb0 : Below w.heap.size w w2) (h2 : w.heap.size + 2 ≤ w2.heap.size) (hk : w2.heap[w.heap.size + 1]? = some (.cells #[.int .i64 op] 3 (0, 0))) (hb : Below w2.heap.size w2 W) (hs : w2.heap.size + 2 ≤ W.heap.size) (hi : MI (w2.heap.size + 1) w2.heap.size W []) =>
    visN_of (walk_95 (B1 := w.heap.size + 1) (B2 := w2.heap.size + 1) (f := numF op) (cf := List.length) (I := MO (w.heap.size + 1) (w2.heap.size + 1) w2.heap.size op) (m := some w2.heap.size) (w0 := w2) (base := w2.heap.size + 2) (num_nodes _ _ _ _ _ _) (fun W W' st hi hb => hi.next (by omega) (by omega) (by omega) hb) (fun j hj => by injection hj with hj; omega) (numF_len op) t hg) (fun W W' st hi hb => hi.next (by omega) (by omega) (by omega) hb) v [] W (hv.next hb0) hb hs ⟨(hb.block _ (by omega)).trans hk, hi⟩ (by omega) (by simp; omega)
  have hlen := Nat.le_trans (num_len op hg) hn
  rw [← num_asc hop hg]
  obtain ⟨L, hL⟩ : ∃ L, L = wlk (numF op) t 0 [] := ⟨_, rfl⟩
  rw [← hL] at hcall hlen ⊢
  obtain ⟨b, c, ev, _, _⟩ := hv
  subst ev
  obtain ⟨hc, hob⟩ := op_boxes w (.int .i64 t.op) (.int .i64 t.n) (.string t.name) (.slice b t.args.length c) (.int .i64 op)
  have hb2 := below_two w (Obj.cells #[.int .i64 t.op, .int .i64 t.n, .string t.name, .slice b t.args.length c] 24) (Obj.cells #[.int .i64 op] 3)
  have hsz : ((w.alloc (Obj.cells #[.int .i64 t.op, .int .i64 t.n, .string t.name, .slice b t.args.length c] 24)).alloc (Obj.cells #[.int .i64 op] 3)).heap.size = w.heap.size + 2 := by simp
  obtain ⟨c0, c1, c2, c3⟩ := hc.cells
  have HX := Lib.hid hc
  have HOB := Lib.hid hob
  have HB := Lib.hid hb2
  have HSZ := Lib.hid hsz
  have HT := Lib.hid hty
  have HC := Lib.hid hcall
  have HTL := Lib.hid (fun (W : World) (B Bm : Nat) (h : MI B Bm W L) => tail_any h hlen)
  clear hty hb2 hc hp hcall hob hL hlen hg hn hop hsz
  go_enter Try.func55, Try.ntmps55
  go_wp2_with fail
  refine (HT.out _ HB.out).mono ?_
  rintro e w2 ⟨rfl, hb⟩
  have HB2 := Lib.hid (HB.out.trans (hb.mono HB.out.size))
  have HX2 := Lib.hid (HX.out.next hb)
  have HS2 : Hid (w.heap.size + 2 ≤ w2.heap.size) := Lib.hid (by have := hb.size; have := HSZ.out; omega)
  have HOB2 : Hid (w2.heap[w.heap.size + 1]? = some (.cells #[.int .i64 op] 3 (0, 0))) := Lib.hid ((hb.block _ (by have := HSZ.out; omega)).trans HOB.out)
  clear hb c0 c1 c2 c3 HX HB HOB HSZ HT
  have hmade := map_made w2
  have hbm := below_two w2 (.map #[] 0) (Obj.cells #[.map (some w2.heap.size)] 105)
  have hs3 : ((w2.alloc (.map #[] 0)).alloc (Obj.cells #[.map (some w2.heap.size)] 105)).heap.size = w2.heap.size + 2 := by simp
  have HC2 := Lib.hid (HC.out w2 _ HB2.out HS2.out HOB2.out hbm (by rw [hs3]; exact Nat.le_refl _) hmade)
  have HB3 := Lib.hid hbm
  obtain ⟨c0, c1, c2, c3⟩ := (HX2.out.next hbm).cells
  have hmm := @run_makeMap Try.prog
  clear hmade hbm hs3 HC
  go_wp2_with fail
  refine HC2.out.mono ?_
  rintro e w3 ⟨rfl, hgr, hi⟩
  have HB4 : Hid (Below w.heap.size w w3) := Lib.hid (HB2.out.trans ((grown_below' HB3.out hgr (fun j hj => by injection hj with hj; omega)).mono HB2.out.size))
  have e1 := one_cell hi.mi.box
  have HI := Lib.hid hi.mi
  clear hgr hi c0 c1 c2 c3 hmm HC2 HB3
  go_wp2_with fail
  refine (keys_any _ _).mono ?_
  rintro e w4 ⟨rfl, hw4⟩
  rw [hw4]
  clear hw4 e1
  go_wp2_with fail
  refine (HTL.out _ _ _ HI.out).mono ?_
  rintro e w5 ⟨rv, rfl, ho, hb⟩
  have HO := Lib.hid (ho.base HB4.out.size)
  have HB5 : Hid (Below w.heap.size w w5) := Lib.hid ((HB4.out.alloc HB4.out.size _).trans (hb.mono (by have := HB4.out.size; simp; omega)))
  clear ho hb
  go_wp2_with fail
  go_ret2
  exact ⟨_, rfl, HO.out, HB5.out⟩
end Ty
end Go.Proofs.Ytkedhnahgpmkaaa

/- What the program's Metas and the reference's Free and Metas return. Conditions: the type lies in memory. -/
namespace Go.Proofs.Ytkedhnahgpmkaaa
open Go.RowKit

namespace Ty
set_option maxHeartbeats 4000000 in
theorem Free_bad (t : Ty) (hp : isProper t = false) (v : Value) (w : World) (hv : V w t v) : Calls Try.prog 12 #[v] w (NumBad w) := by
  have hty := fun W (hb : Below w.heap.size w W) => ptype_any t v W (hv.next hb)
  rw [hp] at hty
  have HT := Lib.hid hty
  clear hty hp
  obtain ⟨b, c, ev, _, _⟩ := hv
  subst ev
  have hb1 : Below w.heap.size w (w.alloc (Obj.cells #[.int .i64 t.op, .int .i64 t.n, .string t.name, .slice b t.args.length c] 24)) := (Below.refl _ _).alloc (Nat.le_refl _) _
  have hbox := two_B4 (W := w) (v0 := .int .i64 t.op) (v1 := .int .i64 t.n) (v2 := .string t.name) (v3 := .slice b t.args.length c)
  have HB1 := Lib.hid hb1
  have HX := Lib.hid hbox
  obtain ⟨c0, c1, c2, c3⟩ := hbox.cells
  clear hb1 hbox
  go_enter Try.func12, Try.ntmps12
  go_wp2_with fail
  refine (HT.out _ HB1.out).mono ?_
  rintro e w2 ⟨rfl, hb⟩
  have HB2 := Lib.hid (HB1.out.trans (hb.mono HB1.out.size))
  clear hb
  go_wp2_with fail
  go_ret2
  exact ⟨rfl, HB2.out⟩
set_option maxHeartbeats 4000000 in
theorem Free_ok (t : Ty) (hp : isProper t = true) (v : Value) (w : World) (hv : V w t v) : Calls Try.prog 12 #[v] w (NumP (colT 1 t) w) := by
  have hty := fun W (hb : Below w.heap.size w W) => ptype_any t v W (hv.next hb)
  have hfr := fun W (hb : Below w.heap.size w W) => free_nums t (Good.of hp) (proper_nodes t hp) v W (hv.next hb)
  rw [hp] at hty
  have HT := Lib.hid hty
  have HF := Lib.hid hfr
  clear hty hp hfr
  obtain ⟨b, c, ev, _, _⟩ := hv
  subst ev
  have hb1 : Below w.heap.size w (w.alloc (Obj.cells #[.int .i64 t.op, .int .i64 t.n, .string t.name, .slice b t.args.length c] 24)) := (Below.refl _ _).alloc (Nat.le_refl _) _
  have hbox := two_B4 (W := w) (v0 := .int .i64 t.op) (v1 := .int .i64 t.n) (v2 := .string t.name) (v3 := .slice b t.args.length c)
  have HB1 := Lib.hid hb1
  have HX := Lib.hid hbox
  obtain ⟨c0, c1, c2, c3⟩ := hbox.cells
  clear hb1 hbox
  go_enter Try.func12, Try.ntmps12
  go_wp2_with fail
  refine (HT.out _ HB1.out).mono ?_
  rintro e w2 ⟨rfl, hb⟩
  have HB2 := Lib.hid (HB1.out.trans (hb.mono HB1.out.size))
  obtain ⟨c0, c1, c2, c3⟩ := (HX.out.next hb).cells
  clear hb
  go_wp2_with fail
  refine (HF.out _ HB2.out).mono ?_
  rintro e w3 ⟨rv, rfl, ho, hb⟩
  have HO := Lib.hid (ho.base HB2.out.size)
  have HB3 := Lib.hid (HB2.out.trans (hb.mono HB2.out.size))
  clear hb ho
  go_wp2_with fail
  go_ret2
  exact ⟨_, rfl, HO.out, HB3.out⟩

set_option maxHeartbeats 4000000 in
theorem Metas_bad (t : Ty) (hp : isProper t = false) (v : Value) (w : World) (hv : V w t v) : Calls Try.prog 13 #[v] w (NumBad w) := by
  have HN := Lib.hid (fun W (hb : Below w.heap.size w W) => nums_bad t hp 6 v W (hv.next hb))
  obtain ⟨b, c, ev, _, _⟩ := hv
  subst ev
  have hb1 : Below w.heap.size w (w.alloc (Obj.cells #[.int .i64 t.op, .int .i64 t.n, .string t.name, .slice b t.args.length c] 24)) := (Below.refl _ _).alloc (Nat.le_refl _) _
  have hbox := two_B4 (W := w) (v0 := .int .i64 t.op) (v1 := .int .i64 t.n) (v2 := .string t.name) (v3 := .slice b t.args.length c)
  have HB1 := Lib.hid hb1
  have HX := Lib.hid hbox
  obtain ⟨c0, c1, c2, c3⟩ := hbox.cells
  clear hb1 hbox
  go_enter Try.func13, Try.ntmps13
  go_wp2_with fail
  refine (HN.out _ HB1.out).mono ?_
  rintro e w2 ⟨rfl, hb⟩
  have HB2 := Lib.hid (HB1.out.trans (hb.mono HB1.out.size))
  clear hb
  go_wp2_with fail
  go_ret2
  exact ⟨rfl, HB2.out⟩
set_option maxHeartbeats 4000000 in
theorem Metas_ok (t : Ty) (hp : isProper t = true) (v : Value) (w : World) (hv : V w t v) : Calls Try.prog 13 #[v] w (NumP (colT 6 t) w) := by
  have HN := Lib.hid (fun W (hb : Below w.heap.size w W) => nums_ok t hp 6 (by omega) v W (hv.next hb))
  obtain ⟨b, c, ev, _, _⟩ := hv
  subst ev
  have hb1 : Below w.heap.size w (w.alloc (Obj.cells #[.int .i64 t.op, .int .i64 t.n, .string t.name, .slice b t.args.length c] 24)) := (Below.refl _ _).alloc (Nat.le_refl _) _
  have hbox := two_B4 (W := w) (v0 := .int .i64 t.op) (v1 := .int .i64 t.n) (v2 := .string t.name) (v3 := .slice b t.args.length c)
  have HB1 := Lib.hid hb1
  have HX := Lib.hid hbox
  obtain ⟨c0, c1, c2, c3⟩ := hbox.cells
  clear hb1 hbox
  go_enter Try.func13, Try.ntmps13
  go_wp2_with fail
  refine (HN.out _ HB1.out).mono ?_
  rintro e w2 ⟨rv, rfl, ho, hb⟩
  have HO := Lib.hid (ho.base HB1.out.size)
  have HB2 := Lib.hid (HB1.out.trans (hb.mono HB1.out.size))
  clear hb ho
  go_wp2_with fail
  go_ret2
  exact ⟨_, rfl, HO.out, HB2.out⟩

set_option maxHeartbeats 4000000 in
theorem Rigids_bad (t : Ty) (hp : isProper t = false) (v : Value) (w : World) (hv : V w t v) : Calls Try.prog 14 #[v] w (NumBad w) := by
  have HN := Lib.hid (fun W (hb : Below w.heap.size w W) => nums_bad t hp 7 v W (hv.next hb))
  obtain ⟨b, c, ev, _, _⟩ := hv
  subst ev
  have hb1 : Below w.heap.size w (w.alloc (Obj.cells #[.int .i64 t.op, .int .i64 t.n, .string t.name, .slice b t.args.length c] 24)) := (Below.refl _ _).alloc (Nat.le_refl _) _
  have hbox := two_B4 (W := w) (v0 := .int .i64 t.op) (v1 := .int .i64 t.n) (v2 := .string t.name) (v3 := .slice b t.args.length c)
  have HB1 := Lib.hid hb1
  have HX := Lib.hid hbox
  obtain ⟨c0, c1, c2, c3⟩ := hbox.cells
  clear hb1 hbox
  go_enter Try.func14, Try.ntmps14
  go_wp2_with fail
  refine (HN.out _ HB1.out).mono ?_
  rintro e w2 ⟨rfl, hb⟩
  have HB2 := Lib.hid (HB1.out.trans (hb.mono HB1.out.size))
  clear hb
  go_wp2_with fail
  go_ret2
  exact ⟨rfl, HB2.out⟩
set_option maxHeartbeats 4000000 in
theorem Rigids_ok (t : Ty) (hp : isProper t = true) (v : Value) (w : World) (hv : V w t v) : Calls Try.prog 14 #[v] w (NumP (colT 7 t) w) := by
  have HN := Lib.hid (fun W (hb : Below w.heap.size w W) => nums_ok t hp 7 (by omega) v W (hv.next hb))
  obtain ⟨b, c, ev, _, _⟩ := hv
  subst ev
  have hb1 : Below w.heap.size w (w.alloc (Obj.cells #[.int .i64 t.op, .int .i64 t.n, .string t.name, .slice b t.args.length c] 24)) := (Below.refl _ _).alloc (Nat.le_refl _) _
  have hbox := two_B4 (W := w) (v0 := .int .i64 t.op) (v1 := .int .i64 t.n) (v2 := .string t.name) (v3 := .slice b t.args.length c)
  have HB1 := Lib.hid hb1
  have HX := Lib.hid hbox
  obtain ⟨c0, c1, c2, c3⟩ := hbox.cells
  clear hb1 hbox
  go_enter Try.func14, Try.ntmps14
  go_wp2_with fail
  refine (HN.out _ HB1.out).mono ?_
  rintro e w2 ⟨rv, rfl, ho, hb⟩
  have HO := Lib.hid (ho.base HB1.out.size)
  have HB2 := Lib.hid (HB1.out.trans (hb.mono HB1.out.size))
  clear hb ho
  go_wp2_with fail
  go_ret2
  exact ⟨_, rfl, HO.out, HB2.out⟩

set_option maxHeartbeats 4000000 in
theorem RFree_any (t : Ty) (hg : Good t) (hn : nodes t ≤ 600) (v : Value) (w : World) (hv : V w t v) : Calls Try.prog 20 #[v] w (AddP w.heap.size (colT 1 t) w) := by
  have HC := Lib.hid (fun W (hb : Below w.heap.size w W) => col_any 1 (by omega) t hg v 0 w.heap.size (.slice none 0 0) [] W (hv.next hb) (World.ownsRow_nil _ _ _ _) hb.size (by omega) (by simp; omega))
  clear hg hn
  obtain ⟨b, c, ev, _, _⟩ := hv
  subst ev
  have hb1 : Below w.heap.size w (w.alloc (Obj.cells #[.int .i64 t.op, .int .i64 t.n, .string t.name, .slice b t.args.length c] 24)) := (Below.refl _ _).alloc (Nat.le_refl _) _
  have hbox := two_B4 (W := w) (v0 := .int .i64 t.op) (v1 := .int .i64 t.n) (v2 := .string t.name) (v3 := .slice b t.args.length c)
  have HB1 := Lib.hid hb1
  have HX := Lib.hid hbox
  obtain ⟨c0, c1, c2, c3⟩ := hbox.cells
  clear hb1 hbox
  go_enter Try.func20, Try.ntmps20
  go_wp2_with fail
  refine (HC.out _ HB1.out).mono ?_
  rintro e w2 ⟨rv, rfl, ho, hb⟩
  have HO := Lib.hid ho
  have HB2 := Lib.hid (HB1.out.trans (hb.mono HB1.out.size))
  clear hb ho
  go_wp2_with fail
  go_ret
  exact ⟨_, rfl, HO.out, HB2.out⟩

set_option maxHeartbeats 4000000 in
theorem RMetas_any (t : Ty) (hg : Good t) (hn : nodes t ≤ 600) (v : Value) (w : World) (hv : V w t v) : Calls Try.prog 21 #[v] w (AddP w.heap.size (colT 6 t) w) := by
  have HC := Lib.hid (fun W (hb : Below w.heap.size w W) => col_any 6 (by omega) t hg v 0 w.heap.size (.slice none 0 0) [] W (hv.next hb) (World.ownsRow_nil _ _ _ _) hb.size (by omega) (by simp; omega))
  clear hg hn
  obtain ⟨b, c, ev, _, _⟩ := hv
  subst ev
  have hb1 : Below w.heap.size w (w.alloc (Obj.cells #[.int .i64 t.op, .int .i64 t.n, .string t.name, .slice b t.args.length c] 24)) := (Below.refl _ _).alloc (Nat.le_refl _) _
  have hbox := two_B4 (W := w) (v0 := .int .i64 t.op) (v1 := .int .i64 t.n) (v2 := .string t.name) (v3 := .slice b t.args.length c)
  have HB1 := Lib.hid hb1
  have HX := Lib.hid hbox
  obtain ⟨c0, c1, c2, c3⟩ := hbox.cells
  clear hb1 hbox
  go_enter Try.func21, Try.ntmps21
  go_wp2_with fail
  refine (HC.out _ HB1.out).mono ?_
  rintro e w2 ⟨rv, rfl, ho, hb⟩
  have HO := Lib.hid ho
  have HB2 := Lib.hid (HB1.out.trans (hb.mono HB1.out.size))
  clear hb ho
  go_wp2_with fail
  go_ret
  exact ⟨_, rfl, HO.out, HB2.out⟩

set_option maxHeartbeats 4000000 in
theorem RRigids_any (t : Ty) (hg : Good t) (hn : nodes t ≤ 600) (v : Value) (w : World) (hv : V w t v) : Calls Try.prog 22 #[v] w (AddP w.heap.size (colT 7 t) w) := by
  have HC := Lib.hid (fun W (hb : Below w.heap.size w W) => col_any 7 (by omega) t hg v 0 w.heap.size (.slice none 0 0) [] W (hv.next hb) (World.ownsRow_nil _ _ _ _) hb.size (by omega) (by simp; omega))
  clear hg hn
  obtain ⟨b, c, ev, _, _⟩ := hv
  subst ev
  have hb1 : Below w.heap.size w (w.alloc (Obj.cells #[.int .i64 t.op, .int .i64 t.n, .string t.name, .slice b t.args.length c] 24)) := (Below.refl _ _).alloc (Nat.le_refl _) _
  have hbox := two_B4 (W := w) (v0 := .int .i64 t.op) (v1 := .int .i64 t.n) (v2 := .string t.name) (v3 := .slice b t.args.length c)
  have HB1 := Lib.hid hb1
  have HX := Lib.hid hbox
  obtain ⟨c0, c1, c2, c3⟩ := hbox.cells
  clear hb1 hbox
  go_enter Try.func22, Try.ntmps22
  go_wp2_with fail
  refine (HC.out _ HB1.out).mono ?_
  rintro e w2 ⟨rv, rfl, ho, hb⟩
  have HO := Lib.hid ho
  have HB2 := Lib.hid (HB1.out.trans (hb.mono HB1.out.size))
  clear hb ho
  go_wp2_with fail
  go_ret
  exact ⟨_, rfl, HO.out, HB2.out⟩
end Ty
end Go.Proofs.Ytkedhnahgpmkaaa

/- Plain: what numbers need, over any number of steps, and when none needs itself. Conditions: none. -/
namespace Go.Proofs.Ytkedhnahgpmkaaa
open Go.RowKit Go.Maps

namespace Ty
section
variable (adj : Nat → List Nat)
/-- whatever n leads to comes to an end -/
abbrev Ac (n : Nat) : Prop := Acc (fun k m => k ∈ adj m) n
/-- b needs a, over some steps -/
inductive Way : Nat → Nat → Prop where
  | one {a b : Nat} : a ∈ adj b → Way a b
  | more {a b c : Nat} : Way a b → b ∈ adj c → Way a c
variable {adj}
theorem Way.trans {a b : Nat} (h : Way adj a b) : ∀ {c : Nat}, Way adj b c → Way adj a c := by
  intro c k
  induction k with
  | one h2 => exact .more h h2
  | more _ h2 ih => exact .more ih h2
theorem Way.last {a c : Nat} (h : Way adj a c) : a ∈ adj c ∨ ∃ b, Way adj a b ∧ b ∈ adj c := by
  cases h with
  | one h => exact .inl h
  | more h k => exact .inr ⟨_, h, k⟩
theorem ac_no {n : Nat} (h : Ac adj n) : ¬ Way adj n n := by
  induction h with
  | intro n _ ih =>
    intro hw
    rcases hw.last with h1 | ⟨b, h1, h2⟩
    · exact ih n h1 hw
    · exact ih b h2 ((Way.one h2).trans h1)
theorem ac_of {n : Nat} (h : ∀ k ∈ adj n, Ac adj k) : Ac adj n := Acc.intro n h
/-- what is settled, when whatever is not settled needs something that is not, is all that comes to an end -/
theorem settled_all {len : Nat} {S : Nat → Bool} (hin : ∀ i, i < len → ∀ k ∈ adj i, k < len) (hcl : ∀ i, i < len → S i = false → ∃ k ∈ adj i, S k = false) {n : Nat} (h : Ac adj n) : n < len → S n = true := by
  induction h with
  | intro n _ ih =>
    intro hn
    cases hs : S n with
    | true => rfl
    | false =>
      obtain ⟨k, hk, h2⟩ := hcl n hn hs
      rw [ih k hk (hin n hn k hk)] at h2
      cases h2

/-- the marks of a search: what has been begun, and what has been done -/
structure DS (adj : Nat → List Nat) (bg dn : List Nat) : Prop where
  sub : ∀ d ∈ dn, d ∈ bg
  fin : ∀ d ∈ dn, Ac adj d
/-- how many numbers are not begun -/
def lft (len : Nat) (bg : List Nat) : Nat := (List.range len).countP (fun i => decide (i ∉ bg))
theorem lft_le (len : Nat) (bg : List Nat) : lft len bg ≤ len := by unfold lft; have := List.countP_le_length (p := fun i => decide (i ∉ bg)) (l := List.range len); simpa using this
theorem lft_mono {len : Nat} {bg bg' : List Nat} (h : ∀ x ∈ bg, x ∈ bg') : lft len bg' ≤ lft len bg := by
  unfold lft
  exact List.countP_mono_left (fun x _ hx => by simp only [decide_eq_true_eq] at hx ⊢; exact fun h2 => hx (h x h2))
theorem countP_lt {α : Type} {p q : α → Bool} : ∀ {l : List α}, (∀ x ∈ l, q x = true → p x = true) → (∃ x ∈ l, p x = true ∧ q x = false) → l.countP q < l.countP p
  | [], _, h => by obtain ⟨x, hx, _⟩ := h; cases hx
  | a :: l, h1, h2 => by
    have hle : l.countP q ≤ l.countP p := List.countP_mono_left (fun x hx => h1 x (by simp [hx]))
    rw [List.countP_cons, List.countP_cons]
    obtain ⟨x, hx, hp, hq⟩ := h2
    rcases List.mem_cons.mp hx with rfl | hx
    · rw [hp, hq]; simp; omega
    · have := countP_lt (fun x hx => h1 x (by simp [hx])) ⟨x, hx, hp, hq⟩
      have h3 : (if q a = true then 1 else 0) ≤ (if p a = true then 1 else 0) := by
        by_cases hqa : q a = true
        · rw [if_pos hqa, if_pos (h1 a (by simp) hqa)]; omega
        · rw [if_neg hqa]; omega
      omega
theorem lft_lt {len n : Nat} {bg : List Nat} (hn : n < len) (h : n ∉ bg) : lft len (n :: bg) < lft len bg := by
  unfold lft
  refine countP_lt (fun x _ hx => ?_) ⟨n, by simpa using hn, by simpa using h, by simp⟩
  simp only [decide_eq_true_eq, List.mem_cons, not_or] at hx ⊢
  exact hx.2
end

/-! sets of numbers in a map -/
def nset (l : List Nat) : DataW Unit := setOf (.lit (.bool true)) (l.reverse.map (fun n : Nat => Lit.int .i64 n))
theorem nset_cons (l : List Nat) (x : Nat) : nset (x :: l) = (nset l).put (.int .i64 x) (.lit (.bool true)) := by
  unfold nset
  rw [List.reverse_cons, List.map_append, List.map_singleton, setOf_snoc]
theorem nlit_key (n : Nat) : WideAt.IsKeyLit (.int .i64 (n : Int)) := by simp [WideAt.IsKeyLit]
theorem nset_tidy (l : List Nat) : Tidy (nset l) := tidy_setOf _ _ (fun x hx => by obtain ⟨n, _, rfl⟩ := List.mem_map.mp hx; exact nlit_key n)
theorem nset_map (l : List Nat) : IsMap (nset l) := by obtain ⟨es, h, _⟩ := nset_tidy l; exact ⟨es, h⟩
theorem nset_at (l : List Nat) (x : Nat) : (nset l).atKey (.int .i64 x) (.lit (.bool false)) = .lit (.bool (decide (x ∈ l))) := by
  induction l with
  | nil => rfl
  | cons y l ih =>
    rw [nset_cons]
    by_cases h : x = y
    · subst h
      rw [atKey_put_same (nset_map l) (nlit_key x)]
      simp
    · rw [atKey_put_other (by intro e; injection e with _ e; exact h (by omega)), ih]
      simp [h]
theorem bool_inv {P : Program} {e : TypeId} (he : P.underlying e = some .bool) {v : Value} {z : DataW Unit × List MemPlace} (h : plainElem P e v = some z) : ∃ x, v = .bool x ∧ z = (.lit (.bool x), []) := by
  unfold plainElem at h
  rw [he] at h
  cases v <;> simp at h
  exact ⟨_, rfl, h.symm⟩
/-- m[n] in such a map -/
theorem nset_look {w : World} {b k : Nat} {l : List Nat} (h : w.ownsMap Try.prog 3 (plainElem Try.prog 4) b k (nset l)) (n : Nat) (hn : n ≤ 1000000) :
    (Instr.lookup 105 (.map (some b)) (.int .i64 n) false).run Try.prog w = .ok (.bool (decide (n ∈ l))) w := by
  obtain ⟨v, ps, hrun, hv⟩ := h.lookup ikeys Try.underlying105 (z := .bool false) (zd := .lit (.bool false)) (zp := []) (by kernel_rfl) (plainElem_bool Try.underlying4 false) (keyOf_int_mk Try.underlying3 (int_wf (a := n) (by omega)))
  rw [nset_at] at hv
  generalize decide (n ∈ l) = c at hv ⊢
  obtain ⟨x, rfl, hx⟩ := bool_inv Try.underlying4 hv
  have h2 : c = x := by simpa using congrArg Prod.fst hx
  rw [h2, hrun]
end Ty
end Go.Proofs.Ytkedhnahgpmkaaa

/- What stands in memory while a type is built anew by a closure that keeps a state in memory of its own. Conditions: none. -/
namespace Go.Proofs.Ytkedhnahgpmkaaa
open Go.RowKit

namespace Ty
/-- what lies below lo, and what lies from hi on, stays -/
structure Gr (lo hi : Nat) (a b : World) : Prop where
  os : b.os = a.os
  tape : b.tape = a.tape
  output : b.output = a.output
  size : a.heap.size ≤ b.heap.size
  block : ∀ j, j < a.heap.size → (j < lo ∨ hi ≤ j) → b.heap[j]? = a.heap[j]?
theorem Gr.of {lo hi : Nat} {a b : World} (h : Below a.heap.size a b) : Gr lo hi a b := ⟨h.os, h.tape, h.output, h.size, fun j hj _ => h.block j hj⟩
theorem Gr.refl (lo hi : Nat) (a : World) : Gr lo hi a a := ⟨rfl, rfl, rfl, Nat.le_refl _, fun _ _ _ => rfl⟩
theorem Gr.trans {lo hi : Nat} {a b c : World} (h : Gr lo hi a b) (k : Gr lo hi b c) : Gr lo hi a c :=
  ⟨k.os.trans h.os, k.tape.trans h.tape, k.output.trans h.output, Nat.le_trans h.size k.size, fun j hj hd => (k.block j (Nat.lt_of_lt_of_le hj h.size) hd).trans (h.block j hj hd)⟩
theorem Gr.below {lo hi : Nat} {a b : World} (h : Gr lo hi a b) (hl : lo ≤ a.heap.size) : Below lo a b := ⟨h.os, h.tape, h.output, h.size, fun j hj => h.block j (Nat.lt_of_lt_of_le hj hl) (.inl hj)⟩
theorem Gr.of_below {lo hi : Nat} {a b : World} (h : Below a.heap.size a b) : Gr lo hi a b := Gr.of h
theorem Gr.mono {lo hi lo' hi' : Nat} {a b : World} (h : Gr lo hi a b) (h1 : lo' ≤ lo) (h2 : hi ≤ hi') : Gr lo' hi' a b :=
  ⟨h.os, h.tape, h.output, h.size, fun j hj hd => h.block j hj (by omega)⟩
theorem Gr.put4 {lo hi : Nat} {a b : World} {B : Nat} (h : Gr lo hi a b) (hB : a.heap.size ≤ B) (v0 v1 v2 v3 : Value) : Gr lo hi a (put4 b B v0 v1 v2 v3) := by
  have h2 : Below a.heap.size b (Ty.put4 b B v0 v1 v2 v3) := ((((Below.refl _ _).setCell hB _).setCell hB _).setCell hB _).setCell hB _
  exact ⟨h2.os.trans h.os, h2.tape.trans h.tape, h2.output.trans h.output, Nat.le_trans h.size h2.size, fun j hj hd => (h2.block j hj).trans (h.block j hj hd)⟩
theorem B4.nextq {lo hi : Nat} {a b : World} {B : Nat} {v0 v1 v2 v3 : Value} (h : B4 a B v0 v1 v2 v3) (k : Gr lo hi a b) (hB : hi ≤ B) : B4 b B v0 v1 v2 v3 := (k.block B (lt_of_block h) (.inr hB)).trans h
theorem Gr.heap {lo hi : Nat} {a b : World} (k : Gr lo hi a b) {B : Nat} {o : Obj} (hd : B < lo ∨ hi ≤ B) (h : a.heap[B]? = some o) : b.heap[B]? = some o := (k.block B (lt_of_block h) hd).trans h

/-- well-formed types whose leaves are as P says -/
inductive GP (P : Ty → Prop) : Ty → Prop where
  | leaf (op n : Int) (s : List UInt8) : Good (.mk op n s []) → P (.mk op n s []) → GP P (.mk op n s [])
  | node (op : Int) (x y : Ty) : (op = 3 ∨ op = 4 ∨ op = 5) → GP P x → GP P y → GP P (.mk op 0 [] [x, y])
theorem GP.good {P : Ty → Prop} {t : Ty} (h : GP P t) : Good t := by
  induction h with
  | leaf op n s h _ => exact h
  | node op x y h _ _ ihx ihy => exact .node op x y h ihx ihy
theorem GP.of_good {P : Ty → Prop} (hP : ∀ t, P t) {t : Ty} (h : Good t) : GP P t := by
  induction h with
  | var op n h1 h2 h3 => exact .leaf op n [] (.var op n h1 h2 h3) (hP _)
  | con s h1 h2 => exact .leaf 2 0 s (.con s h1 h2) (hP _)
  | node op x y h _ _ ihx ihy => exact .node op x y h ihx ihy
theorem GP.mono {P P' : Ty → Prop} (hP : ∀ t, P t → P' t) {t : Ty} (h : GP P t) : GP P' t := by
  induction h with
  | leaf op n s h k => exact .leaf op n s h (hP _ k)
  | node op x y h _ _ ihx ihy => exact .node op x y h ihx ihy

/-- a type built anew, from a state to another one -/
inductive RR {σ : Type} (Q : Ty → σ → Ty → σ → Prop) : Ty → σ → Ty → σ → Prop where
  | leaf {op n : Int} {s : List UInt8} {st st' : σ} {r : Ty} : Q (.mk op n s []) st r st' → RR Q (.mk op n s []) st r st'
  | node {op : Int} {x y rx ry : Ty} {st s1 s2 : σ} : RR Q x st rx s1 → RR Q y s1 ry s2 → RR Q (.mk op 0 [] [x, y]) st (.mk op 0 [] [rx, ry]) s2

/-- what a state is in memory: it stays as long as its blocks do -/
structure HQ {σ : Type} (I : World → σ → Prop) (fp : σ → Nat → Prop) (base : Nat) : Prop where
  nx : ∀ W W' st, I W st → W.heap.size ≤ W'.heap.size → (∀ x, x < base ∨ fp st x → W'.heap[x]? = W.heap[x]?) → I W' st
  lt : ∀ W st, I W st → ∀ x, fp st x → x < W.heap.size
section
variable {σ : Type} {Q : Ty → σ → Ty → σ → Prop} {I : World → σ → Prop} {fp : σ → Nat → Prop} {w0 w : World} {base : Nat} {op : Int} {a : Value} {G H : Nat} {st0 st st' : σ} {r0 r1 r2 r3 r4 r5 r6 r7 : Value} {W W' : World}
theorem HQ.next (hq : HQ I fp base) (hi : I W st) (hw : base ≤ W.heap.size) (hb : Below W.heap.size W W') : I W' st :=
  hq.nx _ _ _ hi hb.size (fun x hx => hb.block x (by rcases hx with hx | hx; omega; exact hq.lt _ _ hi x hx))
end
/-- what is left behind a call that builds a type anew -/
def RebQ {σ : Type} (Q : Ty → σ → Ty → σ → Prop) (t : Ty) (st : σ) (I : World → σ → Prop) (fp : σ → Nat → Prop) (lo base : Nat) (w : World) (e : Ending) (w' : World) : Prop :=
  ∃ r st' v, e = .returned v ∧ VO (w.heap.size ≤ ·) w' r v ∧ Gr lo base w w' ∧ I w' st' ∧ (∀ x, fp st' x → fp st x ∨ w.heap.size ≤ x) ∧ RR Q t st r st'
/-- what a closure does with a leaf -/
def LeafsQ {σ : Type} (cid : Nat) (caps : Array Value) (P : Ty → Prop) (Q : Ty → σ → Ty → σ → Prop) (I : World → σ → Prop) (fp : σ → Nat → Prop) (w0 : World) (base bd : Nat) : Prop :=
  ∀ (W : World) (op n : Int) (s : List UInt8) (k : Nat) (st : σ), Good (.mk op n s []) → P (.mk op n s []) → I W st → base ≤ W.heap.size → Below w0.heap.size w0 W → k ≤ bd →
    Calls Try.prog cid (#[.agg #[.int .i64 op, .int .i64 n, .string ⟨s.toArray⟩, .slice none 0 0], .int .i64 k] ++ caps) W (RebQ Q (.mk op n s []) st I fp w0.heap.size base W)
def RebCQ {σ : Type} (fv : Value) (Q : Ty → σ → Ty → σ → Prop) (I : World → σ → Prop) (fp : σ → Nat → Prop) (w0 : World) (base bd : Nat) (t : Ty) : Prop :=
  ∀ (v : Value) (k : Nat) (st : σ) (w : World), V w0 t v → Below w0.heap.size w0 w → base ≤ w.heap.size → I w st → k + nodes t ≤ bd → Calls Try.prog 104 #[v, .int .i64 k, fv] w (RebQ Q t st I fp w0.heap.size base w)

/-- the world in which a node is built anew -/
structure NQ {σ : Type} (I : World → σ → Prop) (fp : σ → Nat → Prop) (w0 w : World) (base : Nat) (op : Int) (a : Value) (G H : Nat) (st0 st : σ) (r0 r1 r2 r3 r4 r5 r6 r7 : Value) (W : World) : Prop where
  grown : Gr w0.heap.size base w W
  old : Below w0.heap.size w0 W
  inv : I W st
  foot : ∀ x, fp st x → fp st0 x ∨ okB w G H x
  foot0 : ∀ x, fp st0 x → x < w.heap.size
  box : B4 W w.heap.size (.int .i64 op) (.int .i64 0) (.string ⟨#[]⟩) a
  res : B4 W (w.heap.size + 1) (.int .i64 0) (.int .i64 0) (.string ⟨#[]⟩) (.slice none 0 0)
  made : B4 W H (.int .i64 op) (.int .i64 0) (.string ⟨#[]⟩) (.slice (some ⟨G, 0, none⟩) 2 2)
  row : W.heap[G]? = some (Obj.cells #[r0, r1, r2, r3, r4, r5, r6, r7] 24)
  hG : w.heap.size + 2 ≤ G
  hH : w.heap.size + 2 ≤ H
  ne : G ≠ H
section
variable {σ : Type} {Q : Ty → σ → Ty → σ → Prop} {I : World → σ → Prop} {fp : σ → Nat → Prop} {w0 w : World} {base : Nat} {op : Int} {a : Value} {G H : Nat} {st0 st st' : σ} {r0 r1 r2 r3 r4 r5 r6 r7 : Value} {W W' : World}
theorem NQ.nextq (h : NQ I fp w0 w base op a G H st0 st r0 r1 r2 r3 r4 r5 r6 r7 W) (h0 : w0.heap.size ≤ base) (hw : base ≤ w.heap.size) (hg : Gr w0.heap.size base W W') (hi : I W' st') (hf : ∀ x, fp st' x → fp st x ∨ W.heap.size ≤ x) : NQ I fp w0 w base op a G H st0 st' r0 r1 r2 r3 r4 r5 r6 r7 W' := by
  have hG := h.hG
  have hH := h.hH
  have h3 := h.grown.size
  refine ⟨h.grown.trans hg, h.old.trans (hg.below (Nat.le_trans h0 (Nat.le_trans hw h3))), hi, fun x hx => ?_, h.foot0, h.box.nextq hg hw, h.res.nextq hg (by omega), h.made.nextq hg (by omega), hg.heap (.inr (by omega)) h.row, h.hG, h.hH, h.ne⟩
  rcases hf x hx with h1 | h1
  · exact h.foot x h1
  · have h4 := lt_of_block h.row
    have h5 := lt_of_block h.made
    exact .inr ⟨by omega, by omega, by omega⟩
theorem NQ.next (h : NQ I fp w0 w base op a G H st0 st r0 r1 r2 r3 r4 r5 r6 r7 W) (hq : HQ I fp base) (h0 : w0.heap.size ≤ base) (hw : base ≤ w.heap.size) (hb : Below W.heap.size W W') : NQ I fp w0 w base op a G H st0 st r0 r1 r2 r3 r4 r5 r6 r7 W' :=
  h.nextq h0 hw (Gr.of hb) (hq.next h.inv (Nat.le_trans hw h.grown.size) hb) (fun _ hx => .inl hx)
theorem NQ.newA (W : World) (hq : HQ I fp base) (hw : base ≤ w.heap.size) (hb : Below w0.heap.size w0 w) (hbW : Below w.heap.size w W) (hi : I w st) (hsz : W.heap.size = w.heap.size + 2)
    (hbox : B4 W w.heap.size (.int .i64 op) (.int .i64 0) (.string ⟨#[]⟩) a) (hres : B4 W (w.heap.size + 1) (.int .i64 0) (.int .i64 0) (.string ⟨#[]⟩) (.slice none 0 0)) :
    NQ I fp w0 w base op a W.heap.size (W.heap.size + 1) st st r0 r1 r2 r3 r4 r5 r6 r7 ((W.alloc (Obj.cells #[r0, r1, r2, r3, r4, r5, r6, r7] 24)).alloc (Obj.cells #[.int .i64 op, .int .i64 0, .string ⟨#[]⟩, .slice (some ⟨W.heap.size, 0, none⟩) 2 2] 24)).drew := by
  have e1 : (W.alloc (Obj.cells #[r0, r1, r2, r3, r4, r5, r6, r7] 24)).heap.size = W.heap.size + 1 := by simp
  have h2 := (below_two W (Obj.cells #[r0, r1, r2, r3, r4, r5, r6, r7] 24) (Obj.cells #[.int .i64 op, .int .i64 0, .string ⟨#[]⟩, .slice (some ⟨W.heap.size, 0, none⟩) 2 2] 24)).drew
  have hall := hbW.trans (h2.mono hbW.size)
  refine ⟨Gr.of hall, hb.trans (hall.mono hb.size), hq.next hi hw hall, fun x hx => .inl hx, hq.lt _ _ hi, hbox.next h2, hres.next h2, ?_, ?_, by omega, by omega, by omega⟩
  · have := heap_alloc_new (W.alloc (Obj.cells #[r0, r1, r2, r3, r4, r5, r6, r7] 24)) (Obj.cells #[.int .i64 op, .int .i64 0, .string ⟨#[]⟩, .slice (some ⟨W.heap.size, 0, none⟩) 2 2] 24)
    rw [e1] at this
    exact this
  · exact (Below.heap_alloc _ _ _ (by rw [e1]; omega)).trans (heap_alloc_new W _)
theorem NQ.newB (W : World) (hq : HQ I fp base) (hw : base ≤ w.heap.size) (hb : Below w0.heap.size w0 w) (hbW : Below w.heap.size w W) (hi : I w st) (hsz : W.heap.size = w.heap.size + 2)
    (hbox : B4 W w.heap.size (.int .i64 op) (.int .i64 0) (.string ⟨#[]⟩) a) (hres : B4 W (w.heap.size + 1) (.int .i64 0) (.int .i64 0) (.string ⟨#[]⟩) (.slice none 0 0)) :
    NQ I fp w0 w base op a (W.heap.size + 1) W.heap.size st st r0 r1 r2 r3 r4 r5 r6 r7 ((W.alloc (Obj.cells #[.int .i64 op, .int .i64 0, .string ⟨#[]⟩, .slice (some ⟨W.heap.size + 1, 0, none⟩) 2 2] 24)).alloc (Obj.cells #[r0, r1, r2, r3, r4, r5, r6, r7] 24)).drew := by
  have e1 : (W.alloc (Obj.cells #[.int .i64 op, .int .i64 0, .string ⟨#[]⟩, .slice (some ⟨W.heap.size + 1, 0, none⟩) 2 2] 24)).heap.size = W.heap.size + 1 := by simp
  have h2 := (below_two W (Obj.cells #[.int .i64 op, .int .i64 0, .string ⟨#[]⟩, .slice (some ⟨W.heap.size + 1, 0, none⟩) 2 2] 24) (Obj.cells #[r0, r1, r2, r3, r4, r5, r6, r7] 24)).drew
  have hall := hbW.trans (h2.mono hbW.size)
  refine ⟨Gr.of hall, hb.trans (hall.mono hb.size), hq.next hi hw hall, fun x hx => .inl hx, hq.lt _ _ hi, hbox.next h2, hres.next h2, ?_, ?_, by omega, by omega, by omega⟩
  · exact (Below.heap_alloc _ _ _ (by rw [e1]; omega)).trans (heap_alloc_new W _)
  · have := heap_alloc_new (W.alloc (Obj.cells #[.int .i64 op, .int .i64 0, .string ⟨#[]⟩, .slice (some ⟨W.heap.size + 1, 0, none⟩) 2 2] 24)) (Obj.cells #[r0, r1, r2, r3, r4, r5, r6, r7] 24)
    rw [e1] at this
    exact this
theorem NQ.put (h : NQ I fp w0 w base op a G H st0 st r0 r1 r2 r3 r4 r5 r6 r7 W) (hq : HQ I fp base) (h0 : w0.heap.size ≤ base) (hw : base ≤ w.heap.size) (v0 v1 v2 v3 : Value) {o : Nat} {s0 s1 s2 s3 s4 s5 s6 s7 : Value}
    (hrow : (put4At W G o v0 v1 v2 v3).heap[G]? = some (Obj.cells #[s0, s1, s2, s3, s4, s5, s6, s7] 24)) : NQ I fp w0 w base op a G H st0 st s0 s1 s2 s3 s4 s5 s6 s7 (put4At W G o v0 v1 v2 v3) := by
  have hG := h.hG
  have h2 : Below w.heap.size W (put4At W G o v0 v1 v2 v3) := below_put4At (by omega) _ _ _ _
  refine ⟨⟨h2.os.trans h.grown.os, h2.tape.trans h.grown.tape, h2.output.trans h.grown.output, Nat.le_trans h.grown.size h2.size, fun j hj hd => (h2.block j hj).trans (h.grown.block j hj hd)⟩,
    h.old.trans (h2.mono (by omega)), hq.nx _ _ _ h.inv h2.size (fun x hx => put4At_other ?_ _ _ _ _), h.foot, h.foot0, (put4At_other (by omega) _ _ _ _).trans h.box, (put4At_other (by omega) _ _ _ _).trans h.res, (put4At_other h.ne.symm _ _ _ _).trans h.made, hrow, h.hG, h.hH, h.ne⟩
  rcases hx with hx | hx
  · omega
  · rcases h.foot x hx with h1 | h1
    · have := h.foot0 x h1; omega
    · exact h1.2.1
theorem NQ.put0 (h : NQ I fp w0 w base op a G H st0 st r0 r1 r2 r3 r4 r5 r6 r7 W) (hq : HQ I fp base) (h0 : w0.heap.size ≤ base) (hw : base ≤ w.heap.size) (v0 v1 v2 v3 : Value) :
    NQ I fp w0 w base op a G H st0 st v0 v1 v2 v3 r4 r5 r6 r7 (put4At W G 0 v0 v1 v2 v3) :=
  h.put hq h0 hw v0 v1 v2 v3 (by have := h.row; unfold put4At; simp [World.setCell, Array.getElem?_modify, this])
theorem NQ.put4 (h : NQ I fp w0 w base op a G H st0 st r0 r1 r2 r3 r4 r5 r6 r7 W) (hq : HQ I fp base) (h0 : w0.heap.size ≤ base) (hw : base ≤ w.heap.size) (v0 v1 v2 v3 : Value) :
    NQ I fp w0 w base op a G H st0 st r0 r1 r2 r3 v0 v1 v2 v3 (put4At W G 4 v0 v1 v2 v3) :=
  h.put hq h0 hw v0 v1 v2 v3 (by have := h.row; unfold put4At; simp [World.setCell, Array.getElem?_modify, this])
theorem NQ.frozen (h : NQ I fp w0 w base op a G H st0 st r0 r1 r2 r3 r4 r5 r6 r7 W) (i : Nat) : W.frozen? ⟨G, i, none⟩ = false := by
  unfold World.frozen?
  rw [show W.heap[(⟨G, i, none⟩ : Addr).block]? = _ from h.row]
  simp
theorem NQ.rc (h : NQ I fp w0 w base op a G H st0 st r0 r1 r2 r3 r4 r5 r6 r7 W) : (W.cell? ⟨G, 0, none⟩ = some r0 ∧ W.cell? ⟨G, 1, none⟩ = some r1 ∧ W.cell? ⟨G, 2, none⟩ = some r2 ∧ W.cell? ⟨G, 3, none⟩ = some r3) ∧ (W.cell? ⟨G, 4, none⟩ = some r4 ∧ W.cell? ⟨G, 5, none⟩ = some r5 ∧ W.cell? ⟨G, 6, none⟩ = some r6 ∧ W.cell? ⟨G, 7, none⟩ = some r7) :=
  have c := fun i => cell_of_row W G i _ 24 (0, 0) h.row
  ⟨⟨c 0, c 1, c 2, c 3⟩, c 4, c 5, c 6, c 7⟩
theorem partq_next {t : Ty} {v : Value} (h : VO (okB w G H) W t v) (hw : base ≤ w.heap.size) (hg : Gr w0.heap.size base W W') : VO (okB w G H) W' t v :=
  h.keep (fun _ h => h) (fun p v hp hc => (World.cell?_of_block (hg.block p.block (World.block_lt_of_cell? W p hc) (.inr (by have := hp.1; omega)))).trans hc)
theorem partq_new {t : Ty} {v : Value} (h : VO (W.heap.size ≤ ·) W' t v) (hN : NQ I fp w0 w base op a G H st0 st r0 r1 r2 r3 r4 r5 r6 r7 W) : VO (okB w G H) W' t v :=
  h.keep (fun g hg => by
    have h1 := lt_of_block hN.row
    have h2 := lt_of_block hN.made
    have h3 : W.heap.size ≤ g := hg
    have h4 := hN.hG
    exact ⟨by omega, by omega, by omega⟩) (fun p v _ hc => hc)
theorem callq_part {fv : Value} {x : Ty} {bd : Nat} (hx : RebCQ fv Q I fp w0 base bd x) (h0 : w0.heap.size ≤ base) (hw : base ≤ w.heap.size) {v : Value} {k : Nat} (hv : V w0 x v) (hk : k + nodes x ≤ bd) (hN : NQ I fp w0 w base op a G H st0 st r0 r1 r2 r3 r4 r5 r6 r7 W) :
    Calls Try.prog 104 #[v, .int .i64 k, fv] W fun e W' => ∃ rx s1 v', e = .returned v' ∧ VO (okB w G H) W' rx v' ∧ NQ I fp w0 w base op a G H st0 s1 r0 r1 r2 r3 r4 r5 r6 r7 W' ∧ Gr w0.heap.size base W W' ∧ RR Q x st rx s1 :=
  (hx v k st W hv hN.old (Nat.le_trans hw hN.grown.size) hN.inv hk).mono fun _ _ ⟨rx, s1, v', h1, h2, h3, h4, h5, h6⟩ => ⟨rx, s1, v', h1, partq_new h2 hN, hN.nextq h0 hw h3 h4 h5, h3, h6⟩
theorem nodeq_done {rx ry : Ty} {bx b_y : Option Addr} {cx cy : Nat}
    (hN : NQ I fp w0 w base op a G H st0 st (.int .i64 rx.op) (.int .i64 rx.n) (.string rx.name) (.slice bx rx.args.length cx) (.int .i64 ry.op) (.int .i64 ry.n) (.string ry.name) (.slice b_y ry.args.length cy) W) (hq : HQ I fp base) (hw : base ≤ w.heap.size)
    (hx : VO (okB w G H) W rx (.agg #[.int .i64 rx.op, .int .i64 rx.n, .string rx.name, .slice bx rx.args.length cx])) (hy : VO (okB w G H) W ry (.agg #[.int .i64 ry.op, .int .i64 ry.n, .string ry.name, .slice b_y ry.args.length cy])) (v0 v1 v2 v3 : Value) :
    VO (w.heap.size ≤ ·) (Ty.put4 W (w.heap.size + 1) v0 v1 v2 v3) (.mk op 0 [] [rx, ry]) (.agg #[.int .i64 op, .int .i64 0, .string ⟨#[]⟩, .slice (some ⟨G, 0, none⟩) 2 2]) ∧ Gr w0.heap.size base w (Ty.put4 W (w.heap.size + 1) v0 v1 v2 v3) ∧ I (Ty.put4 W (w.heap.size + 1) v0 v1 v2 v3) st ∧ ∀ x, fp st x → fp st0 x ∨ w.heap.size ≤ x := by
  obtain ⟨hsx, hlx⟩ := vo_parts hx
  obtain ⟨hsy, hly⟩ := vo_parts hy
  have hG := hN.hG
  have hrow : (Ty.put4 W (w.heap.size + 1) v0 v1 v2 v3).heap[G]? = _ := (put4_other (by omega) v0 v1 v2 v3).trans hN.row
  have c := fun i => cell_of_row _ G i _ 24 (0, 0) hrow
  have hkeep : ∀ (p : Addr) v, okB w G H p.block → W.cell? p = some v → (Ty.put4 W (w.heap.size + 1) v0 v1 v2 v3).cell? p = some v := fun p v hp hc => put4_keep _ _ _ _ p v hc (by have := hp.1; omega)
  have hok : ∀ g, okB w G H g → w.heap.size ≤ g := fun g hg => by have := hg.1; omega
  refine ⟨⟨some ⟨G, 0, none⟩, 2, rfl, Nat.zero_le _, by show 2 ≤ maxLen; unfold maxLen; omega, .inr ⟨G, 0, rfl, by omega, ?_, ?_, trivial⟩⟩, hN.grown.put4 (by omega) _ _ _ _, hq.nx _ _ _ hN.inv (below_put4' (base := 0) (by omega) _ _ _ _).size (fun x hx => put4_other ?_ _ _ _ _), fun x hx => ?_⟩
  · exact atO_iff.mpr ⟨c 0, c 1, c 2, hsx, bx, cx, c 3, hlx.keep hok hkeep⟩
  · exact atO_iff.mpr ⟨c 4, c 5, c 6, hsy, b_y, cy, c 7, hly.keep hok hkeep⟩
  · rcases hx with hx | hx
    · omega
    · rcases hN.foot x hx with h1 | h1
      · have := hN.foot0 x h1; omega
      · have := h1.1; omega
  · rcases hN.foot x hx with h1 | h1
    · exact .inl h1
    · exact .inr (hok x h1)
end

set_option maxHeartbeats 4000000 in
/-- Replace 67 -/
theorem repq_of {σ : Type} {Q : Ty → σ → Ty → σ → Prop} {I : World → σ → Prop} {fp : σ → Nat → Prop} {w0 : World} {base bd : Nat} {fv : Value} {t : Ty} (hR : RebCQ fv Q I fp w0 base bd t) (hq : HQ I fp base)
    (v : Value) (st : σ) (w : World) (hv : V w0 t v) (hb : Below w0.heap.size w0 w) (hw : base ≤ w.heap.size) (hi : I w st) (hk : nodes t ≤ bd) : Calls Try.prog 67 #[v, fv] w (RebQ Q t st I fp w0.heap.size base w) := by
  have hcall := fun (W : World) (hB : Below w.heap.size w W) => hR v 0 st W hv (hb.trans (hB.mono hb.size)) (Nat.le_trans hw hB.size) (hq.next hi hw hB) (by omega)
  rw [show ((0 : Nat) : Int) = 0 from rfl] at hcall
  obtain ⟨b, c, ev, _, _⟩ := hv
  subst ev
  obtain ⟨ht1, ht6⟩ := two_boxes w (.int .i64 t.op) (.int .i64 t.n) (.string t.name) (.slice b t.args.length c) (.int .i64 0) (.int .i64 0) (.string ⟨#[]⟩) (.slice none 0 0)
  have hb2 : Below w.heap.size w ((w.alloc (Obj.cells #[.int .i64 t.op, .int .i64 t.n, .string t.name, .slice b t.args.length c] 24)).alloc (Obj.cells #[.int .i64 0, .int .i64 0, .string ⟨#[]⟩, .slice none 0 0] 24)) := below_two w _ _
  have HT6 := Lib.hid ht6
  have HB2 := Lib.hid hb2
  have HC := Lib.hid hcall
  have HI := Lib.hid hi
  obtain ⟨c0, c1, c2, c3⟩ := ht1.cells
  clear ht1 ht6 hb2 hcall hR hi
  go_enter Try.func67, Try.ntmps67
  go_wp2_with fail
  obtain ⟨W2, hW2⟩ : ∃ W2, W2 = (w.alloc (Obj.cells #[.int .i64 t.op, .int .i64 t.n, .string t.name, .slice b t.args.length c] 24)).alloc (Obj.cells #[.int .i64 0, .int .i64 0, .string ⟨#[]⟩, .slice none 0 0] 24) := ⟨_, rfl⟩
  rw [← hW2] at HT6 HB2 c0 c1 c2 c3 ⊢
  have HSZ : Hid (W2.heap.size = w.heap.size + 2) := Lib.hid (by rw [hW2]; simp)
  clear hW2
  refine (HC.out W2 HB2.out).mono ?_
  rintro e w2 ⟨r, s2, v, rfl, ⟨b9, c9, rfl, hs9, hl9⟩, hgr, hi2, hf2, hrr⟩
  have HV9 : Hid (VO (W2.heap.size ≤ ·) w2 r _) := Lib.hid ⟨b9, c9, rfl, hs9, hl9⟩
  have HT := Lib.hid (HT6.out.nextq hgr (by omega))
  have HG := Lib.hid ((Gr.of HB2.out).trans hgr)
  have HI2 := Lib.hid hi2
  have HF2 := Lib.hid hf2
  have HRR := Lib.hid hrr
  clear hs9 hl9 hgr hi2 hf2 hrr HT6 c0 c1 c2 c3
  obtain ⟨z0, z1, z2, z3⟩ := HT.out.cells; have f0 := HT.out.frozen 0; have f1 := HT.out.frozen 1; have f2 := HT.out.frozen 2; have f3 := HT.out.frozen 3
  go_wp2_with fail
  refine bodyPost_ret (results_ty (a := 4) (by kernel_rfl) (B := w.heap.size + 1) (by rfl) (put4_cells HT.out _ _ _ _).cells.1 (put4_cells HT.out _ _ _ _).cells.2.1 (put4_cells HT.out _ _ _ _).cells.2.2.1 (put4_cells HT.out _ _ _ _).cells.2.2.2) rfl ?_
  have hsz := HSZ.out
  refine ⟨r, s2, _, rfl, ?_, HG.out.put4 (by omega) _ _ _ _, hq.nx _ _ _ HI2.out (below_put4' (base := 0) (by omega) _ _ _ _).size (fun x hx => put4_other ?_ _ _ _ _), fun x hx => ?_, HRR.out⟩
  · exact HV9.out.keep (fun g hg => by show w.heap.size ≤ g; have : W2.heap.size ≤ g := hg; omega) (fun p v hp hc => put4_keep _ _ _ _ p v hc (by have : W2.heap.size ≤ p.block := hp; omega))
  · rcases hx with hx | hx
    · omega
    · rcases HF2.out x hx with h1 | h1
      · have := hq.lt _ _ HI.out x h1; omega
      · omega
  · rcases HF2.out x hx with h1 | h1
    · exact .inl h1
    · exact .inr (by omega)

end Ty
end Go.Proofs.Ytkedhnahgpmkaaa

/- Metavariables as they lie in memory: rows of ten cells. Conditions: none. -/
namespace Go.Proofs.Ytkedhnahgpmkaaa
open Go.RowKit

namespace Ty
/-- the ten cells of a metavariable: its kind, its level, whether it is solved, and its value -/
structure MC where
  kop : Int
  kn : Int
  ks : ByteArray
  kb : Option Addr
  kl : Nat
  kc : Nat
  lvl : Int
  sol : Bool
  val : Ty
  b : Option Addr
  cap : Nat
def MC.enc (x : MC) : List Value := [.int .i64 x.kop, .int .i64 x.kn, .string x.ks, .slice x.kb x.kl x.kc, .int .i64 x.lvl, .bool x.sol, .int .i64 x.val.op, .int .i64 x.val.n, .string x.val.name, .slice x.b x.val.args.length x.cap]
def MC.v (x : MC) : Value := .agg #[.int .i64 x.val.op, .int .i64 x.val.n, .string x.val.name, .slice x.b x.val.args.length x.cap]
theorem MC.enc_len (x : MC) : x.enc.length = 10 := rfl
theorem MC.enc_one (x : MC) : ∀ v ∈ x.enc, v.oneCell' = true := by
  intro v hv
  simp only [MC.enc, List.mem_cons, List.not_mem_nil, or_false] at hv
  rcases hv with rfl | rfl | rfl | rfl | rfl | rfl | rfl | rfl | rfl | rfl <;> rfl
def MC.all (M : List MC) : List Value := M.flatMap MC.enc
theorem MC.all_len : ∀ (M : List MC), (MC.all M).length = M.length * 10
  | [] => rfl
  | x :: l => by
    have := MC.all_len l
    unfold MC.all at this ⊢
    rw [List.flatMap_cons, List.length_append, this, MC.enc_len, List.length_cons]
    omega
theorem MC.all_get : ∀ (M : List MC) (i j : Nat) (h : i < M.length), j < 10 → (MC.all M)[i * 10 + j]? = (M[i]'h).enc[j]?
  | x :: l, 0, j, _, hj => by
    unfold MC.all
    rw [List.flatMap_cons, List.getElem?_append_left (by rw [MC.enc_len]; omega)]
    simp
  | x :: l, i + 1, j, h, hj => by
    have := MC.all_get l i j (by simpa using h) hj
    unfold MC.all at this ⊢
    rw [List.flatMap_cons, List.getElem?_append_right (by rw [MC.enc_len]; omega), MC.enc_len, show (i + 1) * 10 + j - 10 = i * 10 + j from by omega, this]
    rfl
theorem MC.all_one (M : List MC) : ∀ u ∈ MC.all M, u.oneCell' = true := by
  intro u hu
  unfold MC.all at hu
  obtain ⟨x, _, hx⟩ := List.mem_flatMap.mp hu
  exact MC.enc_one x u hx

/-- metavariables in a row -/
def Ms (w : World) (base : Option Addr) (M : List MC) : Prop :=
  M.length ≤ maxLen ∧ (M = [] ∨ ∃ g o, base = some ⟨g, o, none⟩ ∧ ∀ i (h : i < M.length) j u, (M[i]'h).enc[j]? = some u → w.cell? ⟨g, o + i * 10 + j, none⟩ = some u) ∧ ∀ x ∈ M, V w x.val x.v
theorem Ms.keep {w w' : World} (hk : ∀ (p : Addr) v, w.cell? p = some v → w'.cell? p = some v) {base : Option Addr} {M : List MC} (h : Ms w base M) : Ms w' base M := by
  obtain ⟨h1, h2, h3⟩ := h
  refine ⟨h1, ?_, fun x hx => ?_⟩
  · rcases h2 with h2 | ⟨g, o, e, h2⟩
    · exact .inl h2
    · exact .inr ⟨g, o, e, fun i h j u hu => hk _ _ (h2 i h j u hu)⟩
  · obtain ⟨b, c, e, hs, hl, hr⟩ := h3 x hx
    refine ⟨b, c, e, hs, hl, ?_⟩
    rcases hr with hr | ⟨g, o, e, hr⟩
    · exact .inl hr
    · exact .inr ⟨g, o, e, Row.keep hk hr⟩
theorem Ms.next {w w' : World} {base : Option Addr} {M : List MC} (h : Ms w base M) (hb : Below w.heap.size w w') : Ms w' base M := h.keep (keeps hb)
/-- the cells of one of them -/
theorem Ms.at {w : World} {base : Option Addr} {M : List MC} (h : Ms w base M) {i : Nat} (hi : i < M.length) :
    ∃ g o, base = some ⟨g, o, none⟩ ∧ (w.cell? ⟨g, o + i * 10, none⟩ = some (.int .i64 (M[i]'hi).kop) ∧ w.cell? ⟨g, o + i * 10 + 1, none⟩ = some (.int .i64 (M[i]'hi).kn) ∧ w.cell? ⟨g, o + i * 10 + 2, none⟩ = some (.string (M[i]'hi).ks) ∧ w.cell? ⟨g, o + i * 10 + 3, none⟩ = some (.slice (M[i]'hi).kb (M[i]'hi).kl (M[i]'hi).kc) ∧
      w.cell? ⟨g, o + i * 10 + 4, none⟩ = some (.int .i64 (M[i]'hi).lvl)) ∧ w.cell? ⟨g, o + i * 10 + 5, none⟩ = some (.bool (M[i]'hi).sol) ∧
      (w.cell? ⟨g, o + i * 10 + 6, none⟩ = some (.int .i64 (M[i]'hi).val.op) ∧ w.cell? ⟨g, o + i * 10 + 7, none⟩ = some (.int .i64 (M[i]'hi).val.n) ∧ w.cell? ⟨g, o + i * 10 + 8, none⟩ = some (.string (M[i]'hi).val.name) ∧ w.cell? ⟨g, o + i * 10 + 9, none⟩ = some (.slice (M[i]'hi).b (M[i]'hi).val.args.length (M[i]'hi).cap)) ∧
      V w (M[i]'hi).val (M[i]'hi).v := by
  obtain ⟨_, h2, h3⟩ := h
  rcases h2 with h2 | ⟨g, o, e, h2⟩
  · subst h2; exact absurd hi (Nat.not_lt_zero _)
  · exact ⟨g, o, e, ⟨h2 i hi 0 _ rfl, h2 i hi 1 _ rfl, h2 i hi 2 _ rfl, h2 i hi 3 _ rfl, h2 i hi 4 _ rfl⟩, h2 i hi 5 _ rfl, ⟨h2 i hi 6 _ rfl, h2 i hi 7 _ rfl, h2 i hi 8 _ rfl, h2 i hi 9 _ rfl⟩, h3 _ (List.getElem_mem hi)⟩

theorem info98 : (Try.prog.info? 98).map (fun i => (i.zero, i.size, i.bytes)) = some (some (.agg #[.int .i64 0, .int .i64 0, .string ⟨#[]⟩, .slice none 0 0, .int .i64 0, .bool false, .int .i64 0, .int .i64 0, .string ⟨#[]⟩, .slice none 0 0]), 10, 128) := by kernel_rfl

/-- metavariables that were copied into a row of the call's own -/
theorem copiedM {w W : World} {base : Nat} {ov : Value} {M : List MC} (h : W.ownsRow base 98 10 ov M.length (MC.all M)) (hb : Below w.heap.size w W) (hl : M.length ≤ maxLen) (hv : ∀ x ∈ M, V w x.val x.v) : ∃ bb cap, ov = .slice bb M.length cap ∧ Ms W bb M := by
  obtain ⟨_, ⟨h1, h2⟩ | ⟨g, cap, cur, h1, h3, h4, h5, h6, h7, h8⟩⟩ := h
  · have hnil : M = [] := List.eq_nil_of_length_eq_zero h2
    subst hnil
    exact ⟨none, 0, h1, hl, .inl rfl, fun x hx => by cases hx⟩
  · refine ⟨_, cap, h1, hl, .inr ⟨g, 0, rfl, fun i hi j u hu => ?_⟩, fun x hx => (hv x hx).next hb⟩
    have hj : j < 10 := by
      rcases Nat.lt_or_ge j 10 with hj | hj
      · exact hj
      · rw [List.getElem?_eq_none (by rw [MC.enc_len]; exact hj)] at hu; cases hu
    rw [Nat.zero_add, cell_of_row W g (i * 10 + j) cur 98 (0, 0) h4]
    have hlt : i * 10 + j < M.length * 10 := by omega
    have e1 : cur[i * 10 + j]? = (cur.toList.take (M.length * 10))[i * 10 + j]? := by rw [List.getElem?_take, if_pos hlt]; simp
    rw [e1, h8, MC.all_get M i j hi hj]
    exact hu
theorem own_madeM {W : World} {base g : Nat} (hg : W.heap.size = g) (hb : base ≤ g) : (W.alloc (.cells #[] 98)).ownsRow base 98 10 (.slice (some ⟨g, 0, none⟩) 0 0) 0 [] := by
  subst hg
  exact World.ownsRow_made (base := base) (e := 98) (size := 10) W #[] 0 hb (by unfold maxLen; omega) rfl
theorem run_copyM {w0 w : World} {g0 : Nat} (ty : TypeId) (hown : w.ownsRow w0.heap.size 98 10 (.slice (some ⟨g0, 0, none⟩) 0 0) 0 []) (hb : Below w0.heap.size w0 w) {base : Option Addr} {M : List MC} (cap : Nat) (hl : Ms w0 base M) (hn : M.length ≤ 1099511627776) :
    ∃ bb cap' w', (Builtin.append_ #[62, 62] ty #[.slice (some ⟨g0, 0, none⟩) 0 0, .slice base M.length cap]).run Try.prog w = .ok (.slice bb M.length cap') w' ∧ Ms w' bb M ∧ w.grownBy w' (some g0) ∧ Below w0.heap.size w0 w' := by
  obtain ⟨i0, hi, hz0, hz1, hz2⟩ := info_parts info98
  cases base with
  | none =>
    have hnil : M = [] := by
      rcases hl.2.1 with h | ⟨g, o, h, _⟩
      · exact h
      · cases h
    subst hnil
    refine ⟨some ⟨g0, 0, none⟩, 0, w, ?_, ⟨Nat.zero_le _, .inl rfl, fun x hx => by cases hx⟩, ⟨rfl, rfl, rfl, Nat.le_refl _, fun _ _ _ => rfl⟩, hb⟩
    simp [Builtin.append_, run_underlying Try.underlying62, sizeOf, typeInfo, hi, Builtin.lenOf, Builtin.firstCells, loadCells, loadCellsFrom, storeCells]
  | some ad =>
    have hc : ∀ j u, (MC.all M)[j]? = some u → w.cell? (ad.add j) = some u := by
      intro j u hu
      rcases hl.2.1 with h | ⟨g, o, h, hr⟩
      · subst h
        unfold MC.all at hu
        simp at hu
      · obtain rfl := Option.some.inj h
        rw [Addr.add_lit]
        have hlt : j < M.length * 10 := by
          rcases Nat.lt_or_ge j (M.length * 10) with h | h
          · exact h
          · rw [List.getElem?_eq_none (by rw [MC.all_len]; exact h)] at hu; cases hu
        have hi10 : j / 10 < M.length := by omega
        rw [show j = j / 10 * 10 + j % 10 from by omega, MC.all_get M (j / 10) (j % 10) hi10 (by omega)] at hu
        have := keeps hb _ _ (hr (j / 10) hi10 (j % 10) u hu)
        rwa [show o + j / 10 * 10 + j % 10 = o + j from by omega] at this
    obtain ⟨v', w', hr, h2, h3, _⟩ := run_append_own (P := Try.prog) w w0.heap.size 62 ty 98 i0 _ 10 128 Try.underlying62 hi hz0 hz1 hz2 rfl (by omega) _ 0 [] hown ad M.length cap (MC.all M) (MC.all_len M) hc (MC.all_one M) (by unfold maxLen; omega) (by omega) hb.size
    rw [Nat.zero_add, List.nil_append] at h2
    have hb' : Below w0.heap.size w0 w' := hb.grown h3 hb.size (fun m hm => (hown.lt m hm).1)
    obtain ⟨bb, cap', rfl, hs⟩ := copiedM h2 hb' hl.1 hl.2.2
    exact ⟨bb, cap', w', hr, hs, h3, hb'⟩
theorem step_copyM {ops : Array Oper} {o : Oper} {a : Act} {K : Act → World → Prop} {Q : Exit → Act → World → Prop} {E : Prop} (hgd : o.guard = none) (s x : Operand)
    (ho : o.op = .call { callee := .builtin .append, args := #[s, x], argTypes := #[62, 62] })
    {w0 w : World} {g0 : Nat} (hs : a.eval s = .slice (some ⟨g0, 0, none⟩) 0 0) (hown : w.ownsRow w0.heap.size 98 10 (.slice (some ⟨g0, 0, none⟩) 0 0) 0 []) (hb : Below w0.heap.size w0 w)
    {base : Option Addr} {M : List MC} {n cap : Nat} (hx : a.eval x = .slice base n cap) (hln : M.length = n) (hl : Ms w0 base M) (hn : n ≤ 1099511627776)
    (h : ∀ bb cap' w', Ms w' bb M → w.grownBy w' (some g0) → Below w0.heap.size w0 w' → K (a.put o.dst (.slice bb n cap')) w') :
    if Region.wanted o (yielded ops a.tmps) = true then Oper.wp Try.prog o a w K Q else E := by
  subst hln
  have hw : Region.wanted o (yielded ops a.tmps) = true := by simp [Region.wanted, hgd]
  rw [if_pos hw]
  obtain ⟨bb, cap', w', hr, h2, h3, h4⟩ := run_copyM o.type hown hb cap hl hn
  unfold Oper.wp execOp
  simp only [ho, resolve, invoke, builtin, Sem.run_bind, Sem.run_pure, Result.andThen_ok, List.map_toArray, List.map_cons, List.map_nil, hs, hx, hr]
  exact h bb cap' w' h2 h3 h4

/-! metavariables that come in -/
section
variable {H : Type} {enc : TypeId × Value → H} {P : Program} {w : World} {base : Nat} {spare : Nat → Bool} {held : Bool}
theorem v_of_cells {t : Ty} {v0 v1 v2 v3 : Value} (h : Cells w t [v0, v1, v2, v3]) : ∃ b cap, v0 = .int .i64 t.op ∧ v1 = .int .i64 t.n ∧ v2 = .string t.name ∧ v3 = .slice b t.args.length cap ∧ V w t (.agg #[.int .i64 t.op, .int .i64 t.n, .string t.name, .slice b t.args.length cap]) := by
  obtain ⟨b, cap, e, hs, hl⟩ := h
  simp only [List.cons.injEq, and_true] at e
  exact ⟨b, cap, e.1, e.2.1, e.2.2.1, e.2.2.2, b, cap, rfl, hs, hl⟩
theorem open_mc {T S I St B Mt : TypeId} {f0 f1 f2 f3 m0 m1 m2 m3 : Field} (L : Laid P T S I St f0 f1 f2 f3) (hM : P.underlying Mt = some (.struct #[m0, m1, m2, m3])) (hB : P.underlying B = some .bool)
    (t0 : m0.type = T) (t1 : m1.type = I) (t2 : m2.type = B) (t3 : m3.type = T) (o0 : m0.offset = 0) (o1 : m1.offset = 4) (o2 : m2.offset = 5) (o3 : m3.offset = 6) (cM : P.cellsOf Mt = 10) (cB : P.cellsOf B = 1)
    {fuel : Nat} {cs : List Value} {x : DataW H × List MemPlace} (h : DataW.trod enc P w base spare held fuel Mt cs = some x) : ∃ c : MC, cs = c.enc ∧ V w c.val c.v := by
  obtain ⟨xs, n, hn, _, hlen, hxs, hf⟩ := DataW.trod_struct hM h
  rw [cM] at hlen
  have hx : ∀ i, i < 4 → ∃ y, xs[i]? = some y := fun i hi => ⟨xs[i]'(by rw [hxs]; exact hi), List.getElem?_eq_getElem _⟩
  match cs, hlen with
  | [u0, u1, u2, u3, u4, u5, u6, u7, u8, u9], _ =>
    obtain ⟨y0, e0⟩ := hx 0 (by omega)
    obtain ⟨y1, e1⟩ := hx 1 (by omega)
    obtain ⟨y2, e2⟩ := hx 2 (by omega)
    obtain ⟨y3, e3⟩ := hx 3 (by omega)
    have g0 := hf 0 m0 rfl
    have g1 := hf 1 m1 rfl
    have g2 := hf 2 m2 rfl
    have g3 := hf 3 m3 rfl
    rw [t0, o0, L.cT, e0] at g0
    rw [t1, o1, L.cI, e1] at g1
    rw [t2, o2, cB, e2] at g2
    rw [t3, o3, L.cT, e3] at g3
    obtain ⟨k, hk⟩ := open_cells L _ [u0, u1, u2, u3] _ g0
    obtain ⟨val, hval⟩ := open_cells L _ [u6, u7, u8, u9] _ g3
    obtain ⟨lvl, h1, _⟩ := DataW.trod_int L.hI g1
    obtain ⟨sol, h2, _⟩ := DataW.trod_bool hB g2
    obtain ⟨kb, kc, rfl, rfl, rfl, rfl, _⟩ := v_of_cells hk
    obtain ⟨b, cap, rfl, rfl, rfl, rfl, hv⟩ := v_of_cells hval
    have h1' : u4 = .int .i64 lvl := by injection h1
    have h2' : u5 = .bool sol := by injection h2
    subst h1' h2'
    exact ⟨⟨k.op, k.n, k.name, kb, k.args.length, kc, lvl, sol, val, b, cap⟩, rfl, hv⟩
theorem open_ms {T S I St B Mt MS : TypeId} {f0 f1 f2 f3 m0 m1 m2 m3 : Field} (L : Laid P T S I St f0 f1 f2 f3) (hS : P.underlying MS = some (.slice Mt)) (hM : P.underlying Mt = some (.struct #[m0, m1, m2, m3])) (hB : P.underlying B = some .bool)
    (t0 : m0.type = T) (t1 : m1.type = I) (t2 : m2.type = B) (t3 : m3.type = T) (o0 : m0.offset = 0) (o1 : m1.offset = 4) (o2 : m2.offset = 5) (o3 : m3.offset = 6) (cM : P.cellsOf Mt = 10) (cB : P.cellsOf B = 1)
    {fuel : Nat} {v3 : Value} {x : DataW H × List MemPlace} (g3 : DataW.trod enc P w base spare held fuel MS [v3] = some x) : ∃ M b cap, v3 = .slice b (List.length M) cap ∧ Ms w b M := by
  rcases DataW.trod_slice hS g3 with ⟨h3, _⟩ | ⟨a, len, cap, elems, rest, m, hm, h3, _, _, hlc, hcm, hel, hE, _, _⟩
  · exact ⟨[], none, 0, by injection h3, Nat.zero_le _, .inl rfl, fun x hx => by cases hx⟩
  · have h3' : v3 = .slice (some a) len cap := by injection h3
    have each : ∀ i, i < len → ∃ c : MC, w.cells? base (a.add (i * 10)) 10 = some c.enc ∧ V w c.val c.v := fun i hi => by
      have hi2 := hE i hi
      rw [cM] at hi2
      rw [List.getElem?_eq_getElem (by omega)] at hi2
      obtain ⟨cs', c1, c2⟩ := Option.bind_eq_some_iff.1 hi2
      obtain ⟨c, rfl, hv⟩ := open_mc L hM hB t0 t1 t2 t3 o0 o1 o2 o3 cM cB c2
      exact ⟨c, c1, hv⟩
    have hin : Inhabited MC := ⟨⟨0, 0, ⟨#[]⟩, none, 0, 0, 0, false, .mk 0 0 [] [], none, 0⟩⟩
    obtain ⟨f, hfi⟩ := Go.Deep.choose_lt each
    refine ⟨(List.range len).map f, some a, cap, by rw [h3', List.length_map, List.length_range], by rw [List.length_map, List.length_range]; omega, ?_, ?_⟩
    · by_cases hz : len = 0
      · left
        rw [hz]; rfl
      · right
        obtain ⟨c0, _⟩ := hfi 0 (by omega)
        obtain ⟨_, hl0, hc0⟩ := World.cells?_some c0
        have ha0 : w.cell? a = (f 0).enc[0]? := by
          have := hc0 0 (by omega)
          rw [Go.Deep.add_add] at this
          have e : a.add (0 * 10 + 0) = a := by unfold Addr.add; rw [if_pos (by omega)]
          rw [e] at this
          exact this
        have hsp := spot_none ha0
        obtain ⟨g, o, sp⟩ := a
        have hsp' : sp = none := hsp
        subst hsp'
        refine ⟨g, o, rfl, fun i hi j u hu => ?_⟩
        have hi' : i < len := by
          have : i < ((List.range len).map f).length := hi
          rwa [List.length_map, List.length_range] at this
        obtain ⟨c1, c2⟩ := hfi i hi'
        obtain ⟨_, hl', hc'⟩ := World.cells?_some c1
        have ef : ((List.range len).map f)[i]'hi = f i := (List.getElem_map (f := f) (l := List.range len) (i := i) (h := hi)).trans (congrArg f (List.getElem_range ..))
        rw [ef] at hu
        have hj : j < 10 := by
          rcases Nat.lt_or_ge j 10 with hj | hj
          · exact hj
          · rw [List.getElem?_eq_none (by rw [MC.enc_len]; exact hj)] at hu; cases hu
        have := hc' j hj
        rw [Go.Deep.add_add, add_none] at this
        rw [show o + i * 10 + j = o + (i * 10 + j) from by omega, this]
        exact hu
    · intro x hx
      obtain ⟨i, hi, rfl⟩ := List.mem_map.mp hx
      exact (hfi i (by simpa using hi)).2
end

end Ty
end Go.Proofs.Ytkedhnahgpmkaaa
