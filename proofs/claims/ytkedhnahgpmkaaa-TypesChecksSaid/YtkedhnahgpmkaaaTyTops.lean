/- What the program's Free, Metas, Rigids, Size and Check return, and the reference's Free, Metas and Rigids. Conditions: the type lies in memory. -/
import Derived.Test.YtkedhnahgpmkaaaTyNumsOf
import Derived.Test.YtkedhnahgpmkaaaTyPOrder
namespace Go.Proofs.Ytkedhnahgpmkaaa
open Go.RowKit

namespace Ty
set_option maxHeartbeats 4000000 in
theorem Free_bad (t : Ty) (hp : isProper t = false) (v : Value) (w : World) (hv : V w t v) : Calls Try.prog 12 #[v] w (NumBad w) := by
  have hty := fun W (hb : Below w.heap.size w W) => ptype_any t v W (hv.next hb)
  rw [hp] at hty
  have HT := Lib.hid hty
  clear hty hp
  obtain ⟨b, c, ev, _, _⟩ := hv
  subst ev
  have hb1 : Below w.heap.size w (w.alloc (Obj.cells #[.int .i64 t.op, .int .i64 t.n, .string t.name, .slice b t.args.length c] 24)) := (Below.refl _ _).alloc (Nat.le_refl _) _
  have hbox := two_B4 (W := w) (v0 := .int .i64 t.op) (v1 := .int .i64 t.n) (v2 := .string t.name) (v3 := .slice b t.args.length c)
  have HB1 := Lib.hid hb1
  have HX := Lib.hid hbox
  obtain ⟨c0, c1, c2, c3⟩ := hbox.cells
  clear hb1 hbox
  go_enter Try.func12, Try.ntmps12
  go_wp2_with fail
  refine (HT.out _ HB1.out).mono ?_
  rintro e w2 ⟨rfl, hb⟩
  have HB2 := Lib.hid (HB1.out.trans (hb.mono HB1.out.size))
  clear hb
  go_wp2_with fail
  go_ret2
  exact ⟨rfl, HB2.out⟩
set_option maxHeartbeats 4000000 in
theorem Free_ok (t : Ty) (hp : isProper t = true) (v : Value) (w : World) (hv : V w t v) : Calls Try.prog 12 #[v] w (NumP (colT 1 t) w) := by
  have hty := fun W (hb : Below w.heap.size w W) => ptype_any t v W (hv.next hb)
  have hfr := fun W (hb : Below w.heap.size w W) => free_nums t (Good.of hp) (proper_nodes t hp) v W (hv.next hb)
  rw [hp] at hty
  have HT := Lib.hid hty
  have HF := Lib.hid hfr
  clear hty hp hfr
  obtain ⟨b, c, ev, _, _⟩ := hv
  subst ev
  have hb1 : Below w.heap.size w (w.alloc (Obj.cells #[.int .i64 t.op, .int .i64 t.n, .string t.name, .slice b t.args.length c] 24)) := (Below.refl _ _).alloc (Nat.le_refl _) _
  have hbox := two_B4 (W := w) (v0 := .int .i64 t.op) (v1 := .int .i64 t.n) (v2 := .string t.name) (v3 := .slice b t.args.length c)
  have HB1 := Lib.hid hb1
  have HX := Lib.hid hbox
  obtain ⟨c0, c1, c2, c3⟩ := hbox.cells
  clear hb1 hbox
  go_enter Try.func12, Try.ntmps12
  go_wp2_with fail
  refine (HT.out _ HB1.out).mono ?_
  rintro e w2 ⟨rfl, hb⟩
  have HB2 := Lib.hid (HB1.out.trans (hb.mono HB1.out.size))
  obtain ⟨c0, c1, c2, c3⟩ := (HX.out.next hb).cells
  clear hb
  go_wp2_with fail
  refine (HF.out _ HB2.out).mono ?_
  rintro e w3 ⟨rv, rfl, ho, hb⟩
  have HO := Lib.hid (ho.base HB2.out.size)
  have HB3 := Lib.hid (HB2.out.trans (hb.mono HB2.out.size))
  clear hb ho
  go_wp2_with fail
  go_ret2
  exact ⟨_, rfl, HO.out, HB3.out⟩

set_option maxHeartbeats 4000000 in
theorem Metas_bad (t : Ty) (hp : isProper t = false) (v : Value) (w : World) (hv : V w t v) : Calls Try.prog 13 #[v] w (NumBad w) := by
  have HN := Lib.hid (fun W (hb : Below w.heap.size w W) => nums_bad t hp 6 v W (hv.next hb))
  obtain ⟨b, c, ev, _, _⟩ := hv
  subst ev
  have hb1 : Below w.heap.size w (w.alloc (Obj.cells #[.int .i64 t.op, .int .i64 t.n, .string t.name, .slice b t.args.length c] 24)) := (Below.refl _ _).alloc (Nat.le_refl _) _
  have hbox := two_B4 (W := w) (v0 := .int .i64 t.op) (v1 := .int .i64 t.n) (v2 := .string t.name) (v3 := .slice b t.args.length c)
  have HB1 := Lib.hid hb1
  have HX := Lib.hid hbox
  obtain ⟨c0, c1, c2, c3⟩ := hbox.cells
  clear hb1 hbox
  go_enter Try.func13, Try.ntmps13
  go_wp2_with fail
  refine (HN.out _ HB1.out).mono ?_
  rintro e w2 ⟨rfl, hb⟩
  have HB2 := Lib.hid (HB1.out.trans (hb.mono HB1.out.size))
  clear hb
  go_wp2_with fail
  go_ret2
  exact ⟨rfl, HB2.out⟩
set_option maxHeartbeats 4000000 in
theorem Metas_ok (t : Ty) (hp : isProper t = true) (v : Value) (w : World) (hv : V w t v) : Calls Try.prog 13 #[v] w (NumP (colT 6 t) w) := by
  have HN := Lib.hid (fun W (hb : Below w.heap.size w W) => nums_ok t hp 6 (by omega) v W (hv.next hb))
  obtain ⟨b, c, ev, _, _⟩ := hv
  subst ev
  have hb1 : Below w.heap.size w (w.alloc (Obj.cells #[.int .i64 t.op, .int .i64 t.n, .string t.name, .slice b t.args.length c] 24)) := (Below.refl _ _).alloc (Nat.le_refl _) _
  have hbox := two_B4 (W := w) (v0 := .int .i64 t.op) (v1 := .int .i64 t.n) (v2 := .string t.name) (v3 := .slice b t.args.length c)
  have HB1 := Lib.hid hb1
  have HX := Lib.hid hbox
  obtain ⟨c0, c1, c2, c3⟩ := hbox.cells
  clear hb1 hbox
  go_enter Try.func13, Try.ntmps13
  go_wp2_with fail
  refine (HN.out _ HB1.out).mono ?_
  rintro e w2 ⟨rv, rfl, ho, hb⟩
  have HO := Lib.hid (ho.base HB1.out.size)
  have HB2 := Lib.hid (HB1.out.trans (hb.mono HB1.out.size))
  clear hb ho
  go_wp2_with fail
  go_ret2
  exact ⟨_, rfl, HO.out, HB2.out⟩

set_option maxHeartbeats 4000000 in
theorem Rigids_bad (t : Ty) (hp : isProper t = false) (v : Value) (w : World) (hv : V w t v) : Calls Try.prog 14 #[v] w (NumBad w) := by
  have HN := Lib.hid (fun W (hb : Below w.heap.size w W) => nums_bad t hp 7 v W (hv.next hb))
  obtain ⟨b, c, ev, _, _⟩ := hv
  subst ev
  have hb1 : Below w.heap.size w (w.alloc (Obj.cells #[.int .i64 t.op, .int .i64 t.n, .string t.name, .slice b t.args.length c] 24)) := (Below.refl _ _).alloc (Nat.le_refl _) _
  have hbox := two_B4 (W := w) (v0 := .int .i64 t.op) (v1 := .int .i64 t.n) (v2 := .string t.name) (v3 := .slice b t.args.length c)
  have HB1 := Lib.hid hb1
  have HX := Lib.hid hbox
  obtain ⟨c0, c1, c2, c3⟩ := hbox.cells
  clear hb1 hbox
  go_enter Try.func14, Try.ntmps14
  go_wp2_with fail
  refine (HN.out _ HB1.out).mono ?_
  rintro e w2 ⟨rfl, hb⟩
  have HB2 := Lib.hid (HB1.out.trans (hb.mono HB1.out.size))
  clear hb
  go_wp2_with fail
  go_ret2
  exact ⟨rfl, HB2.out⟩
set_option maxHeartbeats 4000000 in
theorem Rigids_ok (t : Ty) (hp : isProper t = true) (v : Value) (w : World) (hv : V w t v) : Calls Try.prog 14 #[v] w (NumP (colT 7 t) w) := by
  have HN := Lib.hid (fun W (hb : Below w.heap.size w W) => nums_ok t hp 7 (by omega) v W (hv.next hb))
  obtain ⟨b, c, ev, _, _⟩ := hv
  subst ev
  have hb1 : Below w.heap.size w (w.alloc (Obj.cells #[.int .i64 t.op, .int .i64 t.n, .string t.name, .slice b t.args.length c] 24)) := (Below.refl _ _).alloc (Nat.le_refl _) _
  have hbox := two_B4 (W := w) (v0 := .int .i64 t.op) (v1 := .int .i64 t.n) (v2 := .string t.name) (v3 := .slice b t.args.length c)
  have HB1 := Lib.hid hb1
  have HX := Lib.hid hbox
  obtain ⟨c0, c1, c2, c3⟩ := hbox.cells
  clear hb1 hbox
  go_enter Try.func14, Try.ntmps14
  go_wp2_with fail
  refine (HN.out _ HB1.out).mono ?_
  rintro e w2 ⟨rv, rfl, ho, hb⟩
  have HO := Lib.hid (ho.base HB1.out.size)
  have HB2 := Lib.hid (HB1.out.trans (hb.mono HB1.out.size))
  clear hb ho
  go_wp2_with fail
  go_ret2
  exact ⟨_, rfl, HO.out, HB2.out⟩

def sizeV (t : Ty) : Value := if isProper t = true then .tuple #[.int .i64 (nodes t), .int .i64 0] else .tuple #[.int .i64 0, .int .i64 2]
theorem sizeV_ok {t : Ty} (h : isProper t = true) : sizeV t = .tuple #[.int .i64 (nodes t), .int .i64 0] := if_pos h
theorem sizeV_bad {t : Ty} (h : isProper t = false) : sizeV t = .tuple #[.int .i64 0, .int .i64 2] := if_neg (by rw [h]; simp)
set_option maxHeartbeats 4000000 in
theorem Size_any (t : Ty) (v : Value) (w : World) (hv : V w t v) : Calls Try.prog 15 #[v] w fun e w' => e = .returned (sizeV t) ∧ Below w.heap.size w w' := by
  have hty := fun W (hb : Below w.heap.size w W) => ptype_any t v W (hv.next hb)
  have hsz := fun (hp : isProper t = true) W (hb : Below w.heap.size w W) => psize_any t (Good.of hp) (proper_nodes t hp) v W (hv.next hb)
  have HT := Lib.hid hty
  have HS := Lib.hid hsz
  clear hty hsz
  obtain ⟨b, c, ev, _, _⟩ := hv
  subst ev
  have hb1 : Below w.heap.size w (w.alloc (Obj.cells #[.int .i64 t.op, .int .i64 t.n, .string t.name, .slice b t.args.length c] 24)) := (Below.refl _ _).alloc (Nat.le_refl _) _
  have hbox := two_B4 (W := w) (v0 := .int .i64 t.op) (v1 := .int .i64 t.n) (v2 := .string t.name) (v3 := .slice b t.args.length c)
  have HB1 := Lib.hid hb1
  have HX := Lib.hid hbox
  obtain ⟨c0, c1, c2, c3⟩ := hbox.cells
  clear hb1 hbox
  cases hp : isProper t with
  | false =>
    rw [hp] at HT
    have HV := Lib.hid (sizeV_bad hp)
    clear hp HS
    go_enter Try.func15, Try.ntmps15
    go_wp2_with fail
    refine (HT.out _ HB1.out).mono ?_
    rintro e w2 ⟨rfl, hb⟩
    have HB2 := Lib.hid (HB1.out.trans (hb.mono HB1.out.size))
    clear hb
    go_wp2_with fail
    go_ret2
    exact ⟨ret_eq (by rw [HV.out]; rfl), HB2.out⟩
  | true =>
    rw [hp] at HT
    have HV := Lib.hid (sizeV_ok hp)
    have HS2 := Lib.hid (HS.out hp)
    clear hp HS
    go_enter Try.func15, Try.ntmps15
    go_wp2_with fail
    refine (HT.out _ HB1.out).mono ?_
    rintro e w2 ⟨rfl, hb⟩
    have HB2 := Lib.hid (HB1.out.trans (hb.mono HB1.out.size))
    obtain ⟨c0, c1, c2, c3⟩ := (HX.out.next hb).cells
    clear hb
    go_wp2_with fail
    refine (HS2.out _ HB2.out).mono ?_
    rintro e w3 ⟨rfl, hb⟩
    have HB3 := Lib.hid (HB2.out.trans (hb.mono HB2.out.size))
    clear hb
    go_wp2_with fail
    go_ret2
    exact ⟨ret_eq (by rw [HV.out]; rfl), HB3.out⟩
set_option maxHeartbeats 4000000 in
theorem Check_any (t : Ty) (v : Value) (w : World) (hv : V w t v) : Calls Try.prog 16 #[v] w fun e w' => e = .returned (.int .i64 (if isProper t = true then 0 else 2)) ∧ Below w.heap.size w w' := by
  have hty := fun W (hb : Below w.heap.size w W) => ptype_any t v W (hv.next hb)
  have HT := Lib.hid hty
  clear hty
  obtain ⟨b, c, ev, _, _⟩ := hv
  subst ev
  have hb1 : Below w.heap.size w (w.alloc (Obj.cells #[.int .i64 t.op, .int .i64 t.n, .string t.name, .slice b t.args.length c] 24)) := (Below.refl _ _).alloc (Nat.le_refl _) _
  have hbox := two_B4 (W := w) (v0 := .int .i64 t.op) (v1 := .int .i64 t.n) (v2 := .string t.name) (v3 := .slice b t.args.length c)
  have HB1 := Lib.hid hb1
  have HX := Lib.hid hbox
  obtain ⟨c0, c1, c2, c3⟩ := hbox.cells
  clear hb1 hbox
  cases hp : isProper t with
  | false =>
    rw [hp] at HT
    go_enter Try.func16, Try.ntmps16
    go_wp2_with fail
    refine (HT.out _ HB1.out).mono ?_
    rintro e w2 ⟨rfl, hb⟩
    have HB2 := Lib.hid (HB1.out.trans (hb.mono HB1.out.size))
    clear hb
    go_wp2_with fail
    go_ret
    exact ⟨rfl, HB2.out⟩
  | true =>
    rw [hp] at HT
    go_enter Try.func16, Try.ntmps16
    go_wp2_with fail
    refine (HT.out _ HB1.out).mono ?_
    rintro e w2 ⟨rfl, hb⟩
    have HB2 := Lib.hid (HB1.out.trans (hb.mono HB1.out.size))
    clear hb
    go_wp2_with fail
    go_ret
    exact ⟨rfl, HB2.out⟩

set_option maxHeartbeats 4000000 in
theorem RFree_any (t : Ty) (hg : Good t) (hn : nodes t ≤ 600) (v : Value) (w : World) (hv : V w t v) : Calls Try.prog 20 #[v] w (AddP w.heap.size (colT 1 t) w) := by
  have HC := Lib.hid (fun W (hb : Below w.heap.size w W) => col_any 1 (by omega) t hg v 0 w.heap.size (.slice none 0 0) [] W (hv.next hb) (World.ownsRow_nil _ _ _ _) hb.size (by omega) (by simp; omega))
  clear hg hn
  obtain ⟨b, c, ev, _, _⟩ := hv
  subst ev
  have hb1 : Below w.heap.size w (w.alloc (Obj.cells #[.int .i64 t.op, .int .i64 t.n, .string t.name, .slice b t.args.length c] 24)) := (Below.refl _ _).alloc (Nat.le_refl _) _
  have hbox := two_B4 (W := w) (v0 := .int .i64 t.op) (v1 := .int .i64 t.n) (v2 := .string t.name) (v3 := .slice b t.args.length c)
  have HB1 := Lib.hid hb1
  have HX := Lib.hid hbox
  obtain ⟨c0, c1, c2, c3⟩ := hbox.cells
  clear hb1 hbox
  go_enter Try.func20, Try.ntmps20
  go_wp2_with fail
  refine (HC.out _ HB1.out).mono ?_
  rintro e w2 ⟨rv, rfl, ho, hb⟩
  have HO := Lib.hid ho
  have HB2 := Lib.hid (HB1.out.trans (hb.mono HB1.out.size))
  clear hb ho
  go_wp2_with fail
  go_ret
  exact ⟨_, rfl, HO.out, HB2.out⟩

set_option maxHeartbeats 4000000 in
theorem RMetas_any (t : Ty) (hg : Good t) (hn : nodes t ≤ 600) (v : Value) (w : World) (hv : V w t v) : Calls Try.prog 21 #[v] w (AddP w.heap.size (colT 6 t) w) := by
  have HC := Lib.hid (fun W (hb : Below w.heap.size w W) => col_any 6 (by omega) t hg v 0 w.heap.size (.slice none 0 0) [] W (hv.next hb) (World.ownsRow_nil _ _ _ _) hb.size (by omega) (by simp; omega))
  clear hg hn
  obtain ⟨b, c, ev, _, _⟩ := hv
  subst ev
  have hb1 : Below w.heap.size w (w.alloc (Obj.cells #[.int .i64 t.op, .int .i64 t.n, .string t.name, .slice b t.args.length c] 24)) := (Below.refl _ _).alloc (Nat.le_refl _) _
  have hbox := two_B4 (W := w) (v0 := .int .i64 t.op) (v1 := .int .i64 t.n) (v2 := .string t.name) (v3 := .slice b t.args.length c)
  have HB1 := Lib.hid hb1
  have HX := Lib.hid hbox
  obtain ⟨c0, c1, c2, c3⟩ := hbox.cells
  clear hb1 hbox
  go_enter Try.func21, Try.ntmps21
  go_wp2_with fail
  refine (HC.out _ HB1.out).mono ?_
  rintro e w2 ⟨rv, rfl, ho, hb⟩
  have HO := Lib.hid ho
  have HB2 := Lib.hid (HB1.out.trans (hb.mono HB1.out.size))
  clear hb ho
  go_wp2_with fail
  go_ret
  exact ⟨_, rfl, HO.out, HB2.out⟩

set_option maxHeartbeats 4000000 in
theorem RRigids_any (t : Ty) (hg : Good t) (hn : nodes t ≤ 600) (v : Value) (w : World) (hv : V w t v) : Calls Try.prog 22 #[v] w (AddP w.heap.size (colT 7 t) w) := by
  have HC := Lib.hid (fun W (hb : Below w.heap.size w W) => col_any 7 (by omega) t hg v 0 w.heap.size (.slice none 0 0) [] W (hv.next hb) (World.ownsRow_nil _ _ _ _) hb.size (by omega) (by simp; omega))
  clear hg hn
  obtain ⟨b, c, ev, _, _⟩ := hv
  subst ev
  have hb1 : Below w.heap.size w (w.alloc (Obj.cells #[.int .i64 t.op, .int .i64 t.n, .string t.name, .slice b t.args.length c] 24)) := (Below.refl _ _).alloc (Nat.le_refl _) _
  have hbox := two_B4 (W := w) (v0 := .int .i64 t.op) (v1 := .int .i64 t.n) (v2 := .string t.name) (v3 := .slice b t.args.length c)
  have HB1 := Lib.hid hb1
  have HX := Lib.hid hbox
  obtain ⟨c0, c1, c2, c3⟩ := hbox.cells
  clear hb1 hbox
  go_enter Try.func22, Try.ntmps22
  go_wp2_with fail
  refine (HC.out _ HB1.out).mono ?_
  rintro e w2 ⟨rv, rfl, ho, hb⟩
  have HO := Lib.hid ho
  have HB2 := Lib.hid (HB1.out.trans (hb.mono HB1.out.size))
  clear hb ho
  go_wp2_with fail
  go_ret
  exact ⟨_, rfl, HO.out, HB2.out⟩
end Ty
end Go.Proofs.Ytkedhnahgpmkaaa
