/- What strings.CutPrefix returns for the prefix of a promoted constructor. Conditions: the string is not longer than a slice may be. -/
import Derived.Test.YtfjgebdpbmnicaaJ25
import Derived.Test.YtfjgebdpbmnicaaJ24
import Derived.Test.YtfjgebdpbmnicaaJ20
namespace Go.Proofs.Ytfjgebdpbmnicaa
open Go.RowKit

namespace Ty
theorem ext_head (a : UInt8) (r : List UInt8) : (⟨(a :: r).toArray⟩ : ByteArray).extract 0 1 = ⟨#[a]⟩ := by
  ext1
  rw [ByteArray.data_extract]
  simp
theorem ext_tail (a : UInt8) (r : List UInt8) : (⟨(a :: r).toArray⟩ : ByteArray).extract 1 (r.length + 1) = ⟨r.toArray⟩ := by
  ext1
  rw [ByteArray.data_extract]
  simp
set_option maxHeartbeats 2000000 in
theorem hasp_nil (w : World) : Calls Try.prog 73 #[.string ⟨#[]⟩, .string ⟨#[39]⟩] w fun e w' => e = .returned (.bool false) ∧ w' = w := by
  go_enter Try.func73, Try.ntmps73
  go_wp2_with fail
  go_ret
  exact ⟨rfl, rfl⟩
set_option maxHeartbeats 2000000 in
theorem hasp_cons (a : UInt8) (r : List UInt8) (w : World) : Calls Try.prog 73 #[.string ⟨(a :: r).toArray⟩, .string ⟨#[39]⟩] w fun e w' => e = .returned (.bool (a == 39)) ∧ w' = w := by
  go_enter Try.func73, Try.ntmps73
  go_wp2_with fail
  go_ret
  refine ⟨ret_bool ?_, rfl⟩
  rw [ext_head, Lib.toList_data]
  show ([a] == [39]) = (a == 39)
  simp
theorem results_tt {fn : Func} {a b : Tmp} (hfn : fn.results = #[.tmp a, .tmp b]) {tmps : Array Value} {w : World} {u y : Value} (h : tmps.getD a undef = u) (hu : tmps.getD b undef = y) : (results fn tmps).run Try.prog w = .ok (.tuple #[u, y]) w := by
  have h' : tmps[a]?.getD undef = u := by rw [← h]; simp
  have hu' : tmps[b]?.getD undef = y := by rw [← hu]; simp
  simp [results, hfn, h', hu', go_sem]
/-- what is left behind the prefix, and whether it was there -/
def cutP (s : List UInt8) : List UInt8 × Bool := match s with | 39 :: r => (r, true) | s => (s, false)
set_option maxHeartbeats 2000000 in
theorem cut0_no (s : List UInt8) (hn : (cutP s).2 = false) (w : World) : Calls Try.prog 52 #[.string ⟨s.toArray⟩, .string ⟨#[39]⟩] w fun e w' => e = .returned (.tuple #[.string ⟨s.toArray⟩, .bool false]) ∧ w' = w := by
  have HC : Hid (Calls Try.prog 73 #[.string ⟨s.toArray⟩, .string ⟨#[39]⟩] w fun e w' => e = .returned (.bool false) ∧ w' = w) := Lib.hid (by
    cases s with
    | nil => exact hasp_nil w
    | cons a r =>
      have ha : (a == 39) = false := by
        cases h : a == 39 with
        | false => rfl
        | true =>
          have : a = 39 := by simpa using h
          subst this
          cases hn
      rw [← ha]
      exact hasp_cons a r w)
  clear hn
  go_enter Try.func52, Try.ntmps52
  go_wp2_with fail
  refine HC.out.mono ?_
  rintro e w' ⟨rfl, rfl⟩
  go_wp2_with fail
  refine bodyPost_ret (results_tt (a := 4) (b := 5) (by kernel_rfl) (by rfl) (by rfl)) rfl ?_
  exact ⟨rfl, rfl⟩
set_option maxHeartbeats 2000000 in
theorem cut0_yes (r : List UInt8) (w : World) : Calls Try.prog 52 #[.string ⟨(39 :: r).toArray⟩, .string ⟨#[39]⟩] w fun e w' => e = .returned (.tuple #[.string ⟨r.toArray⟩, .bool true]) ∧ w' = w := by
  have HC := Lib.hid (hasp_cons 39 r w)
  go_enter Try.func52, Try.ntmps52
  go_wp2_with fail
  refine HC.out.mono ?_
  rintro e w' ⟨rfl, rfl⟩
  go_wp2_with fail
  refine bodyPost_ret (results_tt (a := 4) (b := 5) (by kernel_rfl) (by rfl) (by rfl)) rfl ?_
  exact ⟨by rw [ext_tail]; rfl, rfl⟩
set_option maxHeartbeats 2000000 in
theorem cut_any (s : List UInt8) (w : World) : Calls Try.prog 21 #[.string ⟨s.toArray⟩, .string ⟨#[39]⟩] w fun e w' => e = .returned (.tuple #[.string ⟨(cutP s).1.toArray⟩, .bool (cutP s).2]) ∧ w' = w := by
  have HC : Hid (Calls Try.prog 52 #[.string ⟨s.toArray⟩, .string ⟨#[39]⟩] w fun e w' => e = .returned (.tuple #[.string ⟨(cutP s).1.toArray⟩, .bool (cutP s).2]) ∧ w' = w) := Lib.hid (by
    by_cases h : ∃ r, s = 39 :: r
    · obtain ⟨r, rfl⟩ := h
      exact cut0_yes r w
    · have h2 : cutP s = (s, false) := by
        unfold cutP
        split
        · rename_i r
          exact absurd ⟨r, rfl⟩ h
        · rfl
      rw [h2]
      exact cut0_no s (by rw [h2]) w)
  generalize cutP s = p at *
  go_enter Try.func21, Try.ntmps21
  go_wp2_with fail
  refine HC.out.mono ?_
  rintro e w' ⟨rfl, rfl⟩
  go_wp2_with fail
  refine bodyPost_ret (results_tt (a := 4) (b := 5) (by kernel_rfl) (by rfl) (by rfl)) rfl ?_
  exact ⟨rfl, rfl⟩
end Ty
end Go.Proofs.Ytfjgebdpbmnicaa

/- Shift, Put, Fun and Apply with all their outcomes; types.Check, kind's isProper, anew and declared. Conditions: the types lie in memory. -/
namespace Go.Proofs.Ytfjgebdpbmnicaa
open Go.RowKit

namespace Ty
/-- a type and an error's number are returned, the type in new blocks -/
def ResO (r : Res) (w : World) (e : Ending) (w' : World) : Prop := ∃ k n v, r.is k n ∧ e = .returned (.tuple #[v, .int .i64 n]) ∧ VO (w.heap.size ≤ ·) w' k v ∧ Below w.heap.size w w'
theorem vo_zero (ok : Nat → Prop) (w : World) : VO ok w zeroT zeroV := ⟨none, 0, rfl, Nat.zero_le _, Nat.zero_le _, .inl rfl⟩
theorem resO_bad {c : Int} (hc : c ≠ 0) {w w' : World} {e : Ending} (h : BadP c w e w') : ResO (.bad c) w e w' := ⟨zeroT, c, zeroV, ⟨rfl, rfl, hc⟩, h.1, vo_zero _ _, h.2⟩
theorem resO_full {t : Ty} {w w' : World} {e : Ending} {v : Value} (he : e = .returned (fullV t v)) (hv : VO (w.heap.size ≤ ·) w' t v) (hb : Below w.heap.size w w') : ResO (fullT t) w e w' := by
  unfold fullT
  cases hp : isProper t with
  | true =>
    rw [fullV_ok hp] at he
    exact ⟨t, 0, v, ⟨rfl, rfl⟩, he, hv, hb⟩
  | false =>
    rw [fullV_bad hp] at he
    exact ⟨zeroT, 5, zeroV, ⟨rfl, rfl, by decide⟩, he, vo_zero _ _, hb⟩
theorem shift_o (t : Ty) (d : Int) (v : Value) (w : World) (hv : V w t v) : Calls Try.prog 32 #[v, .int .i64 d, .int .i64 0] w (ResO (shiftR t d) w) := by
  unfold shiftR
  cases ha : argB t d 0 with
  | false => exact (pshift_bad t d 0 v w hv ha).mono fun _ _ h => resO_bad (by decide) h
  | true =>
    cases hk : (shiftT d 0 t).2 with
    | false => exact (pshift_none t d 0 v w hv ha hk).mono fun _ _ h => resO_bad (by decide) h
    | true => exact (pshift_full t d 0 v w hv ha hk).mono fun _ _ ⟨u, h1, h2, h3⟩ => resO_full h1 h2 h3
theorem no_and {a b : Bool} (h : ¬ (a = true ∧ b = true)) : a = false ∨ b = false := by cases a <;> cases b <;> simp_all
theorem put_o (t : Ty) (l : List Ty) (v : Value) (base : Option Addr) (cap : Nat) (w : World) (hv : V w t v) (hl : Sl w base l) : Calls Try.prog 72 #[v, .slice base l.length cap] w (ResO (putR l t) w) := by
  unfold putR
  by_cases h : isProper t = true ∧ propersT l = true
  · rw [if_pos h]
    exact (put_ok t l v base cap w hv hl h.1 h.2).mono fun _ _ ⟨u, h1, h2, h3⟩ => resO_full h1 h2 h3
  · rw [if_neg h]
    exact (put_bad t l v base cap w hv hl (no_and h)).mono fun _ _ h => resO_bad (by decide) h
theorem app_o2 (t : Ty) (l : List Ty) (v : Value) (base : Option Addr) (cap : Nat) (w : World) (hv : V w t v) (hl : Sl w base l) : Calls Try.prog 75 #[v, .slice base l.length cap] w (ResO (appR t l) w) := by
  unfold appR
  by_cases h : isProper t = true ∧ propersT l = true
  · rw [if_pos h]
    exact (papply_ok t l v base cap w hv hl h.1 h.2).mono fun _ _ ⟨u, h1, h2, h3⟩ => resO_full h1 h2 h3
  · rw [if_neg h]
    exact (papply_bad t l v base cap w hv hl (no_and h)).mono fun _ _ h => resO_bad (by decide) h
theorem fun_o2 (t : Ty) (l : List Ty) (v : Value) (base : Option Addr) (cap : Nat) (w : World) (hv : V w t v) (hl : Sl w base l) : Calls Try.prog 30 #[.slice base l.length cap, v] w (ResO (funR l t) w) := by
  unfold funR
  by_cases h : isProper t = true ∧ propersT l = true
  · rw [if_pos h]
    exact (pfun_ok t l v base cap w hv hl h.1 h.2).mono fun _ _ ⟨u, h1, h2, h3⟩ => resO_full h1 h2 h3
  · rw [if_neg h]
    exact (pfun_bad t l v base cap w hv hl (no_and h)).mono fun _ _ h => resO_bad (by decide) h

set_option maxHeartbeats 2000000 in
theorem check_any (x : Ty) (v : Value) (w : World) (hv : V w x v) : Calls Try.prog 42 #[v] w fun e w' => e = .returned (.int .i64 (if isProper x = true then 0 else 2)) ∧ Below w.heap.size w w' := by
  have hty := fun W (hb : Below w.heap.size w W) => ptype_any x v W (hv.next hb)
  obtain ⟨b, c, ev, _, _⟩ := hv
  subst ev
  obtain ⟨c0, c1, c2, c3⟩ := box4 w (.int .i64 x.op) (.int .i64 x.n) (.string x.name) (.slice b x.args.length c)
  have hb1 : Below w.heap.size w (w.alloc (Obj.cells #[.int .i64 x.op, .int .i64 x.n, .string x.name, .slice b x.args.length c] 36)) := (Below.refl _ _).alloc (Nat.le_refl _) _
  have HC := Lib.hid hty
  have HB := Lib.hid hb1
  clear hty hb1
  cases hp : isProper x with
  | true =>
    rw [hp] at HC
    clear hp
    go_enter Try.func42, Try.ntmps42
    go_wp2_with fail
    refine (HC.out _ HB.out).mono ?_
    rintro e w2 ⟨rfl, hb⟩
    have HB2 := Lib.hid (HB.out.trans (hb.mono HB.out.size))
    clear hb
    go_wp2_with fail
    go_ret
    exact ⟨rfl, HB2.out⟩
  | false =>
    rw [hp] at HC
    clear hp
    go_enter Try.func42, Try.ntmps42
    go_wp2_with fail
    refine (HC.out _ HB.out).mono ?_
    rintro e w2 ⟨rfl, hb⟩
    have HB2 := Lib.hid (HB.out.trans (hb.mono HB.out.size))
    clear hb
    go_wp2_with fail
    go_ret
    exact ⟨rfl, HB2.out⟩
set_option maxHeartbeats 2000000 in
theorem isprop_any (x : Ty) (v : Value) (w : World) (hv : V w x v) : Calls Try.prog 15 #[v] w fun e w' => e = .returned (.bool (isProper x)) ∧ Below w.heap.size w w' := by
  have hty := fun W (hb : Below w.heap.size w W) => check_any x v W (hv.next hb)
  obtain ⟨b, c, ev, _, _⟩ := hv
  subst ev
  obtain ⟨c0, c1, c2, c3⟩ := box4 w (.int .i64 x.op) (.int .i64 x.n) (.string x.name) (.slice b x.args.length c)
  have hb1 : Below w.heap.size w (w.alloc (Obj.cells #[.int .i64 x.op, .int .i64 x.n, .string x.name, .slice b x.args.length c] 36)) := (Below.refl _ _).alloc (Nat.le_refl _) _
  have HC := Lib.hid hty
  have HB := Lib.hid hb1
  clear hty hb1
  cases hp : isProper x with
  | true =>
    rw [hp] at HC
    clear hp
    go_enter Try.func15, Try.ntmps15
    go_wp2_with fail
    refine (HC.out _ HB.out).mono ?_
    rintro e w2 ⟨rfl, hb⟩
    have HB2 := Lib.hid (HB.out.trans (hb.mono HB.out.size))
    clear hb
    go_wp2_with fail
    go_ret
    exact ⟨rfl, HB2.out⟩
  | false =>
    rw [hp] at HC
    clear hp
    go_enter Try.func15, Try.ntmps15
    go_wp2_with fail
    refine (HC.out _ HB.out).mono ?_
    rintro e w2 ⟨rfl, hb⟩
    have HB2 := Lib.hid (HB.out.trans (hb.mono HB.out.size))
    clear hb
    go_wp2_with fail
    go_ret
    exact ⟨rfl, HB2.out⟩

/-- what kind's anew makes of a type -/
def anewV (t : Ty) : Ty := (shiftR t 0).val
theorem is_val {r : Res} {k : Ty} {n : Int} (h : r.is k n) : r.val = k := by
  cases r with
  | ok k' => exact h.1.symm
  | bad c => exact h.1.symm
set_option maxHeartbeats 2000000 in
theorem anewk_any (t : Ty) (v : Value) (w : World) (hv : V w t v) : Calls Try.prog 9 #[v] w (RetF (anewV t) w) := by
  have hsh := fun W (hb : Below w.heap.size w W) => shift_o t 0 v W (hv.next hb)
  obtain ⟨b, c, ev, _, _⟩ := hv
  subst ev
  obtain ⟨ht1, ht2⟩ := two_boxes w (.int .i64 t.op) (.int .i64 t.n) (.string t.name) (.slice b t.args.length c) (.int .i64 0) (.int .i64 0) (.string ⟨#[]⟩) (.slice none 0 0)
  have hb2 : Below w.heap.size w ((w.alloc (Obj.cells #[.int .i64 t.op, .int .i64 t.n, .string t.name, .slice b t.args.length c] 36)).alloc (Obj.cells #[.int .i64 0, .int .i64 0, .string ⟨#[]⟩, .slice none 0 0] 36)) := below_two w _ _
  have HT1 := Lib.hid ht1
  have HT2 := Lib.hid ht2
  have HB2 := Lib.hid hb2
  have HC := Lib.hid hsh
  clear ht1 ht2 hb2 hsh
  go_enter Try.func9, Try.ntmps9
  go_upto_region 1 with fail
  obtain ⟨W2, hW2⟩ : ∃ W2, W2 = (w.alloc (Obj.cells #[.int .i64 t.op, .int .i64 t.n, .string t.name, .slice b t.args.length c] 36)).alloc (Obj.cells #[.int .i64 0, .int .i64 0, .string ⟨#[]⟩, .slice none 0 0] 36) := ⟨_, rfl⟩
  have hs2 : W2.heap.size = w.heap.size + 2 := by rw [hW2]; simp
  rw [← hW2] at HT1 HT2 HB2 ⊢
  clear hW2
  obtain ⟨c0, c1, c2, c3⟩ := HT1.out.cells
  go_wp2_with fail
  refine (HC.out W2 HB2.out).mono ?_
  rintro e w3 ⟨k, n, v, hk, rfl, hvo, hb⟩
  have HK := Lib.hid (is_val hk)
  obtain ⟨b3, k3, rfl, hs3, hl3⟩ := hvo
  have hal : Below w3.heap.size w3 (w3.alloc (Obj.cells #[.int .i64 k.op, .int .i64 k.n, .string k.name, .slice b3 k.args.length k3] 36)) := (Below.refl _ _).alloc (Nat.le_refl _) _
  have HB3 := Lib.hid ((HB2.out.trans (hb.mono HB2.out.size)).trans (hal.mono (by have := HB2.out.size; have := hb.size; omega)))
  have HR3 := Lib.hid ((HT2.out.next hb).next hal)
  have HN3 : Hid (B4 (w3.alloc (Obj.cells #[.int .i64 k.op, .int .i64 k.n, .string k.name, .slice b3 k.args.length k3] 36)) w3.heap.size (.int .i64 k.op) (.int .i64 k.n) (.string k.name) (.slice b3 k.args.length k3)) := Lib.hid (heap_alloc_new _ _)
  have HV3 : Hid (VO (W2.heap.size ≤ ·) (w3.alloc (Obj.cells #[.int .i64 k.op, .int .i64 k.n, .string k.name, .slice b3 k.args.length k3] 36)) k (.agg #[.int .i64 k.op, .int .i64 k.n, .string k.name, .slice b3 k.args.length k3])) := Lib.hid (VO.next hal ⟨b3, k3, rfl, hs3, hl3⟩)
  have HSZ := Lib.hid hs2
  clear hs3 hl3 hb hal hk c0 c1 c2 c3 HT1 HT2 HB2 HC hs2
  go_upto_region 2 with fail
  obtain ⟨W4, hW4⟩ : ∃ W4, W4 = w3.alloc (Obj.cells #[.int .i64 k.op, .int .i64 k.n, .string k.name, .slice b3 k.args.length k3] 36) := ⟨_, rfl⟩
  rw [← hW4] at HB3 HR3 HN3 HV3 ⊢
  clear hW4
  obtain ⟨d0, d1, d2, d3⟩ := HN3.out.cells
  obtain ⟨z0, z1, z2, z3⟩ := HR3.out.cells
  have f0 := HR3.out.frozen 0
  have f1 := HR3.out.frozen 1
  have f2 := HR3.out.frozen 2
  have f3 := HR3.out.frozen 3
  go_wp2_with fail
  refine bodyPost_ret (results_ty (a := 2) (by kernel_rfl) (B := w.heap.size + 1) (by rfl) (put4_cells HR3.out _ _ _ _).cells.1 (put4_cells HR3.out _ _ _ _).cells.2.1 (put4_cells HR3.out _ _ _ _).cells.2.2.1 (put4_cells HR3.out _ _ _ _).cells.2.2.2) rfl ?_
  have hsz := HSZ.out
  refine ⟨_, rfl, ?_, below_put4 HB3.out (by omega) _ _ _ _⟩
  rw [show anewV t = k from HK.out]
  exact HV3.out.keep (fun g hg => by show w.heap.size ≤ g; have : W2.heap.size ≤ g := hg; omega) (fun p v hp hc => put4_keep _ _ _ _ p v hc (by have : W2.heap.size ≤ p.block := hp; omega))

/-- a box with five cells: a constant's kind and arity -/
abbrev B5 (w : World) (m : Nat) (v0 v1 v2 v3 v4 : Value) : Prop := w.heap[m]? = some (Obj.cells #[v0, v1, v2, v3, v4] 51)
theorem B5.cells {w : World} {m : Nat} {v0 v1 v2 v3 v4 : Value} (h : B5 w m v0 v1 v2 v3 v4) : w.cell? ⟨m, 0, none⟩ = some v0 ∧ w.cell? ⟨m, 1, none⟩ = some v1 ∧ w.cell? ⟨m, 2, none⟩ = some v2 ∧ w.cell? ⟨m, 3, none⟩ = some v3 ∧ w.cell? ⟨m, 4, none⟩ = some v4 :=
  ⟨cell_of_row w m 0 _ 51 (0, 0) h, cell_of_row w m 1 _ 51 (0, 0) h, cell_of_row w m 2 _ 51 (0, 0) h, cell_of_row w m 3 _ 51 (0, 0) h, cell_of_row w m 4 _ 51 (0, 0) h⟩
theorem B5.frozen {w : World} {m : Nat} {v0 v1 v2 v3 v4 : Value} (h : B5 w m v0 v1 v2 v3 v4) (i : Nat) : w.frozen? ⟨m, i, none⟩ = false := by
  unfold World.frozen?
  rw [show w.heap[m]? = _ from h]
  simp
theorem B5.next {w w' : World} {m : Nat} {v0 v1 v2 v3 v4 : Value} (h : B5 w m v0 v1 v2 v3 v4) (hb : Below w.heap.size w w') : B5 w' m v0 v1 v2 v3 v4 := (hb.block m (lt_of_block h)).trans h
def put5 (w : World) (B : Nat) (v0 v1 v2 v3 v4 : Value) : World := ((((w.setCell ⟨B, 0, none⟩ v0).setCell ⟨B, 1, none⟩ v1).setCell ⟨B, 2, none⟩ v2).setCell ⟨B, 3, none⟩ v3).setCell ⟨B, 4, none⟩ v4
theorem put5_cells {w : World} {B : Nat} {u0 u1 u2 u3 u4 : Value} (h : B5 w B u0 u1 u2 u3 u4) (v0 v1 v2 v3 v4 : Value) : B5 (put5 w B v0 v1 v2 v3 v4) B v0 v1 v2 v3 v4 := by
  have h' : w.heap[B]? = some (Obj.cells #[u0, u1, u2, u3, u4] 51) := h
  unfold B5 put5
  simp [World.setCell, Array.getElem?_modify, h']
theorem below_put5 {w W : World} {B : Nat} (h : Below w.heap.size w W) (hB : w.heap.size ≤ B) (v0 v1 v2 v3 v4 : Value) : Below w.heap.size w (put5 W B v0 v1 v2 v3 v4) :=
  ((((h.setCell hB _).setCell hB _).setCell hB _).setCell hB _).setCell hB _
theorem put5_keep {W : World} {B : Nat} (v0 v1 v2 v3 v4 : Value) (p : Addr) (v : Value) (h : W.cell? p = some v) (hp : p.block ≠ B) : (put5 W B v0 v1 v2 v3 v4).cell? p = some v := by
  unfold put5
  rw [World.cell?_setCell_other _ _ _ _ (fun e => hp (by rw [← e]))]
  exact put4_keep v0 v1 v2 v3 p v h hp
theorem results_con {fn : Func} {a b : Tmp} (hfn : fn.results = #[.cell a 51, .tmp b]) {tmps : Array Value} {w : World} {B : Nat} {v0 v1 v2 v3 v4 u : Value} (h : tmps.getD a undef = .pointer (some ⟨B, 0, none⟩)) (hu : tmps.getD b undef = u) (hB : B5 w B v0 v1 v2 v3 v4) :
    (results fn tmps).run Try.prog w = .ok (.tuple #[.agg #[v0, v1, v2, v3, v4], u]) w := by
  have h' : tmps[a]?.getD undef = .pointer (some ⟨B, 0, none⟩) := by rw [← h]; simp
  have hu' : tmps[b]?.getD undef = u := by rw [← hu]; simp
  obtain ⟨c0, c1, c2, c3, c4⟩ := hB.cells
  simp [results, hfn, h', hu', c0, c1, c2, c3, c4, go_sem]
/-- a constant's kind and arity as a value -/
def CV (ok : Nat → Prop) (k : Ty) (a : Int) (w : World) (c : Value) : Prop := ∃ b cap, c = .agg #[.int .i64 k.op, .int .i64 k.n, .string k.name, .slice b k.args.length cap, .int .i64 a] ∧ k.s.length ≤ maxLen ∧ SlO ok w b k.args
def ConO (ok : Nat → Prop) (r : Res × Int) (w : World) (e : Ending) (w' : World) : Prop := ∃ k n c, r.1.is k n ∧ e = .returned (.tuple #[c, .int .i64 n]) ∧ CV (fun g => ok g ∨ w.heap.size ≤ g) k r.2 w' c ∧ Below w.heap.size w w'
theorem two_boxes5 (w : World) (a0 a1 a2 a3 b0 b1 b2 b3 b4 : Value) : B4 ((w.alloc (Obj.cells #[a0, a1, a2, a3] 36)).alloc (Obj.cells #[b0, b1, b2, b3, b4] 51)) w.heap.size a0 a1 a2 a3 ∧ B5 ((w.alloc (Obj.cells #[a0, a1, a2, a3] 36)).alloc (Obj.cells #[b0, b1, b2, b3, b4] 51)) (w.heap.size + 1) b0 b1 b2 b3 b4 := by
  have e1 : (w.alloc (Obj.cells #[a0, a1, a2, a3] 36)).heap.size = w.heap.size + 1 := by simp
  refine ⟨(Below.heap_alloc _ _ _ (by rw [e1]; omega)).trans (heap_alloc_new w _), ?_⟩
  have := heap_alloc_new (w.alloc (Obj.cells #[a0, a1, a2, a3] 36)) (Obj.cells #[b0, b1, b2, b3, b4] 51)
  rw [e1] at this
  exact this
set_option maxHeartbeats 2000000 in
theorem declared_any {ok : Nat → Prop} (t : Ty) (a : Int) (v : Value) (w : World) (hv0 : VO ok w t v) : Calls Try.prog 25 #[v, .int .i64 a] w (ConO ok (declT t a) w) := by
  have hv := hv0.bound
  have hty := fun W (hb : Below w.heap.size w W) => isprop_any t v W (hv.weak.next hb)
  clear hv0
  obtain ⟨b, c, ev, hs, hl⟩ := hv
  subst ev
  obtain ⟨ht1, ht2⟩ := two_boxes5 w (.int .i64 t.op) (.int .i64 t.n) (.string t.name) (.slice b t.args.length c) (.int .i64 0) (.int .i64 0) (.string ⟨#[]⟩) (.slice none 0 0) (.int .i64 0)
  have hb2 := below_two w (Obj.cells #[.int .i64 t.op, .int .i64 t.n, .string t.name, .slice b t.args.length c] 36) (Obj.cells #[.int .i64 0, .int .i64 0, .string ⟨#[]⟩, .slice none 0 0, .int .i64 0] 51)
  have HT1 := Lib.hid ht1
  have HT2 := Lib.hid ht2
  have HB2 := Lib.hid hb2
  have HC := Lib.hid hty
  have HS := Lib.hid hs
  have HL := Lib.hid hl
  clear ht1 ht2 hb2 hty hs hl
  have HD := Lib.hid (show declT t a = if isProper t = true then (.ok t, a) else (.bad 5, 0) from rfl)
  generalize declT t a = r at *
  cases hp : isProper t with
  | true =>
    rw [hp] at HC HD
    clear hp
    go_enter Try.func25, Try.ntmps25
    go_upto_region 1 with fail
    obtain ⟨W2, hW2⟩ : ∃ W2, W2 = (w.alloc (Obj.cells #[.int .i64 t.op, .int .i64 t.n, .string t.name, .slice b t.args.length c] 36)).alloc (Obj.cells #[.int .i64 0, .int .i64 0, .string ⟨#[]⟩, .slice none 0 0, .int .i64 0] 51) := ⟨_, rfl⟩
    rw [← hW2] at HT1 HT2 HB2 ⊢
    clear hW2
    obtain ⟨c0, c1, c2, c3⟩ := HT1.out.cells
    go_wp2_with fail
    refine (HC.out W2 HB2.out).mono ?_
    rintro e w3 ⟨rfl, hb⟩
    have HB3 := Lib.hid (HB2.out.trans (hb.mono HB2.out.size))
    have HT3 := Lib.hid (HT1.out.next hb)
    have HR3 := Lib.hid (HT2.out.next hb)
    clear hb c0 c1 c2 c3
    obtain ⟨c0, c1, c2, c3⟩ := HT3.out.cells
    obtain ⟨z0, z1, z2, z3, z4⟩ := HR3.out.cells
    have f0 := HR3.out.frozen 0
    have f1 := HR3.out.frozen 1
    have f2 := HR3.out.frozen 2
    have f3 := HR3.out.frozen 3
    have f4 := HR3.out.frozen 4
    go_wp2_with fail
    refine bodyPost_ret (results_con (a := 4) (b := 5) (by kernel_rfl) (B := w.heap.size + 1) (by rfl) (by rfl) (put5_cells HR3.out _ _ _ _ _)) rfl ?_
    rw [HD.out]
    exact ⟨t, 0, _, ⟨rfl, rfl⟩, rfl, ⟨b, c, rfl, HS.out, HL.out.keep (fun g hg => .inl hg.1) (fun p v hp hc => put5_keep _ _ _ _ _ p v (keeps HB3.out p v hc) (by have := hp.2; omega))⟩, below_put5 HB3.out (by omega) _ _ _ _ _⟩
  | false =>
    rw [hp] at HC HD
    clear hp
    go_enter Try.func25, Try.ntmps25
    go_upto_region 1 with fail
    obtain ⟨W2, hW2⟩ : ∃ W2, W2 = (w.alloc (Obj.cells #[.int .i64 t.op, .int .i64 t.n, .string t.name, .slice b t.args.length c] 36)).alloc (Obj.cells #[.int .i64 0, .int .i64 0, .string ⟨#[]⟩, .slice none 0 0, .int .i64 0] 51) := ⟨_, rfl⟩
    rw [← hW2] at HT1 HT2 HB2 ⊢
    clear hW2
    obtain ⟨c0, c1, c2, c3⟩ := HT1.out.cells
    go_wp2_with fail
    refine (HC.out W2 HB2.out).mono ?_
    rintro e w3 ⟨rfl, hb⟩
    have HB3 := Lib.hid (HB2.out.trans (hb.mono HB2.out.size))
    have HR3 := Lib.hid (HT2.out.next hb)
    clear hb c0 c1 c2 c3
    obtain ⟨z0, z1, z2, z3, z4⟩ := HR3.out.cells
    have f0 := HR3.out.frozen 0
    have f1 := HR3.out.frozen 1
    have f2 := HR3.out.frozen 2
    have f3 := HR3.out.frozen 3
    have f4 := HR3.out.frozen 4
    go_wp2_with fail
    refine bodyPost_ret (results_con (a := 4) (b := 5) (by kernel_rfl) (B := w.heap.size + 1) (by rfl) (by rfl) (put5_cells HR3.out _ _ _ _ _)) rfl ?_
    rw [HD.out]
    exact ⟨zeroT, 5, _, ⟨rfl, rfl, by decide⟩, rfl, ⟨none, 0, rfl, Nat.zero_le _, Nat.zero_le _, .inl rfl⟩, below_put5 HB3.out (by omega) _ _ _ _ _⟩
end Ty
end Go.Proofs.Ytfjgebdpbmnicaa
