/- What Put and Shift return. Conditions: the types lie in memory. -/
import Derived.Test.YtfjgebdpbmnicaaJ15
import Derived.Test.YtfjgebdpbmnicaaJ16
import Derived.WalkLawsBesides
namespace Go.Proofs.Ytfjgebdpbmnicaa
open Go.RowKit

namespace Ty
def putT (l : List Ty) (t : Ty) : Ty := (reb (putF l) t 0 ()).1
def PutP (l : List Ty) (t : Ty) (w : World) (e : Ending) (w' : World) : Prop := ∃ v, e = .returned (fullV (putT l t) v) ∧ VO (w.heap.size ≤ ·) w' (putT l t) v ∧ Below w.heap.size w w'
/-- an error is returned -/
def BadP (n : Int) (w : World) (e : Ending) (w' : World) : Prop := e = .returned (.tuple #[zeroV, .int .i64 n]) ∧ Below w.heap.size w w'

/-- three boxes: a type, a list, a result -/
structure Tri (w W : World) (a0 a1 a2 a3 s : Value) : Prop where
  below : Below w.heap.size w W
  size : W.heap.size = w.heap.size + 3
  t : B4 W w.heap.size a0 a1 a2 a3
  s : W.heap[w.heap.size + 1]? = some (.cells #[s] 32 (0, 0))
  r : B4 W (w.heap.size + 2) (.int .i64 0) (.int .i64 0) (.string ⟨#[]⟩) (.slice none 0 0)
theorem Tri.new (w : World) (a0 a1 a2 a3 s : Value) : Tri w (((w.alloc (Obj.cells #[a0, a1, a2, a3] 36)).alloc (Obj.cells #[s] 32)).alloc (Obj.cells #[.int .i64 0, .int .i64 0, .string ⟨#[]⟩, .slice none 0 0] 36)) a0 a1 a2 a3 s := by
  refine ⟨?_, by simp, ?_, ?_, ?_⟩
  · exact (((Below.refl _ _).alloc (Nat.le_refl _) _).alloc (by simp) _).alloc (by simp; omega) _
  · exact push_old (push_old (push_at _ _ _ rfl))
  · exact push_old (push_at _ _ _ (by simp))
  · exact push_at _ _ _ (by simp)
theorem Tri.next {w W W' : World} {a0 a1 a2 a3 s : Value} (h : Tri w W a0 a1 a2 a3 s) (hb : Below W.heap.size W W') : Below w.heap.size w W' ∧ B4 W' w.heap.size a0 a1 a2 a3 ∧ W'.heap[w.heap.size + 1]? = some (.cells #[s] 32 (0, 0)) ∧ B4 W' (w.heap.size + 2) (.int .i64 0) (.int .i64 0) (.string ⟨#[]⟩) (.slice none 0 0) :=
  ⟨h.below.trans (hb.mono h.below.size), h.t.next hb, (hb.block _ (lt_of_block h.s)).trans h.s, h.r.next hb⟩

set_option maxHeartbeats 8000000 in
theorem put_bad (t : Ty) (l : List Ty) (v : Value) (base : Option Addr) (cap : Nat) (w : World) (hv : V w t v) (hl : Sl w base l) (hbad : isProper t = false ∨ propersT l = false) : Calls Try.prog 72 #[v, .slice base l.length cap] w (BadP 2 w) := by
  have hty := fun W (hb : Below w.heap.size w W) => ptype_any t v W (hv.next hb)
  have hli := fun W (hb : Below w.heap.size w W) => plist_any l base cap W (hl.next hb)
  obtain ⟨b, c, ev, _, _⟩ := hv
  subst ev
  have HT := Lib.hid (Tri.new w (.int .i64 t.op) (.int .i64 t.n) (.string t.name) (.slice b t.args.length c) (.slice base l.length cap))
  have HC := Lib.hid hty
  have HL := Lib.hid hli
  rw [← propersB_eq] at hbad
  clear hty hli hl
  generalize hp : isProper t = p at *
  generalize hq : propersB l = q at *
  have HBAD := Lib.hid hbad
  clear hp hq hbad
  generalize l.length = n at *
  go_enter Try.func72, Try.ntmps72
  go_upto_region 1 with fail
  obtain ⟨W2, hW2⟩ : ∃ W2, W2 = ((w.alloc (Obj.cells #[.int .i64 t.op, .int .i64 t.n, .string t.name, .slice b t.args.length c] 36)).alloc (Obj.cells #[.slice base n cap] 32)).alloc (Obj.cells #[.int .i64 0, .int .i64 0, .string ⟨#[]⟩, .slice none 0 0] 36) := ⟨_, rfl⟩
  rw [← hW2] at HT ⊢
  clear hW2
  obtain ⟨c0, c1, c2, c3⟩ := HT.out.t.cells
  cases p with
  | false =>
    go_wp2_with fail
    refine (HC.out W2 HT.out.below).mono ?_
    rintro e w2 ⟨rfl, hb⟩
    obtain ⟨n1, n2, n3, n4⟩ := HT.out.next hb
    have HB := Lib.hid n1
    have HR := Lib.hid n4
    clear hb n1 n2 n3 n4 c0 c1 c2 c3 HT
    obtain ⟨z0, z1, z2, z3⟩ := HR.out.cells
    have f0 := HR.out.frozen 0
    have f1 := HR.out.frozen 1
    have f2 := HR.out.frozen 2
    have f3 := HR.out.frozen 3
    go_wp2_with fail
    refine bodyPost_ret (results_two (a := 4) (b := 5) (by kernel_rfl) (B := w.heap.size + 2) (by rfl) (by rfl) (put4_cells HR.out _ _ _ _).cells.1 (put4_cells HR.out _ _ _ _).cells.2.1 (put4_cells HR.out _ _ _ _).cells.2.2.1 (put4_cells HR.out _ _ _ _).cells.2.2.2) rfl ?_
    exact ⟨rfl, below_put4 HB.out (by omega) _ _ _ _⟩
  | true =>
    have hq : q = false := by rcases HBAD.out with h | h; cases h; exact h
    subst hq
    go_wp2_with fail
    refine (HC.out W2 HT.out.below).mono ?_
    rintro e w2 ⟨rfl, hb⟩
    obtain ⟨n1, n2, n3, n4⟩ := HT.out.next hb
    have HB := Lib.hid n1
    have HR := Lib.hid n4
    have s0 := one_cell n3
    clear hb n1 n2 n3 n4 c0 c1 c2 c3 HT
    go_wp2_with fail
    refine (HL.out w2 HB.out).mono ?_
    rintro e w3 ⟨rfl, hb⟩
    have HB3 := Lib.hid (HB.out.trans (hb.mono HB.out.size))
    have HR3 := Lib.hid (HR.out.next hb)
    clear hb HR HB s0
    obtain ⟨z0, z1, z2, z3⟩ := HR3.out.cells
    have f0 := HR3.out.frozen 0
    have f1 := HR3.out.frozen 1
    have f2 := HR3.out.frozen 2
    have f3 := HR3.out.frozen 3
    go_wp2_with fail
    refine bodyPost_ret (results_two (a := 4) (b := 5) (by kernel_rfl) (B := w.heap.size + 2) (by rfl) (by rfl) (put4_cells HR3.out _ _ _ _).cells.1 (put4_cells HR3.out _ _ _ _).cells.2.1 (put4_cells HR3.out _ _ _ _).cells.2.2.1 (put4_cells HR3.out _ _ _ _).cells.2.2.2) rfl ?_
    exact ⟨rfl, below_put4 HB3.out (by omega) _ _ _ _⟩

set_option maxHeartbeats 8000000 in
theorem put_ok (t : Ty) (l : List Ty) (v : Value) (base : Option Addr) (cap : Nat) (w : World) (hv : V w t v) (hl : Sl w base l) (hpt : isProper t = true) (hpl : propersT l = true) : Calls Try.prog 72 #[v, .slice base l.length cap] w (PutP l t w) := by
  have hty := fun W (hb : Below w.heap.size w W) => ptype_any t v W (hv.next hb)
  have hli := fun W (hb : Below w.heap.size w W) => plist_any l base cap W (hl.next hb)
  rw [hpt] at hty
  rw [← propersB_eq] at hpl
  rw [hpl] at hli
  unfold propersB at hpl
  rw [Bool.and_eq_true, decide_eq_true_eq] at hpl
  obtain ⟨hl6, hall⟩ := hpl
  have hgl : ∀ x ∈ l, Good x ∧ nodes x ≤ 1000000 := fun x hx => by
    obtain ⟨i, hi, rfl⟩ := List.getElem_of_mem hx
    have h := allB_true.mp hall i hi
    exact ⟨Good.of h, by have := proper_nodes _ h; omega⟩
  have hnt := proper_nodes t hpt
  have hcall := fun (W : World) (hb : Below w.heap.size w W) (hsz : w.heap.size + 1 < W.heap.size) (hs : W.heap[w.heap.size + 1]? = some (.cells #[.slice base l.length cap] 32 (0, 0))) =>
    rep_of (reb_68 (put_leaf (B1 := w.heap.size + 1) (cap := cap) w W.heap.size l hl6 hl hgl) (fun W1 W2 st h hb2 => PuI.next h hsz hb2) (fun j hj => nomatch hj) hb.size t (Good.of hpt)) (fun W1 W2 st h hb2 => PuI.next h hsz hb2) (fun j hj => nomatch hj) v () W hv hb (Nat.le_refl _) hs (by omega)
  obtain ⟨b, c, ev, _, _⟩ := hv
  subst ev
  have HT := Lib.hid (Tri.new w (.int .i64 t.op) (.int .i64 t.n) (.string t.name) (.slice b t.args.length c) (.slice base l.length cap))
  have HC := Lib.hid hty
  have HL := Lib.hid hli
  have HCALL := Lib.hid hcall
  clear hty hli hl hcall hgl hall hpt hl6 hnt
  unfold PutP putT
  obtain ⟨r, hr⟩ : ∃ r, r = reb (putF l) t 0 () := ⟨_, rfl⟩
  rw [← hr] at HCALL ⊢
  clear hr
  obtain ⟨r, u⟩ := r
  have HFUL := Lib.hid (fun v (w : World) (hv : V w r v) => full_any r v w hv)
  generalize l.length = n at *
  go_enter Try.func72, Try.ntmps72
  go_upto_region 1 with fail
  obtain ⟨W2, hW2⟩ : ∃ W2, W2 = ((w.alloc (Obj.cells #[.int .i64 t.op, .int .i64 t.n, .string t.name, .slice b t.args.length c] 36)).alloc (Obj.cells #[.slice base n cap] 32)).alloc (Obj.cells #[.int .i64 0, .int .i64 0, .string ⟨#[]⟩, .slice none 0 0] 36) := ⟨_, rfl⟩
  rw [← hW2] at HT ⊢
  clear hW2
  obtain ⟨c0, c1, c2, c3⟩ := HT.out.t.cells
  go_wp2_with fail
  refine (HC.out W2 HT.out.below).mono ?_
  rintro e w2 ⟨rfl, hb⟩
  obtain ⟨n1, n2, n3, n4⟩ := HT.out.next hb
  have HB := Lib.hid n1
  have HB1 := Lib.hid n2
  have HS := Lib.hid n3
  have HR := Lib.hid n4
  have s0 := one_cell n3
  clear hb n1 n2 n3 n4 c0 c1 c2 c3 HT
  go_wp2_with fail
  refine (HL.out w2 HB.out).mono ?_
  rintro e w3 ⟨rfl, hb⟩
  have HB3 := Lib.hid (HB.out.trans (hb.mono HB.out.size))
  have HR3 := Lib.hid (HR.out.next hb)
  have HS3 := Lib.hid ((hb.block _ (lt_of_block HS.out)).trans HS.out)
  obtain ⟨c0, c1, c2, c3⟩ := (HB1.out.next hb).cells
  clear hb HR HB s0 HS HB1
  go_wp2_with fail
  refine (HCALL.out w3 HB3.out (lt_of_block HS3.out) HS3.out).mono ?_
  rintro e w4 ⟨v4, rfl, ⟨b9, c9, rfl, hs9, hl9⟩, hgr, _⟩
  have HV : Hid (VO (w3.heap.size ≤ ·) w4 r _) := Lib.hid ⟨b9, c9, rfl, hs9, hl9⟩
  have HB4 := Lib.hid (HB3.out.grown hgr HB3.out.size (fun j hj => nomatch hj))
  have HR4 := Lib.hid (HR3.out.nextm (lim := 0) hgr (fun j hj => nomatch hj) (Nat.zero_le _))
  have HZ : Hid (w.heap.size + 2 < w3.heap.size) := Lib.hid (lt_of_block HR3.out)
  clear hs9 hl9 hgr HB3 HS3 c0 c1 c2 c3 HR3
  go_wp2_with fail
  refine (HFUL.out _ w4 HV.out.weak).mono ?_
  rintro e w5 ⟨rfl, hb⟩
  have HB5 := Lib.hid (HB4.out.trans (hb.mono HB4.out.size))
  have HR5 := Lib.hid (HR4.out.next hb)
  have HV5 := Lib.hid (HV.out.next hb)
  clear hb HB4 HR4 HV
  obtain ⟨z0, z1, z2, z3⟩ := HR5.out.cells
  have f0 := HR5.out.frozen 0
  have f1 := HR5.out.frozen 1
  have f2 := HR5.out.frozen 2
  have f3 := HR5.out.frozen 3
  cases hp : isProper r with
  | true =>
    have HE := Lib.hid (fullV_ok hp (.agg #[.int .i64 r.op, .int .i64 r.n, .string r.name, .slice b9 r.args.length c9]))
    rw [HE.out]
    clear hp
    go_wp2_with fail
    refine bodyPost_ret (results_two (a := 4) (b := 5) (by kernel_rfl) (B := w.heap.size + 2) (by rfl) (by rfl) (put4_cells HR5.out _ _ _ _).cells.1 (put4_cells HR5.out _ _ _ _).cells.2.1 (put4_cells HR5.out _ _ _ _).cells.2.2.1 (put4_cells HR5.out _ _ _ _).cells.2.2.2) rfl ?_
    have hz := HZ.out
    refine ⟨.agg #[.int .i64 r.op, .int .i64 r.n, .string r.name, .slice b9 r.args.length c9], by first | (rw [HE.out]; rfl) | rw [HE.out], HV5.out.keep (fun g hg => by show w.heap.size ≤ g; have : w3.heap.size ≤ g := hg; omega) (fun p v hp hc => put4_keep _ _ _ _ p v hc (by have : w3.heap.size ≤ p.block := hp; omega)), below_put4 HB5.out (by omega) _ _ _ _⟩
  | false =>
    have HE := Lib.hid (fullV_bad hp (.agg #[.int .i64 r.op, .int .i64 r.n, .string r.name, .slice b9 r.args.length c9]))
    rw [HE.out]
    clear hp
    go_wp2_with fail
    refine bodyPost_ret (results_two (a := 4) (b := 5) (by kernel_rfl) (B := w.heap.size + 2) (by rfl) (by rfl) (put4_cells HR5.out _ _ _ _).cells.1 (put4_cells HR5.out _ _ _ _).cells.2.1 (put4_cells HR5.out _ _ _ _).cells.2.2.1 (put4_cells HR5.out _ _ _ _).cells.2.2.2) rfl ?_
    have hz := HZ.out
    refine ⟨.agg #[.int .i64 r.op, .int .i64 r.n, .string r.name, .slice b9 r.args.length c9], by first | (rw [HE.out]; rfl) | rw [HE.out], HV5.out.keep (fun g hg => by show w.heap.size ≤ g; have : w3.heap.size ≤ g := hg; omega) (fun p v hp hc => put4_keep _ _ _ _ p v hc (by have : w3.heap.size ≤ p.block := hp; omega)), below_put4 HB5.out (by omega) _ _ _ _⟩

end Ty
end Go.Proofs.Ytfjgebdpbmnicaa

/- Errors that leave by a panic: what With, Must and named do. Conditions: none. -/
namespace Go.Proofs.Ytfjgebdpbmnicaa
open Go.RowKit

namespace Ty
/-- what a panic carries when there is an error -/
def failV (n : Int) : Value := .iface 122 (.agg #[.int .i64 n])
theorem with_any (n : Int) (w : World) : Calls Try.prog 69 #[.int .i64 n] w fun e w' => e = .panicked [{ v := failV n, recovered := false }] ∧ w' = w := by
  go_enter Try.func69, Try.ntmps69
  go_wp2_with fail
  exact ⟨rfl, rfl, rfl⟩
theorem must_ok (t : Ty) (v : Value) (w : World) (hv : V w t v) : Calls Try.prog 71 #[v, .int .i64 0] w fun e w' => e = .returned v ∧ Below w.heap.size w w' := by
  obtain ⟨b, c, ev, _, _⟩ := hv
  subst ev
  obtain ⟨_, ht2⟩ := two_boxes w (.int .i64 t.op) (.int .i64 t.n) (.string t.name) (.slice b t.args.length c) (.int .i64 t.op) (.int .i64 t.n) (.string t.name) (.slice b t.args.length c)
  have hbb := below_two w (Obj.cells #[.int .i64 t.op, .int .i64 t.n, .string t.name, .slice b t.args.length c] 36) (Obj.cells #[.int .i64 t.op, .int .i64 t.n, .string t.name, .slice b t.args.length c] 36)
  have HT := Lib.hid ht2
  have HB := Lib.hid hbb
  clear ht2 hbb
  go_enter Try.func71, Try.ntmps71
  go_wp2_with fail
  refine bodyPost_ret (results_ty (a := 4) (by kernel_rfl) (B := w.heap.size + 1) (by rfl) HT.out.cells.1 HT.out.cells.2.1 HT.out.cells.2.2.1 HT.out.cells.2.2.2) rfl ?_
  exact ⟨rfl, HB.out⟩
theorem must_bad (v0 v1 v2 v3 : Value) (n : Int) (hn : n ≠ 0) (w : World) : Calls Try.prog 71 #[.agg #[v0, v1, v2, v3], .int .i64 n] w fun e w' => e = .panicked [{ v := failV n, recovered := false }] ∧ Below w.heap.size w w' := by
  have hbb := below_two w (Obj.cells #[v0, v1, v2, v3] 36) (Obj.cells #[.int .i64 0, .int .i64 0, .string ⟨#[]⟩, .slice none 0 0] 36)
  have HB := Lib.hid hbb
  clear hbb
  have hq : (n == 0) = false := by simpa using hn
  clear hn
  go_enter Try.func71, Try.ntmps71
  go_wp2_with fail
  refine (with_any n _).mono ?_
  rintro e w' ⟨rfl, rfl⟩
  exact ⟨rfl, rfl, HB.out⟩
theorem named_any (s : ByteArray) (hs : s.size ≤ maxLen) (w : World) : Calls Try.prog 31 #[.string s] w (Ret (.mk 2 0 s.data.toList []) w) := by
  obtain ⟨b0, b1, b2, b3⟩ := box4 w (.int .i64 2) (.int .i64 0) (.string s) (.slice none 0 0)
  go_enter Try.func31, Try.ntmps31
  go_wp2_with fail
  refine bodyPost_ret (results_ty (a := 2) (by kernel_rfl) (B := w.heap.size) (by rfl) b0 b1 b2 b3) rfl ?_
  exact ⟨_, rfl, v_leaf _ _ _ _ hs, (Below.refl _ _).alloc (Nat.le_refl _) _⟩
end Ty
end Go.Proofs.Ytfjgebdpbmnicaa
