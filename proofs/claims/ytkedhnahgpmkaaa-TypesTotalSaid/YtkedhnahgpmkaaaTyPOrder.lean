/- What the program's order and Order return. Conditions: the types lie in memory; for order they are well formed and have at most 600 nodes. -/
import Derived.Test.YtkedhnahgpmkaaaTyPOrd
import Derived.Test.YtkedhnahgpmkaaaTyAnew
namespace Go.Proofs.Ytkedhnahgpmkaaa
open Go.RowKit

namespace Ty
theorem good_arg {t : Ty} (hg : Good t) (hn : nodes t ≤ 600) (i : Nat) (h : i < t.args.length) : Good (t.args[i]'h) ∧ nodes (t.args[i]'h) ≤ 600 := by
  have hn2 := nodes_at i h
  have h0 := nodes_eq t
  refine ⟨?_, by omega⟩
  cases hg with
  | var op n h1 h2 h3 => exact absurd h (Nat.not_lt_zero _)
  | con s h1 h2 => exact absurd h (Nat.not_lt_zero _)
  | node op x y h0 hx hy =>
    match i, h with
    | 0, _ => exact hx
    | 1, _ => exact hy
theorem good_len {t u : Ty} (ht : Good t) (hu : Good u) (h : t.op = u.op) : t.args.length = u.args.length := by
  cases ht with
  | var op n h1 h2 h3 =>
    cases hu with
    | var op' n' h1' h2' h3' => rfl
    | con s' h1' h2' => rfl
    | node op' x y h0 hx hy => have : op = op' := h; omega
  | con s h1 h2 =>
    cases hu with
    | var op' n' h1' h2' h3' => rfl
    | con s' h1' h2' => rfl
    | node op' x y h0 hx hy => have : (2 : Int) = op' := h; omega
  | node op x y h0 hx hy =>
    cases hu with
    | var op' n' h1' h2' h3' => have : op = op' := h; omega
    | con s' h1' h2' => have : op = 2 := h; omega
    | node op' x y h0 hx hy => rfl

set_option maxHeartbeats 16000000 in
theorem porder_step (t : Ty) (hA : ∀ (i : Nat) (h : i < t.args.length), POrdC (t.args[i]'h)) : POrdC t := by
  intro u va vb w ha hb hgt hgu hn1 hn2
  have hsa := fun W (h : Below w.heap.size w W) => psize_any t hgt hn1 va W (ha.next h)
  have hsb := fun W (h : Below w.heap.size w W) => psize_any u hgu hn2 vb W (hb.next h)
  have heq := ord_or t u (good_len hgt hgu)
  rw [← name_list t, ← name_list u] at heq
  obtain ⟨ba, ca, ea, _, hra⟩ := ha
  obtain ⟨bb, cb, eb, _, hrb⟩ := hb
  subst ea eb
  have hcf := fun W (h : Below w.heap.size w W) => cfn_of t.args u.args hA (good_arg hgt hn1) (good_arg hgu hn2) ba bb ca cb W (hra.next h) (hrb.next h)
  obtain ⟨t1, t2⟩ := two_boxes w (.int .i64 t.op) (.int .i64 t.n) (.string t.name) (.slice ba t.args.length ca) (.int .i64 u.op) (.int .i64 u.n) (.string u.name) (.slice bb u.args.length cb)
  have hW0 := below_two w (Obj.cells #[.int .i64 t.op, .int .i64 t.n, .string t.name, .slice ba t.args.length ca] 24) (Obj.cells #[.int .i64 u.op, .int .i64 u.n, .string u.name, .slice bb u.args.length cb] 24)
  have HEQ := Lib.hid heq
  clear heq hA hgt hgu hra hrb hn1 hn2
  obtain ⟨la, hla⟩ : ∃ la, la = t.args.length := ⟨_, rfl⟩
  obtain ⟨lb, hlb⟩ : ∃ lb, lb = u.args.length := ⟨_, rfl⟩
  rw [← hla] at hsa t1 t2 hW0 hcf ⊢
  rw [← hlb] at hsb t1 t2 hW0 hcf ⊢
  clear hla hlb
  obtain ⟨na', hna'⟩ : ∃ n', n' = t.nodes := ⟨_, rfl⟩
  obtain ⟨nb', hnb'⟩ : ∃ n', n' = u.nodes := ⟨_, rfl⟩
  rw [← hna'] at hsa HEQ
  rw [← hnb'] at hsb HEQ
  obtain ⟨c5, hc5⟩ : ∃ c, c = cfn t.args u.args := ⟨_, rfl⟩
  rw [← hc5] at hcf HEQ
  have HSA := Lib.hid hsa
  have HSB := Lib.hid hsb
  have HCF := Lib.hid hcf
  clear hna' hnb' hsa hsb hcf hc5
  generalize t.op = oa at *
  generalize u.op = ob at *
  generalize t.n = na at *
  generalize u.n = nb at *
  generalize t.name = sa at *
  generalize u.name = sb at *
  go_enter Try.func80, Try.ntmps80
  go_wp2_with fail
  obtain ⟨W0, hW⟩ : ∃ W0, W0 = (w.alloc (Obj.cells #[.int .i64 oa, .int .i64 na, .string sa, .slice ba la ca] 24)).alloc (Obj.cells #[.int .i64 ob, .int .i64 nb, .string sb, .slice bb lb cb] 24) := ⟨_, rfl⟩
  rw [← hW] at t1 t2 hW0 ⊢
  clear hW
  obtain ⟨x0, x1, x2, x3⟩ := t1.cells
  obtain ⟨y0, y1, y2, y3⟩ := t2.cells
  have HB0 := Lib.hid hW0
  clear t1 t2 hW0
  go_region_held3 (fun W => Hid (Below w.heap.size w W) ∧ (W.cell? ⟨w.heap.size, 0, none⟩ = some (.int .i64 oa) ∧ W.cell? ⟨w.heap.size, 1, none⟩ = some (.int .i64 na) ∧ W.cell? ⟨w.heap.size, 2, none⟩ = some (.string sa) ∧ W.cell? ⟨w.heap.size, 3, none⟩ = some (.slice ba la ca) ∧
      W.cell? ⟨w.heap.size + 1, 0, none⟩ = some (.int .i64 ob) ∧ W.cell? ⟨w.heap.size + 1, 1, none⟩ = some (.int .i64 nb) ∧ W.cell? ⟨w.heap.size + 1, 2, none⟩ = some (.string sb) ∧ W.cell? ⟨w.heap.size + 1, 3, none⟩ = some (.slice bb lb cb)))
    (first | exact ⟨Lib.hid HB0.out.drew, x0, x1, x2, x3, y0, y1, y2, y3⟩ | assumption | exact os_next (by assumption) hb | exact os_next (by assumption) ((Below.refl _ _).alloc (Nat.le_refl _) _))
    (first
    | (go_at_call_of 56 sa; refine (HSA.out _ ?_).mono ?_; (exact Hid.out (And.left (by assumption))); rintro e w2 ⟨rfl, hb⟩)
    | (go_at_call_of 56 sb; refine (HSB.out _ ?_).mono ?_; (exact Hid.out (And.left (by assumption))); rintro e w2 ⟨rfl, hb⟩)
    | (go_at_call 111; refine (cmpi_any _ _ _).mono ?_; rintro e w' ⟨rfl, rfl⟩)
    | (go_at_call 112; refine (cmps_any _ _ _).mono ?_; rintro e w' ⟨rfl, rfl⟩)
    | (go_at_call 113; refine (HCF.out _ ?_).mono ?_; (exact Hid.out (And.left (by assumption))); rintro e w2 ⟨rfl, hb⟩)
    | (go_at_call 110; refine (or_any _ _ _ _ _ _ _ _ (heap_alloc_new _ _)).mono ?_; rintro e w' ⟨rfl, rfl⟩))
  rename_i hS
  have HS := Lib.hid hS.1
  clear hS x0 x1 x2 x3 y0 y1 y2 y3
  go_wp2_with fail
  go_ret
  exact ⟨ret_int (by rw [HEQ.out]), HS.out.out⟩

theorem porder_any : ∀ t : Ty, POrdC t := by
  intro t
  induction hm : SizeOf.sizeOf t using Nat.strongRecOn generalizing t with
  | ind m ih => exact porder_step t (fun i h => ih _ (by rw [← hm]; exact size_arg t i h) _ rfl)

/-- what Order returns -/
def ordV (t u : Ty) : Value := if isProper t = true ∧ isProper u = true then .tuple #[.int .i64 (ord t u), .int .i64 0] else .tuple #[.int .i64 0, .int .i64 2]
theorem ordV_ok {t u : Ty} (h : isProper t = true) (h2 : isProper u = true) : ordV t u = .tuple #[.int .i64 (ord t u), .int .i64 0] := if_pos ⟨h, h2⟩
theorem ordV_bad {t u : Ty} (h : isProper t = false ∨ isProper u = false) : ordV t u = .tuple #[.int .i64 0, .int .i64 2] := if_neg (fun k => by
  rcases h with h | h
  · rw [k.1] at h; cases h
  · rw [k.2] at h; cases h)
theorem ret_eq {a b : Value} (h : a = b) : Ending.returned a = .returned b := by rw [h]

set_option maxHeartbeats 4000000 in
theorem Order_any (t u : Ty) (va vb : Value) (w : World) (ha : V w t va) (hb : V w u vb) : Calls Try.prog 42 #[va, vb] w fun e w' => e = .returned (ordV t u) ∧ Below w.heap.size w w' := by
  have hta := fun W (h : Below w.heap.size w W) => ptype_any t va W (ha.next h)
  have htb := fun W (h : Below w.heap.size w W) => ptype_any u vb W (hb.next h)
  have hord := fun (hp : isProper t = true) (hq : isProper u = true) W (h : Below w.heap.size w W) => porder_any t u va vb W (ha.next h) (hb.next h) (Good.of hp) (Good.of hq) (proper_nodes t hp) (proper_nodes u hq)
  obtain ⟨ba, ca, ea, _, _⟩ := ha
  obtain ⟨bb, cb, eb, _, _⟩ := hb
  subst ea eb
  obtain ⟨t1, t2⟩ := two_boxes w (.int .i64 t.op) (.int .i64 t.n) (.string t.name) (.slice ba t.args.length ca) (.int .i64 u.op) (.int .i64 u.n) (.string u.name) (.slice bb u.args.length cb)
  have hW0 := below_two w (Obj.cells #[.int .i64 t.op, .int .i64 t.n, .string t.name, .slice ba t.args.length ca] 24) (Obj.cells #[.int .i64 u.op, .int .i64 u.n, .string u.name, .slice bb u.args.length cb] 24)
  have T1 := Lib.hid t1
  have T2 := Lib.hid t2
  have HB := Lib.hid hW0
  have HTA := Lib.hid hta
  have HTB := Lib.hid htb
  have HO := Lib.hid hord
  obtain ⟨x0, x1, x2, x3⟩ := t1.cells
  obtain ⟨y0, y1, y2, y3⟩ := t2.cells
  clear t1 t2 hW0 hta htb hord
  cases hp : isProper t with
  | false =>
    have HV := Lib.hid (ordV_bad (t := t) (u := u) (.inl hp))
    rw [hp] at HTA
    clear hp HTB HO
    go_enter Try.func42, Try.ntmps42
    go_wp2_with fail
    refine (HTA.out _ HB.out).mono ?_
    rintro e w2 ⟨rfl, hb2⟩
    have HB2 := Lib.hid (HB.out.trans (hb2.mono HB.out.size))
    clear hb2
    go_wp2_with fail
    go_ret2
    exact ⟨ret_eq (by rw [HV.out]; rfl), HB2.out⟩
  | true =>
    rw [hp] at HTA
    cases hq : isProper u with
    | false =>
      have HV := Lib.hid (ordV_bad (t := t) (u := u) (.inr hq))
      rw [hq] at HTB
      clear hp hq HO
      go_enter Try.func42, Try.ntmps42
      go_wp2_with fail
      refine (HTA.out _ HB.out).mono ?_
      rintro e w2 ⟨rfl, hb2⟩
      have HB2 := Lib.hid (HB.out.trans (hb2.mono HB.out.size))
      have y0 := (T2.out.next hb2).cells.1
      have y1 := (T2.out.next hb2).cells.2.1
      have y2 := (T2.out.next hb2).cells.2.2.1
      have y3 := (T2.out.next hb2).cells.2.2.2
      clear hb2
      go_wp2_with fail
      refine (HTB.out _ HB2.out).mono ?_
      rintro e w3 ⟨rfl, hb3⟩
      have HB3 := Lib.hid (HB2.out.trans (hb3.mono HB2.out.size))
      clear hb3
      go_wp2_with fail
      go_ret2
      exact ⟨ret_eq (by rw [HV.out]; rfl), HB3.out⟩
    | true =>
      have HV := Lib.hid (ordV_ok hp hq)
      have HOO := Lib.hid (HO.out hp hq)
      rw [hq] at HTB
      clear hp hq HO
      go_enter Try.func42, Try.ntmps42
      go_wp2_with fail
      refine (HTA.out _ HB.out).mono ?_
      rintro e w2 ⟨rfl, hb2⟩
      have HB2 := Lib.hid (HB.out.trans (hb2.mono HB.out.size))
      have T1' := Lib.hid (T1.out.next hb2)
      have T2' := Lib.hid (T2.out.next hb2)
      clear hb2 x0 x1 x2 x3 y0 y1 y2 y3 T1 T2
      obtain ⟨y0, y1, y2, y3⟩ := T2'.out.cells
      go_wp2_with fail
      refine (HTB.out _ HB2.out).mono ?_
      rintro e w3 ⟨rfl, hb3⟩
      have HB3 := Lib.hid (HB2.out.trans (hb3.mono HB2.out.size))
      have T1'' := Lib.hid (T1'.out.next hb3)
      have T2'' := Lib.hid (T2'.out.next hb3)
      clear hb3 y0 y1 y2 y3 T1' T2'
      obtain ⟨x0, x1, x2, x3⟩ := T1''.out.cells
      obtain ⟨y0, y1, y2, y3⟩ := T2''.out.cells
      go_wp2_with fail
      refine (HOO.out _ HB3.out).mono ?_
      rintro e w4 ⟨rfl, hb4⟩
      have HB4 := Lib.hid (HB3.out.trans (hb4.mono HB3.out.size))
      clear hb4
      go_wp2_with fail
      go_ret2
      exact ⟨ret_eq (by rw [HV.out]; rfl), HB4.out⟩
end Ty
end Go.Proofs.Ytkedhnahgpmkaaa
