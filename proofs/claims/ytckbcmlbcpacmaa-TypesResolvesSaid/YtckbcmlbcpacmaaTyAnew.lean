/- What anew and full return. Conditions: the type lies in memory; for anew it is well formed. -/
import Derived.Test.YtckbcmlbcpacmaaTyReb106
namespace Go.Proofs.Ytckbcmlbcpacmaa
open Go.RowKit

namespace Ty
/-- a type is returned, its rows in new blocks -/
def RetF (t : Ty) (w : World) (e : Ending) (w' : World) : Prop := ∃ v, e = .returned v ∧ VO (w.heap.size ≤ ·) w' t v ∧ Below w.heap.size w w'

theorem reb_id {σ : Type} : ∀ {t : Ty}, Good t → ∀ (k : Nat) (st : σ), reb (fun t _ st => (t, st)) t k st = (t, st) := by
  intro t hg
  induction hg with
  | var op n h1 h2 h3 => intro k st; rw [reb_leaf]
  | con s h1 h2 => intro k st; rw [reb_leaf]
  | node op x y h hx hy ihx ihy => intro k st; rw [reb_node, ihx, ihy]

theorem V.put {w : World} {B : Nat} {t : Ty} {v : Value} (h : VO (· ≠ B) w t v) (v0 v1 v2 v3 : Value) : V (put4 w B v0 v1 v2 v3) t v := (h.put v0 v1 v2 v3).weak

set_option maxHeartbeats 2000000 in
theorem anew_leaf' (W : World) (op n : Int) (na : ByteArray) (k : Int) : Calls Try.prog 106 #[.agg #[.int .i64 op, .int .i64 n, .string na, .slice none 0 0], .int .i64 k] W fun e w' => e = .returned (.agg #[.int .i64 op, .int .i64 n, .string na, .slice none 0 0]) ∧ Below W.heap.size W w' := by
  obtain ⟨ht2, _⟩ := two_boxes W (.int .i64 op) (.int .i64 n) (.string na) (.slice none 0 0) (.int .i64 0) (.int .i64 0) (.string ⟨#[]⟩) (.slice none 0 0)
  obtain ⟨_, ht4⟩ := two_boxes W (.int .i64 op) (.int .i64 n) (.string na) (.slice none 0 0) (.int .i64 op) (.int .i64 n) (.string na) (.slice none 0 0)
  have HT4 := Lib.hid ht4
  obtain ⟨c0, c1, c2, c3⟩ := ht2.cells
  clear ht2 ht4
  go_enter Try.func106, Try.ntmps106
  go_wp2_with fail
  refine bodyPost_ret (results_ty (a := 4) (by kernel_rfl) (B := W.heap.size + 1) (by rfl) HT4.out.cells.1 HT4.out.cells.2.1 HT4.out.cells.2.2.1 HT4.out.cells.2.2.2) rfl ?_
  exact ⟨rfl, below_two _ _ _⟩

theorem leaf_len {op n : Int} {s : List UInt8} (hg : Good (.mk op n s [])) : s.length ≤ maxLen := by
  unfold maxLen
  cases hg with
  | var op n h1 h2 h3 => simp
  | con s h1 h2 => omega
theorem anew_leaf (w0 : World) (base : Nat) : Leafs 106 #[] (fun t _ (st : Unit) => (t, st)) (fun _ _ => True) none w0 base := by
  intro W op n s k st hg _ _ _ _
  exact (anew_leaf' W op n ⟨s.toArray⟩ k).mono fun e w' ⟨h1, h2⟩ => ⟨_, h1, ⟨none, 0, rfl, leaf_len hg, Nat.zero_le _, .inl rfl⟩, grown_of_below h2, trivial⟩

set_option maxHeartbeats 2000000 in
theorem anew_any (t : Ty) (hg : Good t) (hn : nodes t ≤ 1000000) (v : Value) (w : World) (hv : V w t v) : Calls Try.prog 70 #[v] w (RetF t w) := by
  have hcall := fun W (hb : Below w.heap.size w W) => rep_of (reb_106 (anew_leaf w w.heap.size) (fun _ _ _ _ _ => trivial) (fun j hj => nomatch hj) (Nat.le_refl _) t hg) (fun _ _ _ _ _ => trivial) (fun j hj => nomatch hj) v () W hv hb hb.size trivial (by omega)
  simp only [reb_id hg] at hcall
  obtain ⟨b, c, ev, _, _⟩ := hv
  subst ev
  obtain ⟨ht1, ht2⟩ := two_boxes w (.int .i64 t.op) (.int .i64 t.n) (.string t.name) (.slice b t.args.length c) (.int .i64 0) (.int .i64 0) (.string ⟨#[]⟩) (.slice none 0 0)
  have hb2 : Below w.heap.size w ((w.alloc (Obj.cells #[.int .i64 t.op, .int .i64 t.n, .string t.name, .slice b t.args.length c] 24)).alloc (Obj.cells #[.int .i64 0, .int .i64 0, .string ⟨#[]⟩, .slice none 0 0] 24)) := below_two w _ _
  have HT2 := Lib.hid ht2
  have HB2 := Lib.hid hb2
  have HC := Lib.hid hcall
  obtain ⟨c0, c1, c2, c3⟩ := ht1.cells
  clear ht1 ht2 hb2 hcall
  go_enter Try.func70, Try.ntmps70
  go_wp2_with fail
  obtain ⟨W2, hW2⟩ : ∃ W2, W2 = (w.alloc (Obj.cells #[.int .i64 t.op, .int .i64 t.n, .string t.name, .slice b t.args.length c] 24)).alloc (Obj.cells #[.int .i64 0, .int .i64 0, .string ⟨#[]⟩, .slice none 0 0] 24) := ⟨_, rfl⟩
  rw [← hW2] at HT2 HB2 c0 c1 c2 c3 ⊢
  have HSZ : Hid (W2.heap.size = w.heap.size + 2) := Lib.hid (by rw [hW2]; simp)
  clear hW2
  refine (HC.out W2 HB2.out).mono ?_
  rintro e w2 ⟨v, rfl, ⟨b9, c9, rfl, hs9, hl9⟩, hgr, _⟩
  have HV9 : Hid (VO (W2.heap.size ≤ ·) w2 t _) := Lib.hid ⟨b9, c9, rfl, hs9, hl9⟩
  have HT := Lib.hid (HT2.out.nextm (lim := 0) hgr (fun j hj => by cases hj) (Nat.zero_le _))
  have HG := Lib.hid (grown_trans' (grown_of_below (m := none) HB2.out) hgr)
  clear hs9 hl9 hgr HT2 c0 c1 c2 c3
  obtain ⟨z0, z1, z2, z3⟩ := HT.out.cells
  have f0 := HT.out.frozen 0
  have f1 := HT.out.frozen 1
  have f2 := HT.out.frozen 2
  have f3 := HT.out.frozen 3
  go_wp2_with fail
  refine bodyPost_ret (results_ty (a := 2) (by kernel_rfl) (B := w.heap.size + 1) (by rfl) (put4_cells HT.out _ _ _ _).cells.1 (put4_cells HT.out _ _ _ _).cells.2.1 (put4_cells HT.out _ _ _ _).cells.2.2.1 (put4_cells HT.out _ _ _ _).cells.2.2.2) rfl ?_
  have hsz := HSZ.out
  refine ⟨_, rfl, HV9.out.keep (fun g hg => by show w.heap.size ≤ g; have : W2.heap.size ≤ g := hg; omega) (fun p v hp hc => put4_keep _ _ _ _ p v hc (by have : W2.heap.size ≤ p.block := hp; omega)), ?_⟩
  exact (Below.refl _ _).grown (grown_put4 HG.out (by omega) _ _ _ _) (Nat.le_refl _) (fun j hj => by cases hj)

/-! two results -/
abbrev zeroV : Value := .agg #[.int .i64 0, .int .i64 0, .string ⟨#[]⟩, .slice none 0 0]
theorem results_two {fn : Func} {a b : Tmp} (hfn : fn.results = #[.cell a 24, .tmp b]) {tmps : Array Value} {w : World} {B o : Nat} {v0 v1 v2 v3 u : Value} (h : tmps.getD a undef = .pointer (some ⟨B, o, none⟩)) (hu : tmps.getD b undef = u)
    (c0 : w.cell? ⟨B, o, none⟩ = some v0) (c1 : w.cell? ⟨B, o + 1, none⟩ = some v1) (c2 : w.cell? ⟨B, o + 2, none⟩ = some v2) (c3 : w.cell? ⟨B, o + 3, none⟩ = some v3) :
    (results fn tmps).run Try.prog w = .ok (.tuple #[.agg #[v0, v1, v2, v3], u]) w := by
  have h' : tmps[a]?.getD undef = .pointer (some ⟨B, o, none⟩) := by rw [← h]; simp
  have hu' : tmps[b]?.getD undef = u := by rw [← hu]; simp
  simp [results, hfn, h', hu', c0, c1, c2, c3, go_sem]

def fullV (t : Ty) (v : Value) : Value := if isProper t = true then .tuple #[v, .int .i64 0] else .tuple #[zeroV, .int .i64 5]
theorem fullV_ok {t : Ty} (h : isProper t = true) (v : Value) : fullV t v = .tuple #[v, .int .i64 0] := if_pos h
theorem fullV_bad {t : Ty} (h : isProper t = false) (v : Value) : fullV t v = .tuple #[zeroV, .int .i64 5] := if_neg (by rw [h]; simp)

set_option maxHeartbeats 2000000 in
theorem full_any (t : Ty) (v : Value) (w : World) (hv : V w t v) : Calls Try.prog 64 #[v] w fun e w' => e = .returned (fullV t v) ∧ Below w.heap.size w w' := by
  have hty := fun W (hb : Below w.heap.size w W) => ptype_any t v W (hv.next hb)
  obtain ⟨b, c, ev, _, _⟩ := hv
  subst ev
  obtain ⟨ht1, ht2⟩ := two_boxes w (.int .i64 t.op) (.int .i64 t.n) (.string t.name) (.slice b t.args.length c) (.int .i64 0) (.int .i64 0) (.string ⟨#[]⟩) (.slice none 0 0)
  have hb2 : Below w.heap.size w ((w.alloc (Obj.cells #[.int .i64 t.op, .int .i64 t.n, .string t.name, .slice b t.args.length c] 24)).alloc (Obj.cells #[.int .i64 0, .int .i64 0, .string ⟨#[]⟩, .slice none 0 0] 24)) := below_two w _ _
  have HT1 := Lib.hid ht1
  have HT2 := Lib.hid ht2
  have HB2 := Lib.hid hb2
  have HC := Lib.hid hty
  obtain ⟨c0, c1, c2, c3⟩ := ht1.cells
  clear ht1 ht2 hb2 hty
  go_enter Try.func64, Try.ntmps64
  go_wp2_with fail
  obtain ⟨W2, hW2⟩ : ∃ W2, W2 = (w.alloc (Obj.cells #[.int .i64 t.op, .int .i64 t.n, .string t.name, .slice b t.args.length c] 24)).alloc (Obj.cells #[.int .i64 0, .int .i64 0, .string ⟨#[]⟩, .slice none 0 0] 24) := ⟨_, rfl⟩
  rw [← hW2] at HT1 HT2 HB2 c0 c1 c2 c3 ⊢
  clear hW2
  refine (HC.out W2 HB2.out).mono ?_
  rintro e w2 ⟨rfl, hb⟩
  have HT1' := Lib.hid (HT1.out.next hb)
  have HT2' := Lib.hid (HT2.out.next hb)
  have HB := Lib.hid (HB2.out.trans (hb.mono HB2.out.size))
  clear hb c0 c1 c2 c3 HT1 HT2 HB2 HC
  obtain ⟨c0, c1, c2, c3⟩ := HT1'.out.cells
  obtain ⟨z0, z1, z2, z3⟩ := HT2'.out.cells
  have f0 := HT2'.out.frozen 0
  have f1 := HT2'.out.frozen 1
  have f2 := HT2'.out.frozen 2
  have f3 := HT2'.out.frozen 3
  cases hp : isProper t with
  | true =>
    have HV := Lib.hid (fullV_ok hp)
    clear hp
    go_wp2_with fail
    refine bodyPost_ret (results_two (a := 2) (b := 3) (by kernel_rfl) (B := w.heap.size + 1) (by rfl) (by rfl) (put4_cells HT2'.out _ _ _ _).cells.1 (put4_cells HT2'.out _ _ _ _).cells.2.1 (put4_cells HT2'.out _ _ _ _).cells.2.2.1 (put4_cells HT2'.out _ _ _ _).cells.2.2.2) rfl ?_
    rw [HV.out]
    exact ⟨rfl, below_put4 HB.out (by omega) _ _ _ _⟩
  | false =>
    have HV := Lib.hid (fullV_bad hp)
    clear hp
    go_wp2_with fail
    refine bodyPost_ret (results_two (a := 2) (b := 3) (by kernel_rfl) (B := w.heap.size + 1) (by rfl) (by rfl) (put4_cells HT2'.out _ _ _ _).cells.1 (put4_cells HT2'.out _ _ _ _).cells.2.1 (put4_cells HT2'.out _ _ _ _).cells.2.2.1 (put4_cells HT2'.out _ _ _ _).cells.2.2.2) rfl ?_
    rw [HV.out]
    exact ⟨rfl, below_put4 HB.out (by omega) _ _ _ _⟩

end Ty
end Go.Proofs.Ytckbcmlbcpacmaa
