/- What anew and full return. Conditions: the type lies in memory; for anew it is well formed. -/
import Derived.Test.YtkedhnahgpmkaaaTyRebA
import Derived.Deep.RegionHeld3
import Derived.IntWalk
namespace Go.Proofs.Ytkedhnahgpmkaaa
open Go.RowKit

namespace Ty
/-- a type is returned, its rows in new blocks -/
def RetF (t : Ty) (w : World) (e : Ending) (w' : World) : Prop := ∃ v, e = .returned v ∧ VO (w.heap.size ≤ ·) w' t v ∧ Below w.heap.size w w'

theorem reb_id {σ : Type} : ∀ {t : Ty}, Good t → ∀ (k : Nat) (st : σ), reb (fun t _ st => (t, st)) t k st = (t, st) := by
  intro t hg
  induction hg with
  | var op n h1 h2 h3 => intro k st; rw [reb_leaf]
  | con s h1 h2 => intro k st; rw [reb_leaf]
  | node op x y h hx hy ihx ihy => intro k st; rw [reb_node, ihx, ihy]

theorem V.put {w : World} {B : Nat} {t : Ty} {v : Value} (h : VO (· ≠ B) w t v) (v0 v1 v2 v3 : Value) : V (put4 w B v0 v1 v2 v3) t v := (h.put v0 v1 v2 v3).weak

theorem leaf_len {op n : Int} {s : List UInt8} (hg : Good (.mk op n s [])) : s.length ≤ maxLen := by
  unfold maxLen
  cases hg with
  | var op n h1 h2 h3 => simp
  | con s h1 h2 => omega
/-! two results -/
abbrev zeroV : Value := .agg #[.int .i64 0, .int .i64 0, .string ⟨#[]⟩, .slice none 0 0]
theorem results_two {fn : Func} {a b : Tmp} (hfn : fn.results = #[.cell a 24, .tmp b]) {tmps : Array Value} {w : World} {B o : Nat} {v0 v1 v2 v3 u : Value} (h : tmps.getD a undef = .pointer (some ⟨B, o, none⟩)) (hu : tmps.getD b undef = u)
    (c0 : w.cell? ⟨B, o, none⟩ = some v0) (c1 : w.cell? ⟨B, o + 1, none⟩ = some v1) (c2 : w.cell? ⟨B, o + 2, none⟩ = some v2) (c3 : w.cell? ⟨B, o + 3, none⟩ = some v3) :
    (results fn tmps).run Try.prog w = .ok (.tuple #[.agg #[v0, v1, v2, v3], u]) w := by
  have h' : tmps[a]?.getD undef = .pointer (some ⟨B, o, none⟩) := by rw [← h]; simp
  have hu' : tmps[b]?.getD undef = u := by rw [← hu]; simp
  simp [results, hfn, h', hu', c0, c1, c2, c3, go_sem]

def fullV (t : Ty) (v : Value) : Value := if isProper t = true then .tuple #[v, .int .i64 0] else .tuple #[zeroV, .int .i64 5]
theorem fullV_ok {t : Ty} (h : isProper t = true) (v : Value) : fullV t v = .tuple #[v, .int .i64 0] := if_pos h
theorem fullV_bad {t : Ty} (h : isProper t = false) (v : Value) : fullV t v = .tuple #[zeroV, .int .i64 5] := if_neg (by rw [h]; simp)

set_option maxHeartbeats 2000000 in
theorem full_any (t : Ty) (v : Value) (w : World) (hv : V w t v) : Calls Try.prog 64 #[v] w fun e w' => e = .returned (fullV t v) ∧ Below w.heap.size w w' := by
  have hty := fun W (hb : Below w.heap.size w W) => ptype_any t v W (hv.next hb)
  obtain ⟨b, c, ev, _, _⟩ := hv
  subst ev
  obtain ⟨ht1, ht2⟩ := two_boxes w (.int .i64 t.op) (.int .i64 t.n) (.string t.name) (.slice b t.args.length c) (.int .i64 0) (.int .i64 0) (.string ⟨#[]⟩) (.slice none 0 0)
  have hb2 : Below w.heap.size w ((w.alloc (Obj.cells #[.int .i64 t.op, .int .i64 t.n, .string t.name, .slice b t.args.length c] 24)).alloc (Obj.cells #[.int .i64 0, .int .i64 0, .string ⟨#[]⟩, .slice none 0 0] 24)) := below_two w _ _
  have HT1 := Lib.hid ht1
  have HT2 := Lib.hid ht2
  have HB2 := Lib.hid hb2
  have HC := Lib.hid hty
  obtain ⟨c0, c1, c2, c3⟩ := ht1.cells
  clear ht1 ht2 hb2 hty
  go_enter Try.func64, Try.ntmps64
  go_wp2_with fail
  obtain ⟨W2, hW2⟩ : ∃ W2, W2 = (w.alloc (Obj.cells #[.int .i64 t.op, .int .i64 t.n, .string t.name, .slice b t.args.length c] 24)).alloc (Obj.cells #[.int .i64 0, .int .i64 0, .string ⟨#[]⟩, .slice none 0 0] 24) := ⟨_, rfl⟩
  rw [← hW2] at HT1 HT2 HB2 c0 c1 c2 c3 ⊢
  clear hW2
  refine (HC.out W2 HB2.out).mono ?_
  rintro e w2 ⟨rfl, hb⟩
  have HT1' := Lib.hid (HT1.out.next hb)
  have HT2' := Lib.hid (HT2.out.next hb)
  have HB := Lib.hid (HB2.out.trans (hb.mono HB2.out.size))
  clear hb c0 c1 c2 c3 HT1 HT2 HB2 HC
  obtain ⟨c0, c1, c2, c3⟩ := HT1'.out.cells
  obtain ⟨z0, z1, z2, z3⟩ := HT2'.out.cells
  have f0 := HT2'.out.frozen 0
  have f1 := HT2'.out.frozen 1
  have f2 := HT2'.out.frozen 2
  have f3 := HT2'.out.frozen 3
  cases hp : isProper t with
  | true =>
    have HV := Lib.hid (fullV_ok hp)
    clear hp
    go_wp2_with fail
    refine bodyPost_ret (results_two (a := 2) (b := 3) (by kernel_rfl) (B := w.heap.size + 1) (by rfl) (by rfl) (put4_cells HT2'.out _ _ _ _).cells.1 (put4_cells HT2'.out _ _ _ _).cells.2.1 (put4_cells HT2'.out _ _ _ _).cells.2.2.1 (put4_cells HT2'.out _ _ _ _).cells.2.2.2) rfl ?_
    rw [HV.out]
    exact ⟨rfl, below_put4 HB.out (by omega) _ _ _ _⟩
  | false =>
    have HV := Lib.hid (fullV_bad hp)
    clear hp
    go_wp2_with fail
    refine bodyPost_ret (results_two (a := 2) (b := 3) (by kernel_rfl) (B := w.heap.size + 1) (by rfl) (by rfl) (put4_cells HT2'.out _ _ _ _).cells.1 (put4_cells HT2'.out _ _ _ _).cells.2.1 (put4_cells HT2'.out _ _ _ _).cells.2.2.1 (put4_cells HT2'.out _ _ _ _).cells.2.2.2) rfl ?_
    rw [HV.out]
    exact ⟨rfl, below_put4 HB.out (by omega) _ _ _ _⟩

end Ty
end Go.Proofs.Ytkedhnahgpmkaaa
