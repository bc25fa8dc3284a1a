/- Texts of the law TypesResolves, joined. -/
import Derived.Test.YtkedhnahgpmkaaaRvF
import Derived.Test.YtkedhnahgpmkaaaTyRS
import Derived.Deep.RegionHeld3
import Derived.Deep.DeepCutAuto
import Derived.IntWalk
import Derived.Deep.LoopGhost
import Derived.Test.YtkedhnahgpmkaaaTyPut
import Derived.Test.YtkedhnahgpmkaaaTyAwake
import Derived.Deep.CutBlock
import Derived.Deep.AppendLies

/- What stands in memory while the reference resolves a type, with its counter. Conditions: none. -/
namespace Go.Proofs.Ytkedhnahgpmkaaa
open Go.RowKit

namespace Ty
theorem B4.ex {X : Nat → Prop} {a b : World} {B : Nat} {v0 v1 v2 v3 : Value} (h : B4 a B v0 v1 v2 v3) (k : Ex X a b) (hB : ¬ X B) : B4 b B v0 v1 v2 v3 := (k.block B (lt_of_block h) hB).trans h
theorem Ex.grown {P : Nat} {a b : World} (k : Ex (fun x => x = P) a b) : a.grownBy b (some P) := ⟨k.os, k.tape, k.output, k.size, fun j hj hne => k.block j hj (fun e => hne (by rw [e]))⟩
theorem Ex.refl (X : Nat → Prop) (a : World) : Ex X a a := ⟨rfl, rfl, rfl, Nat.le_refl _, fun _ _ _ => rfl⟩
theorem Ex.vo {P base : Nat} {a b : World} {t : Ty} {v : Value} (k : Ex (fun x => x = P) a b) (hP : P < base) (h : VO (base ≤ ·) a t v) : VO (base ≤ ·) b t v :=
  h.keep (fun _ h => h) (fun p v hp hc => (World.cell?_of_block (k.block p.block (World.block_lt_of_cell? a p hc) (by have : base ≤ p.block := hp; omega))).trans hc)
theorem Ex.old {P : Nat} {w0 a b : World} (k : Ex (fun x => x = P) a b) (h : Below w0.heap.size w0 a) (hP : w0.heap.size ≤ P) : Below w0.heap.size w0 b := h.grown k.grown h.size (fun j hj => by injection hj with hj; omega)
theorem OwnL.ex {P base : Nat} {ov : Value} {ts : List Ty} {W W' : World} (h : OwnL base ov ts W) (k : Ex (fun x => x = P) W W') (hP : P < base) : OwnL base ov ts W' := by
  obtain ⟨ds, h1, h2⟩ := h
  refine ⟨ds, h1.kept k.grown ?_, h2.keep (fun _ h => h) (fun p v hp hc => (World.cell?_of_block (k.block p.block (World.block_lt_of_cell? W p hc) (by have := hp.1; omega))).trans hc)⟩
  right
  intro e
  have := (ownBlock_lt h1 e).1
  omega
/-- the world with another number in the counter -/
def wcn (w : World) (P c : Nat) : World := w.setCell ⟨P, 0, none⟩ (.int .i64 c)
theorem wcn_size (w : World) (P c : Nat) : (wcn w P c).heap.size = w.heap.size := by simp [wcn, World.setCell]
theorem wcn_box {w : World} {P c0 : Nat} (h : PBox w P c0) (c : Nat) : PBox (wcn w P c) P c := one_same h
theorem wcn_ex (w : World) (P c : Nat) : Ex (fun x => x = P) w (wcn w P c) := Ex.setCell (X := fun x => x = P) rfl _
theorem ex_of_below {w W : World} {P c : Nat} (h : Below (wcn w P c).heap.size (wcn w P c) W) : Ex (fun x => x = P) w W := (wcn_ex w P c).trans (Ex.of_below h)
theorem below_cnt {w W W' : World} {P c0 c1 c2 : Nat} (h0 : PBox w P c0) (h : Below (wcn w P c1).heap.size (wcn w P c1) W) (k : Ex (fun x => x = P) W W') (hc : PBox W' P c2) : Below (wcn w P c2).heap.size (wcn w P c2) W' := by
  have e := (ex_of_below h).trans k
  refine ⟨e.os, e.tape, e.output, by rw [wcn_size]; exact e.size, fun j hj => ?_⟩
  rw [wcn_size] at hj
  by_cases hjP : j = P
  · subst hjP
    exact hc.trans (wcn_box h0 c2).symm
  · exact (e.block j hj hjP).trans ((wcn_ex w P c2).block j hj hjP).symm
section
variable {w W W' : World} {P c0 c1 c2 : Nat} {a0 a1 a2 a3 o0 o1 o2 ov : Value} {acc : List Ty}
theorem RS.cnt (h : RS (wcn w P c1) a0 a1 a2 a3 o0 o1 o2 ov acc W) (h0 : PBox w P c0) (k : Ex (fun x => x = P) W W') (hc : PBox W' P c2) : RS (wcn w P c2) a0 a1 a2 a3 o0 o1 o2 ov acc W' := by
  have hP : P < w.heap.size := lt_of_block h0
  have h1 := h.box
  have h2 := h.res
  have h3 := h.out
  have h4 := h.own
  rw [wcn_size] at h1 h2 h3 h4
  refine ⟨below_cnt h0 h.below k hc, ?_, ?_, ?_, ?_⟩ <;> rw [wcn_size]
  · exact h1.ex k (by omega)
  · exact h2.ex k (by omega)
  · exact h3.ex k (by omega)
  · exact h4.ex k (by omega)
end

theorem fit_node_eq (op : Int) (x y : Ty) (d c : Nat) : fit (.mk op 0 [] [x, y]) d c = (decide (c + 1 ≤ 600 ∧ d ≤ 40) && (fit x (d + 1) (c + 1) && fit y (d + 1) (c + 1 + nodes x))) := by
  unfold fit
  rw [nodes_node, dep_node, Bool.eq_iff_iff]
  have := nodes_pos x
  have := nodes_pos y
  have := dep_pos x
  have := dep_pos y
  simp only [Bool.and_eq_true, decide_eq_true_eq]
  omega
theorem fit_over {t : Ty} {d c : Nat} (h : 600 < c + 1 ∨ 40 < d) : fit t d c = false := by
  unfold fit
  have := nodes_pos t
  have := dep_pos t
  exact decide_eq_false (by omega)
theorem fit_one {op n : Int} {s : List UInt8} {d c : Nat} (h : ¬ (600 < c + 1 ∨ 40 < d)) : fit (.mk op n s []) d c = true := by
  unfold fit
  rw [nodes_leaf, dep_leaf]
  exact decide_eq_true (by omega)
/-- values that are put, one after the other -/
inductive Ch (M : List MC) : Nat → Ty → Ty → Prop where
  | zero {u : Ty} : Ch M 0 u u
  | more {n : Int} {s : List UInt8} {k : Nat} {v u : Ty} : Sol M n v → Ch M k v u → Ch M (k + 1) (.mk 6 n s []) u
/-- nothing more is put at the head -/
def Stop (M : List MC) (u : Ty) : Prop := u.op = 6 → ∀ v, ¬ Sol M u.n v
/-- all metavariables of a type are there -/
def Inr (M : List MC) (t : Ty) : Prop := GP (fun z => z.op = 6 → z.n.toNat < M.length) t
theorem inr_of {M : List MC} {t : Ty} (hg : Good t) (h : ∀ y ∈ colT 6 t, y < (M.length : Int)) : Inr M t := by
  have hr := colT_range hg
  exact gp_col hg (S := fun z => z.toNat < M.length) (fun x hx => by have := h x hx; have := hr x hx; omega)
theorem inr_sol {M : List MC} (hM : OkM M) {n : Int} {v : Ty} (hs : Sol M n v) : Inr M v := by
  obtain ⟨h1, h2, rfl⟩ := hs
  obtain ⟨h3, h4⟩ := hM _ (List.getElem_mem h1) h2
  exact inr_of (Good.of h3) h4
theorem Rs.chain {M : List MC} (hM : OkM M) {t r : Ty} (h : Rs M t r) : Inr M t → ∃ k u, Ch M k t u ∧ Stop M u ∧ Rs M u r ∧ Inr M u := by
  induction h with
  | stay h => exact fun hg => ⟨0, _, .zero, fun e v hv => h e v hv, .stay h, hg⟩
  | put hs _ ih =>
    intro _
    obtain ⟨k, u, e1, e2, e3, e4⟩ := ih (inr_sol hM hs)
    exact ⟨k + 1, u, .more hs e1, e2, e3, e4⟩
  | node hx hy _ _ => exact fun hg => ⟨0, _, .zero, fun e => by cases hg with | node _ _ _ h _ _ => have e' := e; simp only [Ty.op] at e'; omega, .node hx hy, hg⟩

/-- what is made lies in memory, and the counter stands as it did -/
theorem rs_end {w W : World} {P c0 c1 : Nat} {a0 a1 a2 a3 ov : Value} {op n : Int} {nm : ByteArray} {acc : List Ty} (h : RS (wcn w P c1) a0 a1 a2 a3 (.int .i64 op) (.int .i64 n) (.string nm) ov acc W) (h0 : PBox w P c0) (hc : PBox W P c1) (hs : nm.size ≤ maxLen) (hl : acc.length ≤ 1000000) :
    ∃ bb cap, ov = .slice bb acc.length cap ∧ ∀ v0 v1 v2 v3, Ex (fun x => x = P) w (put4 W (w.heap.size + 1) v0 v1 v2 v3) ∧ PBox (put4 W (w.heap.size + 1) v0 v1 v2 v3) P c1 ∧ VO (w.heap.size ≤ ·) (put4 W (w.heap.size + 1) v0 v1 v2 v3) (.mk op n nm.data.toList acc) (.agg #[.int .i64 op, .int .i64 n, .string nm, .slice bb acc.length cap]) := by
  have hP := lt_of_block h0
  have e := ex_of_below h.below
  obtain ⟨bb, cap, h1, h2⟩ := h.done hs hl
  rw [wcn_size] at h2
  refine ⟨bb, cap, h1, fun v0 v1 v2 v3 => ⟨⟨e.os, e.tape, e.output, by have := e.size; simpa [put4, World.setCell] using this, fun j hj hne => (put4_other (by omega) v0 v1 v2 v3).trans (e.block j hj hne)⟩, (put4_other (by omega) v0 v1 v2 v3).trans hc, h2 v0 v1 v2 v3⟩⟩
theorem ex_putP {w W : World} {P : Nat} (e : Ex (fun x => x = P) w W) (v0 v1 v2 v3 : Value) : Ex (fun x => x = P) w (put4 W (w.heap.size + 1) v0 v1 v2 v3) :=
  ⟨e.os, e.tape, e.output, by have := e.size; simpa [put4, World.setCell] using this, fun j hj hne => (put4_other (by omega) v0 v1 v2 v3).trans (e.block j hj hne)⟩
section
variable {w W W' : World} {P c : Nat} {a0 a1 a2 a3 o0 o1 o2 ov : Value} {acc : List Ty}
theorem RS.boxC (h : RS (wcn w P c) a0 a1 a2 a3 o0 o1 o2 ov acc W) : B4 W w.heap.size a0 a1 a2 a3 := by have := h.box; rwa [wcn_size] at this
theorem RS.resC (h : RS (wcn w P c) a0 a1 a2 a3 o0 o1 o2 ov acc W) : B4 W (w.heap.size + 1) (.int .i64 0) (.int .i64 0) (.string ⟨#[]⟩) (.slice none 0 0) := by have := h.res; rwa [wcn_size] at this
theorem RS.outC (h : RS (wcn w P c) a0 a1 a2 a3 o0 o1 o2 ov acc W) : B4 W (w.heap.size + 2) o0 o1 o2 ov := by have := h.out; rwa [wcn_size] at this
theorem RS.ownC (h : RS (wcn w P c) a0 a1 a2 a3 o0 o1 o2 ov acc W) : OwnL (w.heap.size + 3) ov acc W := by have := h.own; rwa [wcn_size] at this
theorem RS.bigC (h : RS (wcn w P c) a0 a1 a2 a3 o0 o1 o2 ov acc W) : w.heap.size + 3 ≤ W.heap.size := by have := h.big; rwa [wcn_size] at this
theorem RS.exC (h : RS (wcn w P c) a0 a1 a2 a3 o0 o1 o2 ov acc W) : Ex (fun x => x = P) w W := ex_of_below h.below
theorem RS.cntC {c0 : Nat} (h : RS (wcn w P c) a0 a1 a2 a3 o0 o1 o2 ov acc W) (h0 : PBox w P c0) : PBox W P c := (h.below.block P (by rw [wcn_size]; exact lt_of_block h0)).trans (wcn_box h0 c)
theorem RS.snocC {g cap' : Nat} {ds : List TC} {x : TC} {t : Ty} (h : RS (wcn w P c) a0 a1 a2 a3 o0 o1 o2 ov acc W) (h1 : W.ownsRow (w.heap.size + 3) 24 4 ov ds.length (TC.all ds)) (h2 : TC.AllOf (fun g => w.heap.size + 3 ≤ g ∧ some g ≠ ov.ownBlock) W ds acc)
    (hx : TC.Of (fun g => w.heap.size + 3 ≤ g ∧ some g ≠ ov.ownBlock) W x t)
    (hown : W'.ownsRow (w.heap.size + 3) 24 4 (.slice (some ⟨g, 0, none⟩) (ds.length + 1) cap') (ds.length + 1) (TC.all ds ++ x.enc)) (hg : W.grownBy W' ov.ownBlock) (hlie : ov.ownBlock = some g ∨ g = W.heap.size) :
    B4 W' (w.heap.size + 2) o0 o1 o2 ov ∧ RS (wcn w P c) a0 a1 a2 a3 o0 o1 o2 (.slice (some ⟨g, 0, none⟩) (ds.length + 1) cap') (acc ++ [t]) (W'.setCell ⟨w.heap.size + 2, 3, none⟩ (.slice (some ⟨g, 0, none⟩) (ds.length + 1) cap')) := by
  have hz := wcn_size w P c
  have k := RS.snoc (W' := W') (g := g) (cap' := cap') (ds := ds) (x := x) (t := t) h (by rw [hz]; exact h1) (by rw [hz]; exact h2) (by rw [hz]; exact hx) (by rw [hz]; exact hown) hg hlie
  rw [hz] at k
  exact ⟨k.1.2.2.2, k.2⟩
end
/-- what the reference's resolve returns -/
def RslP (r : Ty) (d c : Nat) (P : Nat) (w : World) (e : Ending) (w' : World) : Prop :=
  Ex (fun x => x = P) w w' ∧ ((fit r d c = true ∧ ∃ v, e = .returned (.tuple #[v, .bool true]) ∧ VO (w.heap.size ≤ ·) w' r v ∧ PBox w' P (c + nodes r)) ∨ (fit r d c = false ∧ e = .returned (.tuple #[zeroV, .bool false])))
def RslC (M : List MC) (base : Option Addr) (cap : Nat) (w0 : World) (t r : Ty) : Prop :=
  ∀ (v : Value) (d c P : Nat) (w : World), V w0 t v → Below w0.heap.size w0 w → w0.heap.size ≤ P → PBox w P c → d ≤ 41 → c ≤ 600 → Calls Try.prog 86 #[.slice base M.length cap, v, .int .i64 d, .pointer (some ⟨P, 0, none⟩)] w (RslP r d c P w)

theorem agg4_inj {a0 a1 a2 a3 b0 b1 b2 b3 : Value} (h : Value.agg #[a0, a1, a2, a3] = .agg #[b0, b1, b2, b3]) : a0 = b0 ∧ a1 = b1 ∧ a2 = b2 ∧ a3 = b3 := by
  injection h with e
  simpa using e
/-- .. in one form for both outcomes -/
def RslQ (P : Nat) (r : Ty) (d c : Nat) (w : World) (i0 i1 : Int) (s2 : ByteArray) (bb : Option Addr) (l cc : Nat) (ok : Bool) (w' : World) : Prop :=
  Ex (fun x => x = P) w w' ∧ fit r d c = ok ∧ (ok = true → VO (w.heap.size ≤ ·) w' r (.agg #[.int .i64 i0, .int .i64 i1, .string s2, .slice bb l cc]) ∧ PBox w' P (c + nodes r))
theorem rslq {r : Ty} {d c P : Nat} {w w' : World} {e : Ending} (h : RslP r d c P w e w') : ∃ i0 i1 s2 bb l cc ok, e = .returned (.tuple #[.agg #[.int .i64 i0, .int .i64 i1, .string s2, .slice bb l cc], .bool ok]) ∧ RslQ P r d c w i0 i1 s2 bb l cc ok w' := by
  obtain ⟨h1, ⟨h2, v, rfl, h3, h4⟩ | ⟨h2, rfl⟩⟩ := h
  · have h5 := h3
    obtain ⟨bb, cc, rfl, _, _⟩ := h5
    exact ⟨_, _, _, _, _, _, _, rfl, h1, h2, fun _ => ⟨h3, h4⟩⟩
  · exact ⟨0, 0, ⟨#[]⟩, none, 0, 0, false, rfl, h1, h2, fun h => by cases h⟩
/-- .. in a box -/
def RslX (W : World) (P : Nat) (r : Ty) (d c : Nat) (s13 s14 : Value) (wx : World) : Prop :=
  ∃ (B : Nat) (i0 i1 : Int) (s2 : ByteArray) (bb : Option Addr) (l cc : Nat) (ok : Bool), s13 = .pointer (some ⟨B, 0, none⟩) ∧ s14 = .bool ok ∧ Hid (Ex (fun x => x = P) W wx) ∧ Hid (fit r d c = ok) ∧ Hid (ok = true → B4 wx B (.int .i64 i0) (.int .i64 i1) (.string s2) (.slice bb l cc) ∧ VO (W.heap.size ≤ ·) wx r (.agg #[.int .i64 i0, .int .i64 i1, .string s2, .slice bb l cc]) ∧ PBox wx P (c + nodes r))
theorem VO.base {a b : Nat} {w : World} {t : Ty} {v : Value} (h : VO (b ≤ ·) w t v) (hab : a ≤ b) : VO (a ≤ ·) w t v := h.keep (fun g hg => by show a ≤ g; have : b ≤ g := hg; omega) (fun p v _ hc => hc)
section
variable {W Wc w6 : World} {P B d c l cc : Nat} {r : Ty} {i0 i1 : Int} {s2 : ByteArray} {bb : Option Addr} {ok : Bool}
theorem rslx_c (hx : Ex (fun x => x = P) W Wc) (q : RslQ P r d c Wc i0 i1 s2 bb l cc ok w6) : RslX W P r d c (.pointer (some ⟨w6.heap.size, 0, none⟩)) (.bool ok) (w6.alloc (Obj.cells #[.int .i64 i0, .int .i64 i1, .string s2, .slice bb l cc] 24)) := by
  obtain ⟨q1, q2, q3⟩ := q
  have hn : Below w6.heap.size w6 (w6.alloc (Obj.cells #[.int .i64 i0, .int .i64 i1, .string s2, .slice bb l cc] 24)) := (Below.refl _ _).alloc (Nat.le_refl _) _
  refine ⟨_, i0, i1, s2, bb, l, cc, ok, rfl, rfl, Lib.hid ((hx.trans q1).trans (Ex.of_below hn)), Lib.hid q2, Lib.hid (fun h => ?_)⟩
  obtain ⟨h1, h2⟩ := q3 h
  exact ⟨heap_alloc_new _ _, (h1.keep (fun g hg => hg) (fun p v _ hc => keeps hn _ _ hc)).base hx.size, (hn.block _ (lt_of_block h2)).trans h2⟩
theorem rslx_p {z0 z1 z2 z3 : Value} (hx : Ex (fun x => x = P) W Wc) (hP : P < W.heap.size) (hW : W.heap.size ≤ B) (hB : B < Wc.heap.size) (hz : B4 w6 B z0 z1 z2 z3) (q : RslQ P r d c Wc i0 i1 s2 bb l cc ok w6) : RslX W P r d c (.pointer (some ⟨B, 0, none⟩)) (.bool ok) (put4 w6 B (.int .i64 i0) (.int .i64 i1) (.string s2) (.slice bb l cc)) := by
  obtain ⟨q1, q2, q3⟩ := q
  have e := hx.trans q1
  refine ⟨_, i0, i1, s2, bb, l, cc, ok, rfl, rfl, Lib.hid ⟨e.os, e.tape, e.output, by have := e.size; simpa [put4, World.setCell] using this, fun j hj hne => (put4_other (by omega) _ _ _ _).trans (e.block j hj hne)⟩, Lib.hid q2, Lib.hid (fun h => ?_)⟩
  obtain ⟨h1, h2⟩ := q3 h
  exact ⟨put4_cells hz _ _ _ _, (h1.keep (fun g hg => hg) (fun p v hp hc => put4_keep _ _ _ _ p v hc (by have : Wc.heap.size ≤ p.block := hp; omega))).base hx.size, (put4_other (by omega) _ _ _ _).trans h2⟩
end
section
variable {V0 W W' : World} {P D B : Nat} {h0 h1 h2 h3 : Value}
abbrev HX5 (V0 W : World) (P D : Nat) (h0 h1 h2 h3 : Value) : Prop := Hid (Ex (fun x => x = P) V0 W) ∧ W.cell? ⟨D, 0, none⟩ = some h0 ∧ W.cell? ⟨D, 1, none⟩ = some h1 ∧ W.cell? ⟨D, 2, none⟩ = some h2 ∧ W.cell? ⟨D, 3, none⟩ = some h3
theorem Ex.cell {p : Addr} {v : Value} (k : Ex (fun x => x = P) W W') (h : W.cell? p = some v) (hp : p.block ≠ P) : W'.cell? p = some v := (World.cell?_of_block (k.block p.block (World.block_lt_of_cell? W p h) hp)).trans h
theorem hx5_next (h : HX5 V0 W P D h0 h1 h2 h3) (hD : D ≠ P) (k : Ex (fun x => x = P) W W') : HX5 V0 W' P D h0 h1 h2 h3 := ⟨Lib.hid (h.1.out.trans k), k.cell h.2.1 hD, k.cell h.2.2.1 hD, k.cell h.2.2.2.1 hD, k.cell h.2.2.2.2 hD⟩
theorem hx5_alloc (h : HX5 V0 W P D h0 h1 h2 h3) (hD : D ≠ P) (o : Obj) : HX5 V0 (W.alloc o) P D h0 h1 h2 h3 := hx5_next h hD (Ex.of_below ((Below.refl _ _).alloc (Nat.le_refl _) _))
theorem hx5_put (v0 v1 v2 v3 : Value) (h : HX5 V0 W P D h0 h1 h2 h3) (hB : V0.heap.size ≤ B) (hD : D ≠ B) : HX5 V0 ((((W.setCell ⟨B, 0, none⟩ v0).setCell ⟨B, 1, none⟩ v1).setCell ⟨B, 2, none⟩ v2).setCell ⟨B, 3, none⟩ v3) P D h0 h1 h2 h3 := by
  have e := h.1.out
  exact ⟨Lib.hid ⟨e.os, e.tape, e.output, by have := e.size; simpa [World.setCell] using this, fun j hj hne => (put4_other (by omega) v0 v1 v2 v3).trans (e.block j hj hne)⟩, put4_keep _ _ _ _ _ _ h.2.1 hD, put4_keep _ _ _ _ _ _ h.2.2.1 hD, put4_keep _ _ _ _ _ _ h.2.2.2.1 hD, put4_keep _ _ _ _ _ _ h.2.2.2.2 hD⟩
theorem hx5_swap {o o' : Obj} (h : HX5 V0 (W.alloc o) P D h0 h1 h2 h3) (hs : V0.heap.size ≤ W.heap.size) (hD : D < V0.heap.size) : HX5 V0 (W.alloc o') P D h0 h1 h2 h3 := by
  have e := h.1.out
  have hD' : D < W.heap.size := by omega
  have sw : ∀ {p : Addr} {v : Value}, p.block < W.heap.size → (W.alloc o).cell? p = some v → (W.alloc o').cell? p = some v := fun hp hc => (World.cell?_of_block ((Below.heap_alloc W o' _ hp).trans (Below.heap_alloc W o _ hp).symm)).trans hc
  refine ⟨Lib.hid ⟨e.os, e.tape, e.output, by simp; omega, fun j hj hne => ?_⟩, sw hD' h.2.1, sw hD' h.2.2.1, sw hD' h.2.2.2.1, sw hD' h.2.2.2.2⟩
  exact ((Below.heap_alloc W o' j (by omega)).trans (Below.heap_alloc W o j (by omega)).symm).trans (e.block j hj hne)
theorem box_nextx {v0 v1 v2 v3 : Value} (k : Ex (fun x => x = P) (W.alloc (Obj.cells #[v0, v1, v2, v3] 24)) W') (hP : P < W.heap.size) : B4 W' W.heap.size v0 v1 v2 v3 := B4.ex (heap_alloc_new _ _) k (by omega)
end

end Ty
end Go.Proofs.Ytkedhnahgpmkaaa

/- What the reference's resolve returns. Conditions: the values of solved metavariables are proper; all metavariables are there. -/
namespace Go.Proofs.Ytkedhnahgpmkaaa
open Go.RowKit

namespace Ty
/-- what the box holds while values are put -/
def ChI (M : List MC) (w0 W2 : World) (S : Nat) (u : Ty) (k : Nat) (W : World) : Prop :=
  ∃ t b c, Ch M k t u ∧ Inr M t ∧ W.heap.size = W2.heap.size ∧ Ex (fun x => x = S) W2 W ∧ B4 W S (.int .i64 t.op) (.int .i64 t.n) (.string t.name) (.slice b t.args.length c) ∧ V w0 t (.agg #[.int .i64 t.op, .int .i64 t.n, .string t.name, .slice b t.args.length c])
theorem inr_meta {M : List MC} {u : Ty} (h : Inr M u) (h6 : u.op = 6) : 0 ≤ u.n ∧ u.n.toNat < M.length ∧ u.args = [] := by
  cases h with
  | leaf op n s hg hp =>
    have e : op = 6 := h6
    subst e
    have := (good_meta hg).2
    exact ⟨by simp only [Ty.n]; omega, hp rfl, rfl⟩
  | node op x y h _ _ =>
    have e : op = 6 := h6
    omega
section
variable {M : List MC} {base : Option Addr} {cap : Nat} {w0 : World}

set_option maxHeartbeats 32000000 in
set_option maxRecDepth 100000 in
theorem rres_head (hM : OkM M) (hms : Ms w0 base M) {t u r : Ty} {n : Nat} (hch : Ch M n t u) (hin : Inr M t) (hst : Stop M u)
    (HK : (u.args = [] ∧ r = u) ∨ ∃ op x y rx ry, u = .mk op 0 [] [x, y] ∧ r = .mk op 0 [] [rx, ry] ∧ RslC M base cap w0 x rx ∧ RslC M base cap w0 y ry) : RslC M base cap w0 t r := by
  intro v d c P w hv hb hP hp hd hc
  have hPw := lt_of_block hp
  obtain ⟨b, cp, ev, hsl⟩ := hv
  have hv : V w0 t (.agg #[.int .i64 t.op, .int .i64 t.n, .string t.name, .slice b t.args.length cp]) := ⟨b, cp, rfl, hsl⟩
  subst ev
  obtain ⟨ht1, ht2⟩ := two_boxes w (.int .i64 t.op) (.int .i64 t.n) (.string t.name) (.slice b t.args.length cp) (.int .i64 0) (.int .i64 0) (.string ⟨#[]⟩) (.slice none 0 0)
  have hb2 := below_two w (Obj.cells #[.int .i64 t.op, .int .i64 t.n, .string t.name, .slice b t.args.length cp] 24) (Obj.cells #[.int .i64 0, .int .i64 0, .string ⟨#[]⟩, .slice none 0 0] 24)
  have HB0 := Lib.hid hb
  have HMS := Lib.hid hms
  have HIN := Lib.hid hin
  have HST := Lib.hid hst
  have HCH := Lib.hid hch
  have HKK := Lib.hid HK
  have HPB := Lib.hid hp
  have HV := Lib.hid hv
  have HT1 := Lib.hid ht1
  have HT2 := Lib.hid ht2
  have HB2 := Lib.hid hb2
  obtain ⟨m, hm⟩ : ∃ m, m = M.length := ⟨_, rfl⟩
  rw [← hm]
  have HML := Lib.hid hm
  clear hb hms hin hst hch HK hp hv ht1 ht2 hb2 hm hsl
  go_enter Try.func86, Try.ntmps86
  go_upto_region 1 with fail
  obtain ⟨W2, hW2⟩ : ∃ W2, W2 = (w.alloc (Obj.cells #[.int .i64 t.op, .int .i64 t.n, .string t.name, .slice b t.args.length cp] 24)).alloc (Obj.cells #[.int .i64 0, .int .i64 0, .string ⟨#[]⟩, .slice none 0 0] 24) := ⟨_, rfl⟩
  rw [← hW2] at HT1 HT2 HB2 ⊢
  have HSZ : Hid (W2.heap.size = w.heap.size + 2) := Lib.hid (by rw [hW2]; simp)
  clear hW2
  have HS0 : Hid (w0.heap.size ≤ w.heap.size) := Lib.hid HB0.out.size
  have HBW2 : Hid (Below w0.heap.size w0 W2) := Lib.hid (HB0.out.trans (HB2.out.mono HB0.out.size))
  have HI0 : Hid (ChI M w0 W2 w.heap.size u n W2) := Lib.hid ⟨t, b, cp, HCH.out, HIN.out, rfl, Ex.refl _ _, HT1.out, HV.out⟩
  clear HCH HIN HV HT1
  go_loopg [17] n (fun k _ wr => Hid (ChI M w0 W2 w.heap.size u k wr)) 
  case atStart => exact HI0
  case round =>
    obtain ⟨t', b', c', hch, hin, hwz, hex, hbx, hv⟩ := hrel.out
    have HWZ := Lib.hid hwz
    clear hwz
    clear hrel HI0
    have HBW : Hid (Below w0.heap.size w0 wr) := Lib.hid (hex.old HBW2.out HS0.out)
    have HEX := Lib.hid hex
    have HBX := Lib.hid hbx
    have HV := Lib.hid hv
    obtain ⟨q0, q1, q2, q3⟩ := hbx.cells
    have f0 := hbx.frozen 0
    have f1 := hbx.frozen 1
    have f2 := hbx.frozen 2
    have f3 := hbx.frozen 3
    clear hex hbx hv
    cases hch with
    | @more n' s k v' _ hsol hch =>
      -- one more value
      have HCH := Lib.hid hch
      obtain ⟨hnl, hsv, hval⟩ := hsol
      have hg6 : 0 ≤ n' ∧ s = [] := by
        cases hin with
        | leaf _ _ _ hg _ => exact ⟨by cases hg; omega, (good_meta hg).1⟩
      obtain ⟨hn0, hs0⟩ := hg6
      subst hs0
      obtain ⟨nn, hnn⟩ : ∃ nn : Nat, n' = (nn : Int) := ⟨n'.toNat, by omega⟩
      subst hnn
      rw [Int.toNat_natCast] at hnl
      simp only [Int.toNat_natCast] at hsv hval
      have HIN2 : Hid (Inr M v') := Lib.hid (inr_sol hM ⟨by rw [Int.toNat_natCast]; exact hnl, by simp only [Int.toNat_natCast]; exact hsv, by simp only [Int.toNat_natCast]; exact hval⟩)
      obtain ⟨g, o, rfl, -, c5, ⟨c6, c7, c8, c9⟩, -⟩ := (HMS.out.next HBW.out).at hnl
      rw [hsv] at c5
      rw [hval] at c6 c7 c8 c9
      have HV2 := Lib.hid (HMS.out.cell hnl).2.2
      rw [hval] at HV2
      generalize (M[nn]'hnl).b = b2 at *
      generalize (M[nn]'hnl).cap = c2 at *
      replace q0 : wr.cell? ⟨w.heap.size, 0, none⟩ = some (.int .i64 6) := q0
      replace q1 : wr.cell? ⟨w.heap.size, 1, none⟩ = some (.int .i64 nn) := q1
      have HNX : Hid (∀ W', W' = put4 wr w.heap.size (.int .i64 v'.op) (.int .i64 v'.n) (.string v'.name) (.slice b2 v'.args.length c2) → ChI M w0 W2 w.heap.size u k W') := Lib.hid (fun W' hW' => by
        subst hW'
        exact ⟨v', b2, c2, HCH.out, HIN2.out, by rw [← HWZ.out]; simp [put4, World.setCell], HEX.out.trans (Ex.put4 (X := fun x => x = w.heap.size) rfl _ _ _ _), put4_cells HBX.out _ _ _ _, HV2.out⟩)
      have hnm : nn < m := by rw [HML.out]; exact hnl
      clear hsv hval hin
      go_wp2_with fail
      go_roundg k
      case measure => omega
      case rel => exact Lib.hid (HNX.out _ rfl)
    | zero =>
      have HIN := Lib.hid hin
      have HP3 : Hid (PBox wr P c) := Lib.hid ((HEX.out.block _ (by have := HSZ.out; omega) (by omega)).trans ((HB2.out.block _ hPw).trans HPB.out))
      have HRES : Hid (B4 wr (w.heap.size + 1) (.int .i64 0) (.int .i64 0) (.string ⟨#[]⟩) (.slice none 0 0)) := Lib.hid (HT2.out.ex HEX.out (by omega))
      have HXW : Hid (Ex (fun x => x = P) w wr) := Lib.hid ⟨HEX.out.os.trans HB2.out.os, HEX.out.tape.trans HB2.out.tape, HEX.out.output.trans HB2.out.output, Nat.le_trans HB2.out.size HEX.out.size, fun j hj _ => (HEX.out.block j (Nat.lt_of_lt_of_le hj HB2.out.size) (by omega)).trans (HB2.out.block j hj)⟩
      have HNS : Hid (u.name.size ≤ maxLen) := Lib.hid (by obtain ⟨_, _, _, h, _⟩ := HV.out; exact h)
      by_cases h6 : u.op = 6
      · obtain ⟨hn0, hnl, hua6⟩ := inr_meta hin h6
        have HUA6 := Lib.hid hua6
        obtain ⟨nn, hnn⟩ : ∃ nn : Nat, u.n = (nn : Int) := ⟨u.n.toNat, by omega⟩
        have hnl2 : nn < M.length := by rw [hnn] at hnl; exact hnl
        have hsv : (M[nn]'hnl2).sol = false := by
          cases hh : (M[nn]'hnl2).sol with
          | false => rfl
          | true => exact absurd ⟨by rw [hnn]; exact hnl2, by simp only [hnn, Int.toNat_natCast]; exact hh, rfl⟩ (HST.out h6 _)
        obtain ⟨gm, om, hbase, -, c5, -, -⟩ := (HMS.out.next HBW.out).at hnl2
        subst hbase
        rw [hsv] at c5
        replace q0 : wr.cell? ⟨w.heap.size, 0, none⟩ = some (.int .i64 6) := by rw [← h6]; exact q0
        replace q1 : wr.cell? ⟨w.heap.size, 1, none⟩ = some (.int .i64 nn) := by rw [← hnn]; exact q1
        have hnm : nn < m := by rw [HML.out]; exact hnl2
        clear hsv hin hnn hn0 hnl hua6 h6
        go_upto_region 3 with fail
        clear c5
        -- one more is counted
        have k0 := one_cell HP3.out
        have k1 := one_frozen HP3.out
        go_upto_region 4 with fail
        obtain ⟨W3, hW3⟩ : ∃ W3, W3 = wr.setCell ⟨P, 0, none⟩ (.int .i64 ((c : Int) + 1)) := ⟨_, rfl⟩
        have HW3Z : Hid (W3.heap.size = wr.heap.size) := Lib.hid (by rw [hW3]; simp [World.setCell])
        have HP4 : Hid (PBox W3 P (c + 1)) := Lib.hid (by rw [hW3]; exact one_same HP3.out)
        have HX3 : Hid (Ex (fun x => x = P) wr W3) := Lib.hid (by rw [hW3]; exact Ex.setCell (X := fun x => x = P) rfl _)
        have HBX3 := Lib.hid (HBX.out.ex HX3.out (by omega))
        have HRS3 := Lib.hid (HRES.out.ex HX3.out (by omega))
        rw [← hW3]
        clear hW3 k0 k1 q0 q1 q2 q3 f0 f1 f2 f3
        have k0 : W3.cell? ⟨P, 0, none⟩ = some (.int .i64 ((c : Int) + 1)) := one_cell HP4.out
        obtain ⟨q0, q1, q2, q3⟩ := HBX3.out.cells
        by_cases ho : 600 < c + 1 ∨ 40 < d
        · have HNF : Hid (fit r d c = false) := Lib.hid (fit_over ho)
          have HXF : Hid (Ex (fun x => x = P) w W3) := Lib.hid (((HXW.out).trans HX3.out))
          obtain ⟨z0, z1, z2, z3⟩ := HRS3.out.cells
          have g0 := HRS3.out.frozen 0
          have g1 := HRS3.out.frozen 1
          have g2 := HRS3.out.frozen 2
          have g3 := HRS3.out.frozen 3
          have HFIN : Hid (∀ v0 v1 v2 v3, Ex (fun x => x = P) w (put4 W3 (w.heap.size + 1) v0 v1 v2 v3)) := Lib.hid (fun v0 v1 v2 v3 => by
            have e := HXF.out
            exact ⟨e.os, e.tape, e.output, by have := e.size; simpa [put4, World.setCell] using this, fun j hj hne => (put4_other (by omega) v0 v1 v2 v3).trans (e.block j hj hne)⟩)
          by_cases h600 : 600 < c + 1
          · have e1 : decide ((600 : Int) < (c : Int) + 1) = true := decide_eq_true (by omega)
            clear ho h600
            go_wp2_with fail
            refine bodyPost_ret (results_two (a := 8) (b := 9) (by kernel_rfl) (B := w.heap.size + 1) (by rfl) (by rfl) (put4_cells HRS3.out _ _ _ _).cells.1 (put4_cells HRS3.out _ _ _ _).cells.2.1 (put4_cells HRS3.out _ _ _ _).cells.2.2.1 (put4_cells HRS3.out _ _ _ _).cells.2.2.2) rfl ?_
            exact ⟨HFIN.out _ _ _ _, .inr ⟨HNF.out, rfl⟩⟩
          · have e1 : decide ((600 : Int) < (c : Int) + 1) = false := decide_eq_false (by omega)
            have e2 : decide ((40 : Int) < (d : Int)) = true := decide_eq_true (by omega)
            clear ho h600
            go_wp2_with fail
            refine bodyPost_ret (results_two (a := 8) (b := 9) (by kernel_rfl) (B := w.heap.size + 1) (by rfl) (by rfl) (put4_cells HRS3.out _ _ _ _).cells.1 (put4_cells HRS3.out _ _ _ _).cells.2.1 (put4_cells HRS3.out _ _ _ _).cells.2.2.1 (put4_cells HRS3.out _ _ _ _).cells.2.2.2) rfl ?_
            exact ⟨HFIN.out _ _ _ _, .inr ⟨HNF.out, rfl⟩⟩
        · have e1 : decide ((600 : Int) < (c : Int) + 1) = false := decide_eq_false (by omega)
          have e2 : decide ((40 : Int) < (d : Int)) = false := decide_eq_false (by omega)
          have HO := Lib.hid ho
          clear ho
          go_upto_region 7 with fail
          have HBW3 : Hid (Below w0.heap.size w0 W3) := Lib.hid (HX3.out.old HBW.out hP)
          obtain ⟨W6, hW6⟩ : ∃ W6, W6 = W3.alloc (Obj.cells #[.int .i64 u.op, .int .i64 u.n, .string u.name, .slice none 0 0] 24) := ⟨_, rfl⟩
          have hb6 : Below W3.heap.size W3 W6 := by rw [hW6]; exact (Below.refl _ _).alloc (Nat.le_refl _) _
          have hn6 : B4 W6 W3.heap.size (.int .i64 u.op) (.int .i64 u.n) (.string u.name) (.slice none 0 0) := by rw [hW6]; exact heap_alloc_new _ _
          have HZ3 : Hid (W3.heap.size = w.heap.size + 2) := Lib.hid (by rw [HW3Z.out, HWZ.out, HSZ.out])
          rw [← hW6]
          rw [HZ3.out] at hn6
          rw [show W3.heap.size = w.heap.size + 2 from HZ3.out]
          clear hW6
          have HRC : Hid (RS (wcn w P (c + 1)) (.int .i64 u.op) (.int .i64 u.n) (.string u.name) (.slice b' u.args.length c') (.int .i64 u.op) (.int .i64 u.n) (.string u.name) (.slice none 0 0) [] W6) := Lib.hid (by
            have e := (HXW.out.trans HX3.out).trans (Ex.of_below hb6)
            have hp6 : PBox W6 P (c + 1) := (hb6.block _ (lt_of_block HP4.out)).trans HP4.out
            refine ⟨⟨e.os, e.tape, e.output, by rw [wcn_size]; exact e.size, fun j hj => ?_⟩, ?_, ?_, ?_, ?_⟩
            · rw [wcn_size] at hj
              by_cases hjP : j = P
              · subst hjP
                exact hp6.trans (wcn_box HPB.out (c + 1)).symm
              · exact (e.block j hj hjP).trans ((wcn_ex w P (c + 1)).block j hj hjP).symm
            · rw [wcn_size]; exact HBX3.out.next hb6
            · rw [wcn_size]; exact HRS3.out.next hb6
            · rw [wcn_size]; exact hn6
            · exact OwnL.nil _ _)
          have HP6 : Hid (PBox W6 P (c + 1)) := Lib.hid ((hb6.block _ (lt_of_block HP4.out)).trans HP4.out)
          have HBW6 : Hid (Below w0.heap.size w0 W6) := Lib.hid (HBW3.out.trans (hb6.mono HBW3.out.size))
          clear hb6 hn6 q0 q1 q2 q3 k0 e1 e2 HBX3 HRS3 HX3 HP4 HBX HRES HEX HP3
          obtain ⟨q0, q1, q2, q3⟩ := HRC.out.box.cells
          rw [wcn_size] at q0 q1 q2 q3
          rcases HKK.out with ⟨hua, hru⟩ | ⟨op, x, y, rx, ry, hu, hr, hcx, hcy⟩
          · have HUA : Hid (u.args.length = 0) := Lib.hid (by rw [hua]; rfl)
            have HRU := Lib.hid hru
            have HUF : Hid (u = .mk u.op u.n u.s []) := Lib.hid (by cases u with | mk a b c d => have e : d = [] := hua; subst e; rfl)
            clear hua hru
            rw [HUA.out] at q3 HRC
            go_wp2_with fail
            refine wp_loop_rounds 1 ?_
            rw [rounds_succ]
            obtain ⟨p0, p1, p2, p3⟩ := HRC.out.out.cells
            rw [wcn_size] at p0 p1 p2 p3
            have HRR := Lib.hid HRC.out.res
            rw [wcn_size] at HRR
            obtain ⟨z0, z1, z2, z3⟩ := HRR.out.cells
            have g0 := HRR.out.frozen 0
            have g1 := HRR.out.frozen 1
            have g2 := HRR.out.frozen 2
            have g3 := HRR.out.frozen 3
            go_wp2_with fail
            refine bodyPost_ret (results_two (a := 8) (b := 9) (by kernel_rfl) (B := w.heap.size + 1) (by rfl) (by rfl) (put4_cells HRR.out _ _ _ _).cells.1 (put4_cells HRR.out _ _ _ _).cells.2.1 (put4_cells HRR.out _ _ _ _).cells.2.2.1 (put4_cells HRR.out _ _ _ _).cells.2.2.2) rfl ?_
            obtain ⟨bb, cap9, hov, hfin⟩ := rs_end HRC.out HPB.out HP6.out HNS.out (by show 0 ≤ 1000000; omega)
            obtain ⟨e1, e2, e3⟩ := hfin (.int .i64 u.op) (.int .i64 u.n) (.string u.name) (.slice none 0 0)
            refine ⟨e1, .inl ⟨by rw [HRU.out, HUF.out]; exact fit_one HO.out, _, rfl, ?_, ?_⟩⟩
            · rw [HRU.out, HUF.out]
              simp only [List.length_nil] at hov e3
              rw [← hov] at e3
              exact e3
            · rw [HRU.out, HUF.out, nodes_leaf]
              exact e2
          · subst hu
            exact absurd HUA6.out (by intro h; cases h)
      · have e6 : (u.op == 6) = false := by simpa using h6
        clear h6 hin
        go_upto_region 3 with fail
        -- one more is counted
        have k0 := one_cell HP3.out
        have k1 := one_frozen HP3.out
        go_upto_region 4 with fail
        obtain ⟨W3, hW3⟩ : ∃ W3, W3 = wr.setCell ⟨P, 0, none⟩ (.int .i64 ((c : Int) + 1)) := ⟨_, rfl⟩
        have HW3Z : Hid (W3.heap.size = wr.heap.size) := Lib.hid (by rw [hW3]; simp [World.setCell])
        have HP4 : Hid (PBox W3 P (c + 1)) := Lib.hid (by rw [hW3]; exact one_same HP3.out)
        have HX3 : Hid (Ex (fun x => x = P) wr W3) := Lib.hid (by rw [hW3]; exact Ex.setCell (X := fun x => x = P) rfl _)
        have HBX3 := Lib.hid (HBX.out.ex HX3.out (by omega))
        have HRS3 := Lib.hid (HRES.out.ex HX3.out (by omega))
        rw [← hW3]
        clear hW3 k0 k1 q0 q1 q2 q3 f0 f1 f2 f3
        have k0 : W3.cell? ⟨P, 0, none⟩ = some (.int .i64 ((c : Int) + 1)) := one_cell HP4.out
        obtain ⟨q0, q1, q2, q3⟩ := HBX3.out.cells
        by_cases ho : 600 < c + 1 ∨ 40 < d
        · have HNF : Hid (fit r d c = false) := Lib.hid (fit_over ho)
          have HXF : Hid (Ex (fun x => x = P) w W3) := Lib.hid (((HXW.out).trans HX3.out))
          obtain ⟨z0, z1, z2, z3⟩ := HRS3.out.cells
          have g0 := HRS3.out.frozen 0
          have g1 := HRS3.out.frozen 1
          have g2 := HRS3.out.frozen 2
          have g3 := HRS3.out.frozen 3
          have HFIN : Hid (∀ v0 v1 v2 v3, Ex (fun x => x = P) w (put4 W3 (w.heap.size + 1) v0 v1 v2 v3)) := Lib.hid (fun v0 v1 v2 v3 => by
            have e := HXF.out
            exact ⟨e.os, e.tape, e.output, by have := e.size; simpa [put4, World.setCell] using this, fun j hj hne => (put4_other (by omega) v0 v1 v2 v3).trans (e.block j hj hne)⟩)
          by_cases h600 : 600 < c + 1
          · have e1 : decide ((600 : Int) < (c : Int) + 1) = true := decide_eq_true (by omega)
            clear ho h600
            go_wp2_with fail
            refine bodyPost_ret (results_two (a := 8) (b := 9) (by kernel_rfl) (B := w.heap.size + 1) (by rfl) (by rfl) (put4_cells HRS3.out _ _ _ _).cells.1 (put4_cells HRS3.out _ _ _ _).cells.2.1 (put4_cells HRS3.out _ _ _ _).cells.2.2.1 (put4_cells HRS3.out _ _ _ _).cells.2.2.2) rfl ?_
            exact ⟨HFIN.out _ _ _ _, .inr ⟨HNF.out, rfl⟩⟩
          · have e1 : decide ((600 : Int) < (c : Int) + 1) = false := decide_eq_false (by omega)
            have e2 : decide ((40 : Int) < (d : Int)) = true := decide_eq_true (by omega)
            clear ho h600
            go_wp2_with fail
            refine bodyPost_ret (results_two (a := 8) (b := 9) (by kernel_rfl) (B := w.heap.size + 1) (by rfl) (by rfl) (put4_cells HRS3.out _ _ _ _).cells.1 (put4_cells HRS3.out _ _ _ _).cells.2.1 (put4_cells HRS3.out _ _ _ _).cells.2.2.1 (put4_cells HRS3.out _ _ _ _).cells.2.2.2) rfl ?_
            exact ⟨HFIN.out _ _ _ _, .inr ⟨HNF.out, rfl⟩⟩
        · have e1 : decide ((600 : Int) < (c : Int) + 1) = false := decide_eq_false (by omega)
          have e2 : decide ((40 : Int) < (d : Int)) = false := decide_eq_false (by omega)
          have HO := Lib.hid ho
          clear ho
          go_upto_region 7 with fail
          have HBW3 : Hid (Below w0.heap.size w0 W3) := Lib.hid (HX3.out.old HBW.out hP)
          obtain ⟨W6, hW6⟩ : ∃ W6, W6 = W3.alloc (Obj.cells #[.int .i64 u.op, .int .i64 u.n, .string u.name, .slice none 0 0] 24) := ⟨_, rfl⟩
          have hb6 : Below W3.heap.size W3 W6 := by rw [hW6]; exact (Below.refl _ _).alloc (Nat.le_refl _) _
          have hn6 : B4 W6 W3.heap.size (.int .i64 u.op) (.int .i64 u.n) (.string u.name) (.slice none 0 0) := by rw [hW6]; exact heap_alloc_new _ _
          have HZ3 : Hid (W3.heap.size = w.heap.size + 2) := Lib.hid (by rw [HW3Z.out, HWZ.out, HSZ.out])
          rw [← hW6]
          rw [HZ3.out] at hn6
          rw [show W3.heap.size = w.heap.size + 2 from HZ3.out]
          clear hW6
          have HRC : Hid (RS (wcn w P (c + 1)) (.int .i64 u.op) (.int .i64 u.n) (.string u.name) (.slice b' u.args.length c') (.int .i64 u.op) (.int .i64 u.n) (.string u.name) (.slice none 0 0) [] W6) := Lib.hid (by
            have e := (HXW.out.trans HX3.out).trans (Ex.of_below hb6)
            have hp6 : PBox W6 P (c + 1) := (hb6.block _ (lt_of_block HP4.out)).trans HP4.out
            refine ⟨⟨e.os, e.tape, e.output, by rw [wcn_size]; exact e.size, fun j hj => ?_⟩, ?_, ?_, ?_, ?_⟩
            · rw [wcn_size] at hj
              by_cases hjP : j = P
              · subst hjP
                exact hp6.trans (wcn_box HPB.out (c + 1)).symm
              · exact (e.block j hj hjP).trans ((wcn_ex w P (c + 1)).block j hj hjP).symm
            · rw [wcn_size]; exact HBX3.out.next hb6
            · rw [wcn_size]; exact HRS3.out.next hb6
            · rw [wcn_size]; exact hn6
            · exact OwnL.nil _ _)
          have HP6 : Hid (PBox W6 P (c + 1)) := Lib.hid ((hb6.block _ (lt_of_block HP4.out)).trans HP4.out)
          have HBW6 : Hid (Below w0.heap.size w0 W6) := Lib.hid (HBW3.out.trans (hb6.mono HBW3.out.size))
          clear hb6 hn6 q0 q1 q2 q3 k0 e1 e2 HBX3 HRS3 HX3 HP4 HBX HRES HEX HP3
          obtain ⟨q0, q1, q2, q3⟩ := HRC.out.box.cells
          rw [wcn_size] at q0 q1 q2 q3
          rcases HKK.out with ⟨hua, hru⟩ | ⟨op, x, y, rx, ry, hu, hr, hcx, hcy⟩
          · have HUA : Hid (u.args.length = 0) := Lib.hid (by rw [hua]; rfl)
            have HRU := Lib.hid hru
            have HUF : Hid (u = .mk u.op u.n u.s []) := Lib.hid (by cases u with | mk a b c d => have e : d = [] := hua; subst e; rfl)
            clear hua hru
            rw [HUA.out] at q3 HRC
            go_wp2_with fail
            refine wp_loop_rounds 1 ?_
            rw [rounds_succ]
            obtain ⟨p0, p1, p2, p3⟩ := HRC.out.out.cells
            rw [wcn_size] at p0 p1 p2 p3
            have HRR := Lib.hid HRC.out.res
            rw [wcn_size] at HRR
            obtain ⟨z0, z1, z2, z3⟩ := HRR.out.cells
            have g0 := HRR.out.frozen 0
            have g1 := HRR.out.frozen 1
            have g2 := HRR.out.frozen 2
            have g3 := HRR.out.frozen 3
            go_wp2_with fail
            refine bodyPost_ret (results_two (a := 8) (b := 9) (by kernel_rfl) (B := w.heap.size + 1) (by rfl) (by rfl) (put4_cells HRR.out _ _ _ _).cells.1 (put4_cells HRR.out _ _ _ _).cells.2.1 (put4_cells HRR.out _ _ _ _).cells.2.2.1 (put4_cells HRR.out _ _ _ _).cells.2.2.2) rfl ?_
            obtain ⟨bb, cap9, hov, hfin⟩ := rs_end HRC.out HPB.out HP6.out HNS.out (by show 0 ≤ 1000000; omega)
            obtain ⟨e1, e2, e3⟩ := hfin (.int .i64 u.op) (.int .i64 u.n) (.string u.name) (.slice none 0 0)
            refine ⟨e1, .inl ⟨by rw [HRU.out, HUF.out]; exact fit_one HO.out, _, rfl, ?_, ?_⟩⟩
            · rw [HRU.out, HUF.out]
              simp only [List.length_nil] at hov e3
              rw [← hov] at e3
              exact e3
            · rw [HRU.out, HUF.out, nodes_leaf]
              exact e2
          · subst hu hr
            have HFE := Lib.hid (fit_node_eq op rx ry d c)
            have HNN := Lib.hid (nodes_node op 0 [] rx ry)
            obtain ⟨b9x, c9x, ev9, _, _, h49⟩ := HV.out
            rcases h49 with h49 | ⟨g, o, hb9x, hrow⟩
            · cases h49
            subst hb9x
            have evb : b' = some ⟨g, o, none⟩ := by injection ev9 with e; have e3 := congrArg (fun a : Array Value => a[3]?) e; simpa using (by simpa using e3 : _ ∧ _).1
            subst evb
            clear ev9 HKK
            obtain ⟨hrx, hry, _⟩ := hrow
            obtain ⟨xb, xc, x0, x1, x2, x3, hvx⟩ := at_v hrx
            obtain ⟨yb, yc, y0, y1, y2, y3, hvy⟩ := at_v hry
            have HCX : Hid (∀ W, d ≤ 40 → c + 1 ≤ 600 → Below w0.heap.size w0 W → PBox W P (c + 1) → Calls Try.prog 86 #[.slice base m cap, .agg #[.int .i64 x.op, .int .i64 x.n, .string x.name, .slice xb x.args.length xc], .int .i64 ((d : Int) + 1), .pointer (some ⟨P, 0, none⟩)] W (RslP rx (d + 1) (c + 1) P W)) := Lib.hid (fun W h1 h2 hbW hpW => by rw [HML.out]; exact hcx _ (d + 1) (c + 1) P W hvx hbW hP hpW (by omega) h2)
            have HCY : Hid (∀ W, d ≤ 40 → c + 1 + nodes rx ≤ 600 → Below w0.heap.size w0 W → PBox W P (c + 1 + nodes rx) → Calls Try.prog 86 #[.slice base m cap, .agg #[.int .i64 y.op, .int .i64 y.n, .string y.name, .slice yb y.args.length yc], .int .i64 ((d : Int) + 1), .pointer (some ⟨P, 0, none⟩)] W (RslP ry (d + 1) (c + 1 + nodes rx) P W)) := Lib.hid (fun W h1 h2 hbW hpW => by rw [HML.out]; exact hcy _ (d + 1) (c + 1 + nodes rx) P W hvy hbW hP hpW (by omega) h2)
            have HD40 : Hid (d ≤ 40 ∧ c + 1 ≤ 600) := Lib.hid (by have := HO.out; omega)
            have X0 := Lib.hid x0
            have X1 := Lib.hid x1
            have X2 := Lib.hid x2
            have X3 := Lib.hid x3
            have Y0 := Lib.hid y0
            have Y1 := Lib.hid y1
            have Y2 := Lib.hid y2
            have Y3 := Lib.hid y3
            clear x0 x1 x2 x3 y0 y1 y2 y3 hvx hvy hrx hry hcx hcy
            obtain ⟨i0, hi0, hz0, hz1, hz2⟩ := info_parts info24
            have HI0 := Lib.hid hi0
            have HZ0 := Lib.hid hz0
            have HZ1 := Lib.hid hz1
            have HZ2 := Lib.hid hz2
            clear hi0 hz0 hz1 hz2
            have hdd : IntKind.i64.wrap ((d : Int) + 1) = (d : Int) + 1 := IntWalk.i64_in _ (by omega)
            replace q3 : W6.cell? ⟨w.heap.size, 3, none⟩ = some (.slice (some ⟨g, o, none⟩) 2 c') := q3
            go_wp2_with fail
            refine wp_loop_rounds 3 ?_
            clear q0 q1 q2 q3
            rw [rounds_succ]
            have HBI0 : Hid (Below w0.heap.size w0 W6) := Lib.hid (HRC.out.exC.old HB0.out hP)
            obtain ⟨q0, q1, q2, q3⟩ := HRC.out.boxC.cells
            have x0 := keeps HBI0.out _ _ X0.out
            have x1 := keeps HBI0.out _ _ X1.out
            have x2 := keeps HBI0.out _ _ X2.out
            have x3 := keeps HBI0.out _ _ X3.out
            go_upto_region 10 with fail
            obtain ⟨D0, hD0⟩ : ∃ D, D = W6.heap.size := ⟨_, rfl⟩
            obtain ⟨U0, hU0⟩ : ∃ U, U = W6.alloc (Obj.cells #[.int .i64 x.op, .int .i64 x.n, .string x.name, .slice xb x.args.length xc] 24) := ⟨_, rfl⟩
            have ht13 : B4 U0 D0 (.int .i64 x.op) (.int .i64 x.n) (.string x.name) (.slice xb x.args.length xc) := by rw [hU0, hD0]; exact heap_alloc_new _ _
            have hb9 : Below W6.heap.size W6 U0 := by rw [hU0]; exact (Below.refl _ _).alloc (Nat.le_refl _) _
            rw [← hU0, ← hD0]
            clear hU0 hD0 HBI0
            obtain ⟨t0, t1, t2, t3⟩ := ht13.cells
            have HR0 := Lib.hid (HRC.out.next hb9)
            have HCR0 := Lib.hid ((HCX.out U0 HD40.out.1 (HD40.out.2) (HR0.out.exC.old HB0.out hP) (HR0.out.cntC HPB.out)).mono fun e w' h => rslq h)
            clear hb9 ht13 x0 x1 x2 x3 q0 q1 q2 q3
            go_wp2_with fail
            refine HCR0.out.mono ?_
            rintro e V0 ⟨i0, i1, s2, bb0, l, cc0, ok, rfl, hq⟩
            have HQ0 := Lib.hid hq
            clear hq t0 t1 t2 t3 HCR0
            cases ok with
            | false =>
              have HX := Lib.hid HQ0.out.1
              have HF := Lib.hid HQ0.out.2.1
              have HRES := Lib.hid (HR0.out.resC.ex HX.out (by omega))
              have HXW := Lib.hid (HR0.out.exC.trans HX.out)
              clear HQ0
              go_upto_region 11 with fail
              obtain ⟨Z0, hZ0⟩ : ∃ Z, Z = V0.alloc (Obj.cells #[.int .i64 i0, .int .i64 i1, .string s2, .slice bb0 l cc0] 24) := ⟨_, rfl⟩
              have hbz : Below V0.heap.size V0 Z0 := by rw [hZ0]; exact (Below.refl _ _).alloc (Nat.le_refl _) _
              rw [← hZ0]
              clear hZ0
              have HRS := Lib.hid (HRES.out.next hbz)
              have HXZ := Lib.hid (HXW.out.trans (Ex.of_below hbz))
              obtain ⟨z0, z1, z2, z3⟩ := HRS.out.cells
              have g0 := HRS.out.frozen 0
              have g1 := HRS.out.frozen 1
              have g2 := HRS.out.frozen 2
              have g3 := HRS.out.frozen 3
              clear hbz
              go_wp2_with fail
              refine bodyPost_ret (results_two (a := 8) (b := 9) (by kernel_rfl) (B := w.heap.size + 1) (by rfl) (by rfl) (put4_cells HRS.out _ _ _ _).cells.1 (put4_cells HRS.out _ _ _ _).cells.2.1 (put4_cells HRS.out _ _ _ _).cells.2.2.1 (put4_cells HRS.out _ _ _ _).cells.2.2.2) rfl ?_
              exact ⟨ex_putP HXZ.out _ _ _ _, .inr ⟨by rw [HFE.out, HF.out]; simp, rfl⟩⟩
            | true =>
            obtain ⟨HX0, HF0, HG0⟩ : Hid (Ex (fun x => x = P) U0 V0) ∧ Hid (fit rx (d + 1) (c + 1) = true) ∧ Hid (VO (U0.heap.size ≤ ·) V0 rx (.agg #[.int .i64 i0, .int .i64 i1, .string s2, .slice bb0 l cc0]) ∧ PBox V0 P (c + 1 + nodes rx)) := by
              obtain ⟨h1, h2, h3⟩ := HQ0.out
              exact ⟨Lib.hid h1, Lib.hid h2, Lib.hid (h3 rfl)⟩
            clear HQ0
            obtain ⟨b0', c0', hev, _, _⟩ := id HG0.out.1
            obtain ⟨e0, e1, e2, e3⟩ := agg4_inj hev
            injection e0 with _ e0
            injection e1 with _ e1
            injection e2 with e2
            injection e3 with e3 e4 e5
            subst e0 e1 e2 e3 e4 e5
            clear hev
            have HR80 := Lib.hid (HR0.out.cnt HPB.out HX0.out HG0.out.2)
            have HBG := Lib.hid HR0.out.bigC
            have HSX := Lib.hid HX0.out.size
            have HOW := Lib.hid HR0.out.ownC
            have HSL := Lib.hid (vo_parts HG0.out.1)
            clear HG0 HX0 HR0
            go_upto_region 11 with fail
            obtain ⟨Z0, hZ0⟩ : ∃ Z, Z = V0.alloc (Obj.cells #[.int .i64 rx.op, .int .i64 rx.n, .string rx.name, .slice bb0 rx.args.length cc0] 24) := ⟨_, rfl⟩
            have HNB : Hid (B4 Z0 V0.heap.size (.int .i64 rx.op) (.int .i64 rx.n) (.string rx.name) (.slice bb0 rx.args.length cc0)) := Lib.hid (by rw [hZ0]; exact heap_alloc_new _ _)
            have HBZ : Hid (Below V0.heap.size V0 Z0) := Lib.hid (by rw [hZ0]; exact (Below.refl _ _).alloc (Nat.le_refl _) _)
            rw [← hZ0]
            clear hZ0
            have HRZ := Lib.hid (HR80.out.next HBZ.out)
            obtain ⟨t0, t1, t2, t3⟩ := HNB.out.cells
            obtain ⟨p0, p1, p2, p3⟩ := HRZ.out.outC.cells
            go_upto_region 13 with fail
            have hnew : Below Z0.heap.size Z0 (Z0.alloc (Obj.cells #[.int .i64 rx.op, .int .i64 rx.n, .string rx.name, .slice bb0 rx.args.length cc0] 24)) := (Below.refl _ _).alloc (Nat.le_refl _) _
            have hnew2 := hnew.mono HBZ.out.size
            have HTC := Lib.hid (own_new (w := Z0.alloc (Obj.cells #[.int .i64 rx.op, .int .i64 rx.n, .string rx.name, .slice bb0 rx.args.length cc0] 24)) (c9 := cc0) HOW.out HBG.out HSL.out.1 HSL.out.2 (fun p v _ hc => keeps hnew _ _ (keeps HBZ.out _ _ hc)))
            have HNEW := Lib.hid (heap_alloc_new Z0 (Obj.cells #[.int .i64 rx.op, .int .i64 rx.n, .string rx.name, .slice bb0 rx.args.length cc0] 24))
            have HRN := Lib.hid (HRZ.out.next hnew)
            obtain ⟨ds, hdl, hown, hall⟩ := own_nodes HRN.out.ownC
            have HDL : Hid (ds.length = 0) := Lib.hid hdl
            have HOWN := Lib.hid hown
            have HALL := Lib.hid hall
            have HSZ : Hid (w.heap.size + 3 ≤ (Z0.alloc (Obj.cells #[.int .i64 rx.op, .int .i64 rx.n, .string rx.name, .slice bb0 rx.args.length cc0] 24)).heap.size) := Lib.hid HRN.out.bigC
            have HSZ2 : Hid (w.heap.size + 3 ≤ Z0.heap.size) := Lib.hid HRZ.out.bigC
            clear hnew hnew2 hdl hown hall
            go_wp2_with (at_builtin; go_loud (refine wpList_append_lies _ rfl (.tmp 73) (.tmp 75) 22 rfl (w.heap.size + 3) 24 i0 _ 4 56 Try.underlying22 HI0.out HZ0.out HZ1.out HZ2.out rfl (by omega) _ ds.length (TC.all ds) rfl HOWN.out ⟨Z0.heap.size, 0, none⟩ 1 1 (TC.enc ⟨rx.op, rx.n, rx.name, bb0, rx.args.length, cc0⟩) rfl rfl (World.news_of_block HNEW.out) (TC.enc_one _) (by omega) (by unfold maxLen; have := HDL.out; omega) (by have := HDL.out; omega) (by have := HSZ.out; have := HSZ2.out; omega) _ rfl ?_; intro g1 cap1 w5 hown5 hgr5 hlie5 _; have HSN := Lib.hid (HRN.out.snocC HOWN.out HALL.out HTC.out hown5 hgr5 hlie5); clear hown5 hgr5 hlie5; obtain ⟨z0, z1, z2, z3⟩ := HSN.out.1.cells; have f3 := HSN.out.1.frozen 3; have HFIN : Hid (RS (wcn w P (c + 1 + nodes rx)) (.int .i64 (Ty.op (.mk op 0 [] [x, y]))) (.int .i64 (Ty.n (.mk op 0 [] [x, y]))) (.string (Ty.name (.mk op 0 [] [x, y]))) (.slice (some ⟨g, o, none⟩) 2 c') (.int .i64 (Ty.op (.mk op 0 [] [x, y]))) (.int .i64 (Ty.n (.mk op 0 [] [x, y]))) (.string (Ty.name (.mk op 0 [] [x, y]))) (.slice (some ⟨g1, 0, none⟩) (ds.length + 1) cap1) [rx] (w5.setCell ⟨w.heap.size + 2, 3, none⟩ (.slice (some ⟨g1, 0, none⟩) (ds.length + 1) cap1))) := Lib.hid HSN.out.2))
            obtain ⟨u0, hu0⟩ : ∃ u', u' = w5.setCell ⟨w.heap.size + 2, 3, none⟩ (.slice (some ⟨g1, 0, none⟩) (ds.length + 1) cap1) := ⟨_, rfl⟩
            have HRb0 := HFIN
            clear HFIN HSN z0 z1 z2 z3 f3 HOWN HALL HTC HNEW HRN HSZ HSZ2
            rw [← hu0] at HRb0 ⊢
            clear hu0 t0 t1 t2 t3 p0 p1 p2 p3 HRZ HBG HSX HOW HSL HR80 HNB HBZ
            have HC600 : Hid (c + 1 + nodes rx ≤ 600) := Lib.hid (by have := HF0.out; unfold fit at this; have := of_decide_eq_true this; omega)
            rw [rounds_succ]
            have HBI1 : Hid (Below w0.heap.size w0 u0) := Lib.hid (HRb0.out.exC.old HB0.out hP)
            obtain ⟨q0, q1, q2, q3⟩ := HRb0.out.boxC.cells
            have x0 := keeps HBI1.out _ _ Y0.out
            have x1 := keeps HBI1.out _ _ Y1.out
            have x2 := keeps HBI1.out _ _ Y2.out
            have x3 := keeps HBI1.out _ _ Y3.out
            go_upto_region 10 with fail
            obtain ⟨D1, hD1⟩ : ∃ D, D = u0.heap.size := ⟨_, rfl⟩
            obtain ⟨U1, hU1⟩ : ∃ U, U = u0.alloc (Obj.cells #[.int .i64 y.op, .int .i64 y.n, .string y.name, .slice yb y.args.length yc] 24) := ⟨_, rfl⟩
            have ht13 : B4 U1 D1 (.int .i64 y.op) (.int .i64 y.n) (.string y.name) (.slice yb y.args.length yc) := by rw [hU1, hD1]; exact heap_alloc_new _ _
            have hb9 : Below u0.heap.size u0 U1 := by rw [hU1]; exact (Below.refl _ _).alloc (Nat.le_refl _) _
            rw [← hU1, ← hD1]
            clear hU1 hD1 HBI1
            obtain ⟨t0, t1, t2, t3⟩ := ht13.cells
            have HR1 := Lib.hid (HRb0.out.next hb9)
            have HCR1 := Lib.hid ((HCY.out U1 HD40.out.1 (HC600.out) (HR1.out.exC.old HB0.out hP) (HR1.out.cntC HPB.out)).mono fun e w' h => rslq h)
            clear hb9 ht13 x0 x1 x2 x3 q0 q1 q2 q3
            go_wp2_with fail
            refine HCR1.out.mono ?_
            rintro e V1 ⟨i0, i1, s2, bb1, l, cc1, ok, rfl, hq⟩
            have HQ1 := Lib.hid hq
            clear hq t0 t1 t2 t3 HCR1
            cases ok with
            | false =>
              have HX := Lib.hid HQ1.out.1
              have HF := Lib.hid HQ1.out.2.1
              have HRES := Lib.hid (HR1.out.resC.ex HX.out (by omega))
              have HXW := Lib.hid (HR1.out.exC.trans HX.out)
              clear HQ1
              go_upto_region 11 with fail
              obtain ⟨Z1, hZ1⟩ : ∃ Z, Z = V1.alloc (Obj.cells #[.int .i64 i0, .int .i64 i1, .string s2, .slice bb1 l cc1] 24) := ⟨_, rfl⟩
              have hbz : Below V1.heap.size V1 Z1 := by rw [hZ1]; exact (Below.refl _ _).alloc (Nat.le_refl _) _
              rw [← hZ1]
              clear hZ1
              have HRS := Lib.hid (HRES.out.next hbz)
              have HXZ := Lib.hid (HXW.out.trans (Ex.of_below hbz))
              obtain ⟨z0, z1, z2, z3⟩ := HRS.out.cells
              have g0 := HRS.out.frozen 0
              have g1 := HRS.out.frozen 1
              have g2 := HRS.out.frozen 2
              have g3 := HRS.out.frozen 3
              clear hbz
              go_wp2_with fail
              refine bodyPost_ret (results_two (a := 8) (b := 9) (by kernel_rfl) (B := w.heap.size + 1) (by rfl) (by rfl) (put4_cells HRS.out _ _ _ _).cells.1 (put4_cells HRS.out _ _ _ _).cells.2.1 (put4_cells HRS.out _ _ _ _).cells.2.2.1 (put4_cells HRS.out _ _ _ _).cells.2.2.2) rfl ?_
              exact ⟨ex_putP HXZ.out _ _ _ _, .inr ⟨by rw [HFE.out, HF.out]; simp, rfl⟩⟩
            | true =>
            obtain ⟨HX1, HF1, HG1⟩ : Hid (Ex (fun x => x = P) U1 V1) ∧ Hid (fit ry (d + 1) (c + 1 + nodes rx) = true) ∧ Hid (VO (U1.heap.size ≤ ·) V1 ry (.agg #[.int .i64 i0, .int .i64 i1, .string s2, .slice bb1 l cc1]) ∧ PBox V1 P (c + 1 + nodes rx + nodes ry)) := by
              obtain ⟨h1, h2, h3⟩ := HQ1.out
              exact ⟨Lib.hid h1, Lib.hid h2, Lib.hid (h3 rfl)⟩
            clear HQ1
            obtain ⟨b1', c1', hev, _, _⟩ := id HG1.out.1
            obtain ⟨e0, e1, e2, e3⟩ := agg4_inj hev
            injection e0 with _ e0
            injection e1 with _ e1
            injection e2 with e2
            injection e3 with e3 e4 e5
            subst e0 e1 e2 e3 e4 e5
            clear hev
            have HR81 := Lib.hid (HR1.out.cnt HPB.out HX1.out HG1.out.2)
            have HBG := Lib.hid HR1.out.bigC
            have HSX := Lib.hid HX1.out.size
            have HOW := Lib.hid HR1.out.ownC
            have HSL := Lib.hid (vo_parts HG1.out.1)
            clear HG1 HX1 HR1
            go_upto_region 11 with fail
            obtain ⟨Z1, hZ1⟩ : ∃ Z, Z = V1.alloc (Obj.cells #[.int .i64 ry.op, .int .i64 ry.n, .string ry.name, .slice bb1 ry.args.length cc1] 24) := ⟨_, rfl⟩
            have HNB : Hid (B4 Z1 V1.heap.size (.int .i64 ry.op) (.int .i64 ry.n) (.string ry.name) (.slice bb1 ry.args.length cc1)) := Lib.hid (by rw [hZ1]; exact heap_alloc_new _ _)
            have HBZ : Hid (Below V1.heap.size V1 Z1) := Lib.hid (by rw [hZ1]; exact (Below.refl _ _).alloc (Nat.le_refl _) _)
            rw [← hZ1]
            clear hZ1
            have HRZ := Lib.hid (HR81.out.next HBZ.out)
            obtain ⟨t0, t1, t2, t3⟩ := HNB.out.cells
            obtain ⟨p0, p1, p2, p3⟩ := HRZ.out.outC.cells
            go_upto_region 13 with fail
            have hnew : Below Z1.heap.size Z1 (Z1.alloc (Obj.cells #[.int .i64 ry.op, .int .i64 ry.n, .string ry.name, .slice bb1 ry.args.length cc1] 24)) := (Below.refl _ _).alloc (Nat.le_refl _) _
            have hnew2 := hnew.mono HBZ.out.size
            have HTC := Lib.hid (own_new (w := Z1.alloc (Obj.cells #[.int .i64 ry.op, .int .i64 ry.n, .string ry.name, .slice bb1 ry.args.length cc1] 24)) (c9 := cc1) HOW.out HBG.out HSL.out.1 HSL.out.2 (fun p v _ hc => keeps hnew _ _ (keeps HBZ.out _ _ hc)))
            have HNEW := Lib.hid (heap_alloc_new Z1 (Obj.cells #[.int .i64 ry.op, .int .i64 ry.n, .string ry.name, .slice bb1 ry.args.length cc1] 24))
            have HRN := Lib.hid (HRZ.out.next hnew)
            obtain ⟨ds, hdl, hown, hall⟩ := own_nodes HRN.out.ownC
            have HDL : Hid (ds.length = 1) := Lib.hid hdl
            have HOWN := Lib.hid hown
            have HALL := Lib.hid hall
            have HSZ : Hid (w.heap.size + 3 ≤ (Z1.alloc (Obj.cells #[.int .i64 ry.op, .int .i64 ry.n, .string ry.name, .slice bb1 ry.args.length cc1] 24)).heap.size) := Lib.hid HRN.out.bigC
            have HSZ2 : Hid (w.heap.size + 3 ≤ Z1.heap.size) := Lib.hid HRZ.out.bigC
            clear hnew hnew2 hdl hown hall
            go_wp2_with (at_builtin; go_loud (refine wpList_append_lies _ rfl (.tmp 73) (.tmp 75) 22 rfl (w.heap.size + 3) 24 i0 _ 4 56 Try.underlying22 HI0.out HZ0.out HZ1.out HZ2.out rfl (by omega) _ ds.length (TC.all ds) rfl HOWN.out ⟨Z1.heap.size, 0, none⟩ 1 1 (TC.enc ⟨ry.op, ry.n, ry.name, bb1, ry.args.length, cc1⟩) rfl rfl (World.news_of_block HNEW.out) (TC.enc_one _) (by omega) (by unfold maxLen; have := HDL.out; omega) (by have := HDL.out; omega) (by have := HSZ.out; have := HSZ2.out; omega) _ rfl ?_; intro g1 cap1 w5 hown5 hgr5 hlie5 _; have HSN := Lib.hid (HRN.out.snocC HOWN.out HALL.out HTC.out hown5 hgr5 hlie5); clear hown5 hgr5 hlie5; obtain ⟨z0, z1, z2, z3⟩ := HSN.out.1.cells; have f3 := HSN.out.1.frozen 3; have HFIN : Hid (RS (wcn w P (c + 1 + nodes rx + nodes ry)) (.int .i64 (Ty.op (.mk op 0 [] [x, y]))) (.int .i64 (Ty.n (.mk op 0 [] [x, y]))) (.string (Ty.name (.mk op 0 [] [x, y]))) (.slice (some ⟨g, o, none⟩) 2 c') (.int .i64 (Ty.op (.mk op 0 [] [x, y]))) (.int .i64 (Ty.n (.mk op 0 [] [x, y]))) (.string (Ty.name (.mk op 0 [] [x, y]))) (.slice (some ⟨g1, 0, none⟩) (ds.length + 1) cap1) [rx, ry] (w5.setCell ⟨w.heap.size + 2, 3, none⟩ (.slice (some ⟨g1, 0, none⟩) (ds.length + 1) cap1))) := Lib.hid HSN.out.2))
            obtain ⟨u1, hu1⟩ : ∃ u', u' = w5.setCell ⟨w.heap.size + 2, 3, none⟩ (.slice (some ⟨g1, 0, none⟩) (ds.length + 1) cap1) := ⟨_, rfl⟩
            have HRb1 := HFIN
            clear HFIN HSN z0 z1 z2 z3 f3 HOWN HALL HTC HNEW HRN HSZ HSZ2
            rw [← hu1] at HRb1 ⊢
            clear hu1 t0 t1 t2 t3 p0 p1 p2 p3 HRZ HBG HSX HOW HSL HR81 HNB HBZ
            rw [rounds_succ]
            obtain ⟨p0, p1, p2, p3⟩ := HRb1.out.outC.cells
            have HRR := Lib.hid HRb1.out.resC
            obtain ⟨z0, z1, z2, z3⟩ := HRR.out.cells
            have g0 := HRR.out.frozen 0
            have g1 := HRR.out.frozen 1
            have g2 := HRR.out.frozen 2
            have g3 := HRR.out.frozen 3
            go_wp2_with fail
            refine bodyPost_ret (results_two (a := 8) (b := 9) (by kernel_rfl) (B := w.heap.size + 1) (by rfl) (by rfl) (put4_cells HRR.out _ _ _ _).cells.1 (put4_cells HRR.out _ _ _ _).cells.2.1 (put4_cells HRR.out _ _ _ _).cells.2.2.1 (put4_cells HRR.out _ _ _ _).cells.2.2.2) rfl ?_
            obtain ⟨bb, cap9, hov, hfin⟩ := rs_end HRb1.out HPB.out (HRb1.out.cntC HPB.out) HNS.out (by show 2 ≤ 1000000; omega)
            obtain ⟨e1, e2, e3⟩ := hfin (.int .i64 op) (.int .i64 0) (.string ⟨#[]⟩) (.slice bb 2 cap9)
            simp only [hov]
            refine ⟨e1, .inl ⟨?_, _, rfl, e3, ?_⟩⟩
            · have e8 := HD40.out
              rw [HFE.out, HF0.out, HF1.out, decide_eq_true (show c + 1 ≤ 600 ∧ d ≤ 40 from ⟨e8.2, e8.1⟩)]
              rfl
            · rw [HNN.out, show c + (1 + nodes rx + nodes ry) = c + 1 + nodes rx + nodes ry from by omega]
              exact e2
theorem rres_any (hM : OkM M) (hms : Ms w0 base M) : ∀ (k : Nat) (r : Ty), nodes r ≤ k → ∀ t, Rs M t r → Inr M t → RslC M base cap w0 t r := by
  intro k
  induction k with
  | zero => intro r hr; have := nodes_pos r; omega
  | succ k ih =>
    intro r hr t hrs hin
    obtain ⟨n, u, h1, h2, h3, h4⟩ := hrs.chain hM hin
    refine rres_head hM hms h1 hin h2 ?_
    cases h3 with
    | stay _ => exact .inl ⟨rfl, rfl⟩
    | put hs _ => exact absurd hs (h2 rfl _)
    | @node op x y rx ry hx hy =>
      rw [nodes_node] at hr
      have p1 := nodes_pos rx
      have p2 := nodes_pos ry
      cases h4 with
      | node _ _ _ _ hix hiy => exact .inr ⟨op, x, y, rx, ry, rfl, rfl, ih rx (by omega) x hx hix, ih ry (by omega) y hy hiy⟩
end

end Ty
end Go.Proofs.Ytkedhnahgpmkaaa

/- What the reference's Resolve returns. Conditions: the values of solved metavariables are proper; there is a resolved type. -/
namespace Go.Proofs.Ytkedhnahgpmkaaa
open Go.RowKit

namespace Ty
set_option maxHeartbeats 8000000 in
set_option maxRecDepth 100000 in
theorem rrestop_any (M : List MC) (hM : OkM M) (t r : Ty) (hrs : Rs M t r) (hin : Inr M t) (hgr : Good r) (base : Option Addr) (cap : Nat) (v : Value) (w : World) (hms : Ms w base M) (hv : V w t v) : Calls Try.prog 48 #[.slice base M.length cap, v] w (ResdP M t w) := by
  have hc := rres_any (cap := cap) (w0 := w) hM hms (nodes r) r (Nat.le_refl _) t hrs hin
  have HC := Lib.hid (fun W (hb : Below w.heap.size w W) P (hP : w.heap.size ≤ P) (hp : PBox W P 0) => hc v 1 0 P W hv hb hP hp (by omega) (by omega))
  clear hc
  have HFR := Lib.hid (proper_fit hgr)
  have HRS := Lib.hid hrs
  have HGR := Lib.hid hgr
  obtain ⟨b, c, ev, _, _⟩ := hv
  subst ev
  clear hms hin hrs hgr
  generalize M.length = n at *
  go_enter Try.func48, Try.ntmps48
  obtain ⟨ht1, ht2⟩ := two_boxes w (.int .i64 t.op) (.int .i64 t.n) (.string t.name) (.slice b t.args.length c) (.int .i64 0) (.int .i64 0) (.string ⟨#[]⟩) (.slice none 0 0)
  have hbb := below_two w (Obj.cells #[.int .i64 t.op, .int .i64 t.n, .string t.name, .slice b t.args.length c] 24) (Obj.cells #[.int .i64 0, .int .i64 0, .string ⟨#[]⟩, .slice none 0 0] 24)
  go_upto_region 2 with fail
  obtain ⟨W2, hW2⟩ : ∃ W2, W2 = (w.alloc (Obj.cells #[.int .i64 t.op, .int .i64 t.n, .string t.name, .slice b t.args.length c] 24)).alloc (Obj.cells #[.int .i64 0, .int .i64 0, .string ⟨#[]⟩, .slice none 0 0] 24) := ⟨_, rfl⟩
  have hz2 : W2.heap.size = w.heap.size + 2 := by rw [hW2]; simp
  rw [← hW2] at ht1 ht2 hbb ⊢
  clear hW2
  obtain ⟨W3, hW3⟩ : ∃ W3, W3 = W2.alloc (Obj.cells #[.int .i64 0] 3) := ⟨_, rfl⟩
  have hb3 : Below W2.heap.size W2 W3 := by rw [hW3]; exact (Below.refl _ _).alloc (Nat.le_refl _) _
  have HPB : Hid (PBox W3 (w.heap.size + 2) 0) := Lib.hid (by rw [hW3, ← hz2]; exact heap_alloc_new _ _)
  rw [← hW3]
  clear hW3
  have HT := Lib.hid (ht1.next hb3)
  have HR := Lib.hid (ht2.next hb3)
  have HB := Lib.hid (hbb.trans (hb3.mono hbb.size))
  clear ht1 ht2 hbb hb3 hz2
  obtain ⟨c0, c1, c2, c3⟩ := HT.out.cells
  have HC2 := Lib.hid (HC.out W3 HB.out (w.heap.size + 1 + 1) (by omega) HPB.out)
  clear HC
  go_wp2_with fail
  refine HC2.out.mono ?_
  rintro e W4 ⟨hex, (⟨hfit, v, rfl, ⟨b9, c9, rfl, hs9, hl9⟩, hpb⟩ | ⟨hfit, rfl⟩)⟩
  · have HV9 : Hid (VO (W3.heap.size ≤ ·) W4 r _) := Lib.hid ⟨b9, c9, rfl, hs9, hl9⟩
    have HRR := Lib.hid (HR.out.ex hex (by omega))
    have HPV : Hid (isProper r = true) := Lib.hid (HFR.out.trans hfit)
    have HBB : Hid (Below w.heap.size w W4) := Lib.hid (hex.old HB.out (by omega))
    have HS3 : Hid (w.heap.size + 3 ≤ W3.heap.size) := Lib.hid (lt_of_block HPB.out)
    clear hex hfit hpb hs9 hl9 c0 c1 c2 c3 HC2 HT HR
    go_upto_region 3 with fail
    obtain ⟨Z, hZ⟩ : ∃ Z, Z = W4.alloc (Obj.cells #[.int .i64 r.op, .int .i64 r.n, .string r.name, .slice b9 r.args.length c9] 24) := ⟨_, rfl⟩
    have hbz : Below W4.heap.size W4 Z := by rw [hZ]; exact (Below.refl _ _).alloc (Nat.le_refl _) _
    have HN : Hid (B4 Z W4.heap.size (.int .i64 r.op) (.int .i64 r.n) (.string r.name) (.slice b9 r.args.length c9)) := Lib.hid (by rw [hZ]; exact heap_alloc_new _ _)
    rw [← hZ]
    clear hZ
    have HR4 := Lib.hid (HRR.out.next hbz)
    have HB4 := Lib.hid (HBB.out.trans (hbz.mono HBB.out.size))
    have HV4 : Hid (VO (W3.heap.size ≤ ·) Z r _) := Lib.hid (HV9.out.keep (fun _ h => h) (fun p v _ hc => keeps hbz _ _ hc))
    clear hbz HRR HBB HV9
    obtain ⟨d0, d1, d2, d3⟩ := HN.out.cells
    obtain ⟨z0, z1, z2, z3⟩ := HR4.out.cells
    have f0 := HR4.out.frozen 0
    have f1 := HR4.out.frozen 1
    have f2 := HR4.out.frozen 2
    have f3 := HR4.out.frozen 3
    go_wp2_with fail
    refine bodyPost_ret (results_two (a := 4) (b := 5) (by kernel_rfl) (B := w.heap.size + 1) (by rfl) (by rfl) (put4_cells HR4.out _ _ _ _).cells.1 (put4_cells HR4.out _ _ _ _).cells.2.1 (put4_cells HR4.out _ _ _ _).cells.2.2.1 (put4_cells HR4.out _ _ _ _).cells.2.2.2) rfl ?_
    have hz3 := HS3.out
    exact ⟨r, HRS.out, HGR.out, ⟨_, by rw [fullV_ok HPV.out]; rfl, fun _ => HV4.out.keep (fun g hg => by show w.heap.size ≤ g; have : W3.heap.size ≤ g := hg; omega) (fun p v hp hc => put4_keep _ _ _ _ p v hc (by have : W3.heap.size ≤ p.block := hp; omega))⟩, below_put4 HB4.out (by omega) _ _ _ _⟩
  · have HRR := Lib.hid (HR.out.ex hex (by omega))
    have HPV : Hid (isProper r = false) := Lib.hid (HFR.out.trans hfit)
    have HBB : Hid (Below w.heap.size w W4) := Lib.hid (hex.old HB.out (by omega))
    clear hex hfit c0 c1 c2 c3 HC2 HT HR
    unfold zeroV
    go_upto_region 3 with fail
    obtain ⟨Z, hZ⟩ : ∃ Z, Z = W4.alloc (Obj.cells #[.int .i64 0, .int .i64 0, .string ⟨#[]⟩, .slice none 0 0] 24) := ⟨_, rfl⟩
    have hbz : Below W4.heap.size W4 Z := by rw [hZ]; exact (Below.refl _ _).alloc (Nat.le_refl _) _
    rw [← hZ]
    clear hZ
    have HR4 := Lib.hid (HRR.out.next hbz)
    have HB4 := Lib.hid (HBB.out.trans (hbz.mono HBB.out.size))
    clear hbz HRR HBB
    obtain ⟨z0, z1, z2, z3⟩ := HR4.out.cells
    have f0 := HR4.out.frozen 0
    have f1 := HR4.out.frozen 1
    have f2 := HR4.out.frozen 2
    have f3 := HR4.out.frozen 3
    go_wp2_with fail
    refine bodyPost_ret (results_two (a := 4) (b := 5) (by kernel_rfl) (B := w.heap.size + 1) (by rfl) (by rfl) (put4_cells HR4.out _ _ _ _).cells.1 (put4_cells HR4.out _ _ _ _).cells.2.1 (put4_cells HR4.out _ _ _ _).cells.2.2.1 (put4_cells HR4.out _ _ _ _).cells.2.2.2) rfl ?_
    exact ⟨r, HRS.out, HGR.out, ⟨zeroV, by rw [fullV_bad HPV.out]; rfl, fun h => by rw [HPV.out] at h; cases h⟩, below_put4 HB4.out (by omega) _ _ _ _⟩
end Ty
end Go.Proofs.Ytkedhnahgpmkaaa
