/- What stands in memory while a type is built anew. Conditions: none. -/
import Derived.Test.YtkedhnahgpmkaaaTyType
namespace Go.Proofs.Ytkedhnahgpmkaaa
open Go.RowKit

namespace Ty
/-- what is left behind a call that builds a type anew -/
def RebP {σ : Type} (r : Ty × σ) (I : World → σ → Prop) (m : Option Nat) (w : World) (e : Ending) (w' : World) : Prop :=
  ∃ v, e = .returned v ∧ VO (w.heap.size ≤ ·) w' r.1 v ∧ w.grownBy w' m ∧ I w' r.2
/-- what a closure does with a leaf -/
def Leafs {σ : Type} (cid : Nat) (caps : Array Value) (f : Ty → Nat → σ → Ty × σ) (I : World → σ → Prop) (m : Option Nat) (w0 : World) (base : Nat) : Prop :=
  ∀ (W : World) (op n : Int) (s : List UInt8) (k : Nat) (st : σ), Good (.mk op n s []) → I W st → base ≤ W.heap.size → Below w0.heap.size w0 W → k ≤ 1000000 →
    Calls Try.prog cid (#[.agg #[.int .i64 op, .int .i64 n, .string ⟨s.toArray⟩, .slice none 0 0], .int .i64 k] ++ caps) W (RebP (f (.mk op n s []) k st) I m W)

def RebC {σ : Type} (fv : Value) (f : Ty → Nat → σ → Ty × σ) (I : World → σ → Prop) (m : Option Nat) (w0 : World) (base : Nat) (t : Ty) : Prop :=
  ∀ (v : Value) (k : Nat) (st : σ) (w : World), V w0 t v → Below w0.heap.size w0 w → base ≤ w.heap.size → I w st → k + nodes t ≤ 1000000 → Calls Try.prog 104 #[v, .int .i64 k, fv] w (RebP (reb f t k st) I m w)

theorem grown_of_below {a b : World} {m : Option Nat} (h : Below a.heap.size a b) : a.grownBy b m := ⟨h.os, h.tape, h.output, h.size, fun j hj _ => h.block j hj⟩
theorem grown_trans' {a b c : World} {m : Option Nat} (h : a.grownBy b m) (k : b.grownBy c m) : a.grownBy c m :=
  ⟨k.os.trans h.os, k.tape.trans h.tape, k.output.trans h.output, Nat.le_trans h.size k.size, fun j hj hne => (k.block j (Nat.lt_of_lt_of_le hj h.size) hne).trans (h.block j hj hne)⟩
theorem grown_put4 {a b : World} {m : Option Nat} {B : Nat} (h : a.grownBy b m) (hB : a.heap.size ≤ B) (v0 v1 v2 v3 : Value) : a.grownBy (put4 b B v0 v1 v2 v3) m := by
  have h2 : Below a.heap.size b (put4 b B v0 v1 v2 v3) := ((((Below.refl _ _).setCell hB _).setCell hB _).setCell hB _).setCell hB _
  exact ⟨h2.os.trans h.os, h2.tape.trans h.tape, h2.output.trans h.output, Nat.le_trans h.size h2.size, fun j hj hne => (h2.block j hj).trans (h.block j hj hne)⟩
theorem grown_below' {w0 a b : World} {m : Option Nat} (h : Below w0.heap.size w0 a) (k : a.grownBy b m) (hm : ∀ j, m = some j → w0.heap.size ≤ j) : Below w0.heap.size w0 b :=
  h.grown k h.size hm
theorem grown_block {a b : World} {m : Option Nat} {base B : Nat} {o : Obj} (k : a.grownBy b m) (hm : ∀ j, m = some j → j < base) (hB : base ≤ B) (h : a.heap[B]? = some o) : b.heap[B]? = some o := by
  rw [k.block B (by have := (Array.getElem?_eq_some_iff.1 h).1; exact this) (fun e => by have := hm B e.symm; omega)]
  exact h
theorem below_put4' {w : World} {base B : Nat} (hB : base ≤ B) (v0 v1 v2 v3 : Value) : Below base w (put4 w B v0 v1 v2 v3) :=
  ((((Below.refl _ _).setCell hB _).setCell hB _).setCell hB _).setCell hB _

theorem B4.nextm {a b : World} {m : Option Nat} {B lim : Nat} {v0 v1 v2 v3 : Value} (h : B4 a B v0 v1 v2 v3) (k : a.grownBy b m) (hm : ∀ j, m = some j → j < lim) (hB : lim ≤ B) : B4 b B v0 v1 v2 v3 := grown_block k hm hB h

/-- the blocks in which the parts of what is built may stand -/
def okB (w : World) (G H : Nat) (b : Nat) : Prop := w.heap.size + 2 ≤ b ∧ b ≠ G ∧ b ≠ H
/-- the world in which a node is built anew: the node's box, the result's, the new node's, and its row -/
structure NS {σ : Type} (I : World → σ → Prop) (m : Option Nat) (w0 w : World) (base : Nat) (op : Int) (a : Value) (G H : Nat) (st : σ) (r0 r1 r2 r3 r4 r5 r6 r7 : Value) (W : World) : Prop where
  grown : w.grownBy W m
  old : Below w0.heap.size w0 W
  inv : I W st
  box : B4 W w.heap.size (.int .i64 op) (.int .i64 0) (.string ⟨#[]⟩) a
  res : B4 W (w.heap.size + 1) (.int .i64 0) (.int .i64 0) (.string ⟨#[]⟩) (.slice none 0 0)
  made : B4 W H (.int .i64 op) (.int .i64 0) (.string ⟨#[]⟩) (.slice (some ⟨G, 0, none⟩) 2 2)
  row : W.heap[G]? = some (Obj.cells #[r0, r1, r2, r3, r4, r5, r6, r7] 24)
  hG : w.heap.size + 2 ≤ G
  hH : w.heap.size + 2 ≤ H
  ne : G ≠ H
section
variable {σ : Type} {I : World → σ → Prop} {m : Option Nat} {w0 w : World} {base : Nat} {op : Int} {a : Value} {G H : Nat} {st st' : σ} {r0 r1 r2 r3 r4 r5 r6 r7 : Value} {W W' : World}
theorem NS.nextm (h : NS I m w0 w base op a G H st r0 r1 r2 r3 r4 r5 r6 r7 W) (hm : ∀ j, m = some j → w0.heap.size ≤ j ∧ j < base) (hw : base ≤ w.heap.size) (hg : W.grownBy W' m) (hi : I W' st') : NS I m w0 w base op a G H st' r0 r1 r2 r3 r4 r5 r6 r7 W' :=
  have hlim : ∀ j, m = some j → j < w.heap.size := fun j hj => Nat.lt_of_lt_of_le (hm j hj).2 hw
  ⟨grown_trans' h.grown hg, grown_below' h.old hg (fun j hj => (hm j hj).1), hi, h.box.nextm hg hlim (Nat.le_refl _), h.res.nextm hg hlim (by omega), h.made.nextm hg hlim (by have := h.hH; omega), grown_block hg hlim (by have := h.hG; omega) h.row, h.hG, h.hH, h.ne⟩
theorem NS.next (h : NS I m w0 w base op a G H st r0 r1 r2 r3 r4 r5 r6 r7 W) (hm : ∀ j, m = some j → w0.heap.size ≤ j ∧ j < base) (hw : base ≤ w.heap.size) (hI : ∀ W W' st, I W st → Below base W W' → I W' st) (hb : Below W.heap.size W W') : NS I m w0 w base op a G H st r0 r1 r2 r3 r4 r5 r6 r7 W' :=
  h.nextm hm hw (grown_of_below hb) (hI _ _ _ h.inv (hb.mono (Nat.le_trans hw h.grown.size)))
theorem drew_below (W : World) : Below W.heap.size W W.drew := (Below.refl _ _).drew
theorem NS.newA (W : World) (hw : base ≤ w.heap.size) (hI : ∀ W W' st, I W st → Below base W W' → I W' st) (hb : Below w0.heap.size w0 w) (hbW : Below w.heap.size w W) (hi : I w st) (hsz : W.heap.size = w.heap.size + 2)
    (hbox : B4 W w.heap.size (.int .i64 op) (.int .i64 0) (.string ⟨#[]⟩) a) (hres : B4 W (w.heap.size + 1) (.int .i64 0) (.int .i64 0) (.string ⟨#[]⟩) (.slice none 0 0)) :
    NS I m w0 w base op a W.heap.size (W.heap.size + 1) st r0 r1 r2 r3 r4 r5 r6 r7 ((W.alloc (Obj.cells #[r0, r1, r2, r3, r4, r5, r6, r7] 24)).alloc (Obj.cells #[.int .i64 op, .int .i64 0, .string ⟨#[]⟩, .slice (some ⟨W.heap.size, 0, none⟩) 2 2] 24)).drew := by
  have e1 : (W.alloc (Obj.cells #[r0, r1, r2, r3, r4, r5, r6, r7] 24)).heap.size = W.heap.size + 1 := by simp
  have h2 := (below_two W (Obj.cells #[r0, r1, r2, r3, r4, r5, r6, r7] 24) (Obj.cells #[.int .i64 op, .int .i64 0, .string ⟨#[]⟩, .slice (some ⟨W.heap.size, 0, none⟩) 2 2] 24)).drew
  have hall := hbW.trans (h2.mono hbW.size)
  refine ⟨grown_of_below hall, hb.trans (hall.mono hb.size), hI _ _ _ hi (hall.mono hw), hbox.next h2, hres.next h2, ?_, ?_, by omega, by omega, by omega⟩
  · have := heap_alloc_new (W.alloc (Obj.cells #[r0, r1, r2, r3, r4, r5, r6, r7] 24)) (Obj.cells #[.int .i64 op, .int .i64 0, .string ⟨#[]⟩, .slice (some ⟨W.heap.size, 0, none⟩) 2 2] 24)
    rw [e1] at this
    exact this
  · exact (Below.heap_alloc _ _ _ (by rw [e1]; omega)).trans (heap_alloc_new W _)
theorem NS.newB (W : World) (hw : base ≤ w.heap.size) (hI : ∀ W W' st, I W st → Below base W W' → I W' st) (hb : Below w0.heap.size w0 w) (hbW : Below w.heap.size w W) (hi : I w st) (hsz : W.heap.size = w.heap.size + 2)
    (hbox : B4 W w.heap.size (.int .i64 op) (.int .i64 0) (.string ⟨#[]⟩) a) (hres : B4 W (w.heap.size + 1) (.int .i64 0) (.int .i64 0) (.string ⟨#[]⟩) (.slice none 0 0)) :
    NS I m w0 w base op a (W.heap.size + 1) W.heap.size st r0 r1 r2 r3 r4 r5 r6 r7 ((W.alloc (Obj.cells #[.int .i64 op, .int .i64 0, .string ⟨#[]⟩, .slice (some ⟨W.heap.size + 1, 0, none⟩) 2 2] 24)).alloc (Obj.cells #[r0, r1, r2, r3, r4, r5, r6, r7] 24)).drew := by
  have e1 : (W.alloc (Obj.cells #[.int .i64 op, .int .i64 0, .string ⟨#[]⟩, .slice (some ⟨W.heap.size + 1, 0, none⟩) 2 2] 24)).heap.size = W.heap.size + 1 := by simp
  have h2 := (below_two W (Obj.cells #[.int .i64 op, .int .i64 0, .string ⟨#[]⟩, .slice (some ⟨W.heap.size + 1, 0, none⟩) 2 2] 24) (Obj.cells #[r0, r1, r2, r3, r4, r5, r6, r7] 24)).drew
  have hall := hbW.trans (h2.mono hbW.size)
  refine ⟨grown_of_below hall, hb.trans (hall.mono hb.size), hI _ _ _ hi (hall.mono hw), hbox.next h2, hres.next h2, ?_, ?_, by omega, by omega, by omega⟩
  · exact (Below.heap_alloc _ _ _ (by rw [e1]; omega)).trans (heap_alloc_new W _)
  · have := heap_alloc_new (W.alloc (Obj.cells #[.int .i64 op, .int .i64 0, .string ⟨#[]⟩, .slice (some ⟨W.heap.size + 1, 0, none⟩) 2 2] 24)) (Obj.cells #[r0, r1, r2, r3, r4, r5, r6, r7] 24)
    rw [e1] at this
    exact this
/-- four cells written at a place -/
def put4At (w : World) (B o : Nat) (v0 v1 v2 v3 : Value) : World := (((w.setCell ⟨B, o, none⟩ v0).setCell ⟨B, o + 1, none⟩ v1).setCell ⟨B, o + 2, none⟩ v2).setCell ⟨B, o + 3, none⟩ v3
theorem below_put4At {w : World} {base B o : Nat} (hB : base ≤ B) (v0 v1 v2 v3 : Value) : Below base w (put4At w B o v0 v1 v2 v3) :=
  ((((Below.refl _ _).setCell hB _).setCell hB _).setCell hB _).setCell hB _
theorem put4At_other {W : World} {B C o : Nat} (h : C ≠ B) (v0 v1 v2 v3 : Value) : (put4At W B o v0 v1 v2 v3).heap[C]? = W.heap[C]? := by
  unfold put4At
  simp [World.setCell, Array.getElem?_modify, h.symm]
theorem put4At_keep {W : World} {B o : Nat} (v0 v1 v2 v3 : Value) (p : Addr) (v : Value) (h : W.cell? p = some v) (hp : p.block ≠ B) : (put4At W B o v0 v1 v2 v3).cell? p = some v :=
  (World.cell?_of_block (put4At_other hp v0 v1 v2 v3)).trans h
theorem NS.put (h : NS I m w0 w base op a G H st r0 r1 r2 r3 r4 r5 r6 r7 W) (hw : base ≤ w.heap.size) (h0 : w0.heap.size ≤ base) (hI : ∀ W W' st, I W st → Below base W W' → I W' st) (v0 v1 v2 v3 : Value) {o : Nat} {s0 s1 s2 s3 s4 s5 s6 s7 : Value}
    (hrow : (put4At W G o v0 v1 v2 v3).heap[G]? = some (Obj.cells #[s0, s1, s2, s3, s4, s5, s6, s7] 24)) : NS I m w0 w base op a G H st s0 s1 s2 s3 s4 s5 s6 s7 (put4At W G o v0 v1 v2 v3) :=
  have hG := h.hG
  have h2 : Below w.heap.size W (put4At W G o v0 v1 v2 v3) := below_put4At (by omega) _ _ _ _
  ⟨⟨h2.os.trans h.grown.os, h2.tape.trans h.grown.tape, h2.output.trans h.grown.output, Nat.le_trans h.grown.size h2.size, fun j hj hne => (h2.block j hj).trans (h.grown.block j hj hne)⟩,
    h.old.trans (h2.mono (by omega)), hI _ _ _ h.inv (h2.mono hw), (put4At_other (by omega) _ _ _ _).trans h.box, (put4At_other (by omega) _ _ _ _).trans h.res, (put4At_other h.ne.symm _ _ _ _).trans h.made, hrow, h.hG, h.hH, h.ne⟩
theorem NS.put0 (h : NS I m w0 w base op a G H st r0 r1 r2 r3 r4 r5 r6 r7 W) (hw : base ≤ w.heap.size) (h0 : w0.heap.size ≤ base) (hI : ∀ W W' st, I W st → Below base W W' → I W' st) (v0 v1 v2 v3 : Value) :
    NS I m w0 w base op a G H st v0 v1 v2 v3 r4 r5 r6 r7 (put4At W G 0 v0 v1 v2 v3) :=
  h.put hw h0 hI v0 v1 v2 v3 (by have := h.row; unfold put4At; simp [World.setCell, Array.getElem?_modify, this])
theorem NS.put4 (h : NS I m w0 w base op a G H st r0 r1 r2 r3 r4 r5 r6 r7 W) (hw : base ≤ w.heap.size) (h0 : w0.heap.size ≤ base) (hI : ∀ W W' st, I W st → Below base W W' → I W' st) (v0 v1 v2 v3 : Value) :
    NS I m w0 w base op a G H st r0 r1 r2 r3 v0 v1 v2 v3 (put4At W G 4 v0 v1 v2 v3) :=
  h.put hw h0 hI v0 v1 v2 v3 (by have := h.row; unfold put4At; simp [World.setCell, Array.getElem?_modify, this])
theorem NS.frozen (h : NS I m w0 w base op a G H st r0 r1 r2 r3 r4 r5 r6 r7 W) (i : Nat) : W.frozen? ⟨G, i, none⟩ = false := by
  unfold World.frozen?
  rw [show W.heap[(⟨G, i, none⟩ : Addr).block]? = _ from h.row]
  simp
theorem NS.rc (h : NS I m w0 w base op a G H st r0 r1 r2 r3 r4 r5 r6 r7 W) : (W.cell? ⟨G, 0, none⟩ = some r0 ∧ W.cell? ⟨G, 1, none⟩ = some r1 ∧ W.cell? ⟨G, 2, none⟩ = some r2 ∧ W.cell? ⟨G, 3, none⟩ = some r3) ∧ (W.cell? ⟨G, 4, none⟩ = some r4 ∧ W.cell? ⟨G, 5, none⟩ = some r5 ∧ W.cell? ⟨G, 6, none⟩ = some r6 ∧ W.cell? ⟨G, 7, none⟩ = some r7) :=
  have c := fun i => cell_of_row W G i _ 24 (0, 0) h.row
  ⟨⟨c 0, c 1, c 2, c 3⟩, c 4, c 5, c 6, c 7⟩
/-- a part that was built stays as it is -/
theorem part_next {t : Ty} {v : Value} (h : VO (okB w G H) W t v) (hm : ∀ j, m = some j → w0.heap.size ≤ j ∧ j < base) (hw : base ≤ w.heap.size) (hg : W.grownBy W' m) : VO (okB w G H) W' t v :=
  h.keep (fun _ h => h) (fun p v hp hc => hg.cell hc (fun e => by have := (hm p.block e.symm).2; have := hp.1; omega))
theorem part_put {t : Ty} {v : Value} {o : Nat} (h : VO (okB w G H) W t v) (v0 v1 v2 v3 : Value) : VO (okB w G H) (put4At W G o v0 v1 v2 v3) t v :=
  h.keep (fun _ h => h) (fun p v hp hc => put4At_keep _ _ _ _ p v hc hp.2.1)
theorem part_new {t : Ty} {v : Value} (h : VO (W.heap.size ≤ ·) W' t v) (hN : NS I m w0 w base op a G H st r0 r1 r2 r3 r4 r5 r6 r7 W) : VO (okB w G H) W' t v :=
  h.keep (fun g hg => by
    have h1 := lt_of_block hN.row
    have h2 := lt_of_block hN.made
    have h3 : W.heap.size ≤ g := hg
    have h4 := hN.hG
    exact ⟨by omega, by omega, by omega⟩) (fun p v _ hc => hc)
end

section
variable {σ : Type} {f : Ty → Nat → σ → Ty × σ} {I : World → σ → Prop} {m : Option Nat} {w0 w : World} {base : Nat} {op : Int} {a : Value} {G H : Nat} {st st' : σ} {r0 r1 r2 r3 r4 r5 r6 r7 : Value} {W W' : World}
theorem call_part {fv : Value} {x : Ty} (hx : RebC fv f I m w0 base x) (hm : ∀ j, m = some j → w0.heap.size ≤ j ∧ j < base) (hw : base ≤ w.heap.size) {v : Value} {k : Nat} (hv : V w0 x v) (hk : k + nodes x ≤ 1000000) (hN : NS I m w0 w base op a G H st r0 r1 r2 r3 r4 r5 r6 r7 W) :
    Calls Try.prog 104 #[v, .int .i64 k, fv] W fun e W' => ∃ v', e = .returned v' ∧ VO (okB w G H) W' (reb f x k st).1 v' ∧ NS I m w0 w base op a G H (reb f x k st).2 r0 r1 r2 r3 r4 r5 r6 r7 W' ∧ W.grownBy W' m :=
  (hx v k st W hv hN.old (Nat.le_trans hw hN.grown.size) hN.inv hk).mono fun _ _ ⟨v', h1, h2, h3, h4⟩ => ⟨v', h1, part_new h2 hN, hN.nextm hm hw h3 h4, h3⟩
theorem vo_parts {ok : Nat → Prop} {t : Ty} {b : Option Addr} {c : Nat} (h : VO ok W t (.agg #[.int .i64 t.op, .int .i64 t.n, .string t.name, .slice b t.args.length c])) : t.s.length ≤ maxLen ∧ SlO ok W b t.args := by
  obtain ⟨b', c', e, h1, h2⟩ := h
  simp only [Value.agg.injEq, Array.mk.injEq, List.cons.injEq, Value.slice.injEq, true_and, and_true] at e
  rw [e.1]
  exact ⟨h1, h2⟩
theorem node_done {rx ry : Ty} {bx b_y : Option Addr} {cx cy : Nat}
    (hN : NS I m w0 w base op a G H st (.int .i64 rx.op) (.int .i64 rx.n) (.string rx.name) (.slice bx rx.args.length cx) (.int .i64 ry.op) (.int .i64 ry.n) (.string ry.name) (.slice b_y ry.args.length cy) W) (hw : base ≤ w.heap.size) (hI : ∀ W W' st, I W st → Below base W W' → I W' st)
    (hx : VO (okB w G H) W rx (.agg #[.int .i64 rx.op, .int .i64 rx.n, .string rx.name, .slice bx rx.args.length cx])) (hy : VO (okB w G H) W ry (.agg #[.int .i64 ry.op, .int .i64 ry.n, .string ry.name, .slice b_y ry.args.length cy])) (v0 v1 v2 v3 : Value) :
    VO (w.heap.size ≤ ·) (put4 W (w.heap.size + 1) v0 v1 v2 v3) (.mk op 0 [] [rx, ry]) (.agg #[.int .i64 op, .int .i64 0, .string ⟨#[]⟩, .slice (some ⟨G, 0, none⟩) 2 2]) ∧ w.grownBy (put4 W (w.heap.size + 1) v0 v1 v2 v3) m ∧ I (put4 W (w.heap.size + 1) v0 v1 v2 v3) st := by
  obtain ⟨hsx, hlx⟩ := vo_parts hx
  obtain ⟨hsy, hly⟩ := vo_parts hy
  have hG := hN.hG
  have hrow : (put4 W (w.heap.size + 1) v0 v1 v2 v3).heap[G]? = _ := (put4_other (by omega) v0 v1 v2 v3).trans hN.row
  have c := fun i => cell_of_row _ G i _ 24 (0, 0) hrow
  have hkeep : ∀ (p : Addr) v, okB w G H p.block → W.cell? p = some v → (put4 W (w.heap.size + 1) v0 v1 v2 v3).cell? p = some v := fun p v hp hc => put4_keep _ _ _ _ p v hc (by have := hp.1; omega)
  have hok : ∀ g, okB w G H g → w.heap.size ≤ g := fun g hg => by have := hg.1; omega
  refine ⟨⟨some ⟨G, 0, none⟩, 2, rfl, Nat.zero_le _, by show 2 ≤ maxLen; unfold maxLen; omega, .inr ⟨G, 0, rfl, by omega, ?_, ?_, trivial⟩⟩, grown_put4 hN.grown (by omega) _ _ _ _, hI _ _ _ hN.inv (below_put4' (by omega) _ _ _ _)⟩
  · exact atO_iff.mpr ⟨c 0, c 1, c 2, hsx, bx, cx, c 3, hlx.keep hok hkeep⟩
  · exact atO_iff.mpr ⟨c 4, c 5, c 6, hsy, b_y, cy, c 7, hly.keep hok hkeep⟩
end

set_option maxHeartbeats 4000000 in
/-- Replace 67: what the walk makes, at no forall -/
theorem rep_of {σ : Type} {f : Ty → Nat → σ → Ty × σ} {I : World → σ → Prop} {m : Option Nat} {w0 : World} {base : Nat} {fv : Value} {t : Ty} (hR : RebC fv f I m w0 base t)
    (hI : ∀ W W' st, I W st → Below base W W' → I W' st) (hm : ∀ j, m = some j → w0.heap.size ≤ j ∧ j < base)
    (v : Value) (st : σ) (w : World) (hv : V w0 t v) (hb : Below w0.heap.size w0 w) (hw : base ≤ w.heap.size) (hi : I w st) (hk : nodes t ≤ 1000000) : Calls Try.prog 67 #[v, fv] w (RebP (reb f t 0 st) I m w) := by
  have hcall := fun (W : World) (hB : Below w.heap.size w W) => hR v 0 st W hv (hb.trans (hB.mono hb.size)) (Nat.le_trans hw hB.size) (hI _ _ _ hi (hB.mono hw)) (by omega)
  rw [show ((0 : Nat) : Int) = 0 from rfl] at hcall
  obtain ⟨r, hr⟩ : ∃ r, r = reb f t 0 st := ⟨_, rfl⟩
  rw [← hr] at hcall ⊢
  clear hr
  obtain ⟨r, s2⟩ := r
  obtain ⟨b, c, ev, _, _⟩ := hv
  subst ev
  obtain ⟨ht1, ht6⟩ := two_boxes w (.int .i64 t.op) (.int .i64 t.n) (.string t.name) (.slice b t.args.length c) (.int .i64 0) (.int .i64 0) (.string ⟨#[]⟩) (.slice none 0 0)
  have hb2 : Below w.heap.size w ((w.alloc (Obj.cells #[.int .i64 t.op, .int .i64 t.n, .string t.name, .slice b t.args.length c] 24)).alloc (Obj.cells #[.int .i64 0, .int .i64 0, .string ⟨#[]⟩, .slice none 0 0] 24)) := below_two w _ _
  have HT6 := Lib.hid ht6
  have HB2 := Lib.hid hb2
  have HC := Lib.hid hcall
  obtain ⟨c0, c1, c2, c3⟩ := ht1.cells
  clear ht1 ht6 hb2 hcall hR
  go_enter Try.func67, Try.ntmps67
  go_wp2_with fail
  obtain ⟨W2, hW2⟩ : ∃ W2, W2 = (w.alloc (Obj.cells #[.int .i64 t.op, .int .i64 t.n, .string t.name, .slice b t.args.length c] 24)).alloc (Obj.cells #[.int .i64 0, .int .i64 0, .string ⟨#[]⟩, .slice none 0 0] 24) := ⟨_, rfl⟩
  rw [← hW2] at HT6 HB2 c0 c1 c2 c3 ⊢
  have HSZ : Hid (W2.heap.size = w.heap.size + 2) := Lib.hid (by rw [hW2]; simp)
  clear hW2
  refine (HC.out W2 HB2.out).mono ?_
  rintro e w2 ⟨v, rfl, ⟨b9, c9, rfl, hs9, hl9⟩, hgr, hi2⟩
  have HV9 : Hid (VO (W2.heap.size ≤ ·) w2 r _) := Lib.hid ⟨b9, c9, rfl, hs9, hl9⟩
  have HT := Lib.hid (HT6.out.nextm hgr (fun j hj => Nat.lt_of_lt_of_le (hm j hj).2 hw) (by omega))
  have HG := Lib.hid (grown_trans' (grown_of_below (m := m) HB2.out) hgr)
  have HI2 := Lib.hid hi2
  clear hs9 hl9 hgr hi2 HT6 c0 c1 c2 c3
  obtain ⟨z0, z1, z2, z3⟩ := HT.out.cells; have f0 := HT.out.frozen 0; have f1 := HT.out.frozen 1; have f2 := HT.out.frozen 2; have f3 := HT.out.frozen 3
  go_wp2_with fail
  refine bodyPost_ret (results_ty (a := 4) (by kernel_rfl) (B := w.heap.size + 1) (by rfl) (put4_cells HT.out _ _ _ _).cells.1 (put4_cells HT.out _ _ _ _).cells.2.1 (put4_cells HT.out _ _ _ _).cells.2.2.1 (put4_cells HT.out _ _ _ _).cells.2.2.2) rfl ?_
  refine ⟨_, rfl, ?_, grown_put4 HG.out (by omega) _ _ _ _, hI _ _ _ HI2.out (below_put4' (by omega) _ _ _ _)⟩
  have hsz := HSZ.out
  exact HV9.out.keep (fun g hg => by show w.heap.size ≤ g; have : W2.heap.size ≤ g := hg; omega) (fun p v hp hc => put4_keep _ _ _ _ p v hc (by have : W2.heap.size ≤ p.block := hp; omega))

end Ty
end Go.Proofs.Ytkedhnahgpmkaaa
