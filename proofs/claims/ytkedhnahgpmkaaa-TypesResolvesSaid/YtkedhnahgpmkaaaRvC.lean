/- Texts of the law TypesResolves, joined. -/
import Derived.Test.YtkedhnahgpmkaaaRvA
import Derived.Test.YtkedhnahgpmkaaaTyAnew
import Derived.Deep.RegionHeld3
import Derived.IntWalk

/- What rebuilt returns with the closure of anew, for types of any size. Conditions: none. -/
namespace Go.Proofs.Ytkedhnahgpmkaaa
open Go.RowKit

namespace Ty
/-- what a closure does with a leaf, whatever it is told of the foralls around -/
def LeafsU {σ : Type} (cid : Nat) (caps : Array Value) (P : Ty → Prop) (Q : Ty → σ → Ty → σ → Prop) (I : World → σ → Prop) (fp : σ → Nat → Prop) (w0 : World) (base : Nat) : Prop :=
  ∀ (W : World) (op n : Int) (s : List UInt8) (k : Int) (st : σ), Good (.mk op n s []) → P (.mk op n s []) → I W st → base ≤ W.heap.size → Below w0.heap.size w0 W →
    Calls Try.prog cid (#[.agg #[.int .i64 op, .int .i64 n, .string ⟨s.toArray⟩, .slice none 0 0], .int .i64 k] ++ caps) W (RebQ Q (.mk op n s []) st I fp w0.heap.size base W)
def RebCU {σ : Type} (fv : Value) (Q : Ty → σ → Ty → σ → Prop) (I : World → σ → Prop) (fp : σ → Nat → Prop) (w0 : World) (base : Nat) (t : Ty) : Prop :=
  ∀ (v : Value) (k : Int) (st : σ) (w : World), V w0 t v → Below w0.heap.size w0 w → base ≤ w.heap.size → I w st → Calls Try.prog 104 #[v, .int .i64 k, fv] w (RebQ Q t st I fp w0.heap.size base w)
theorem callu_part {σ : Type} {Q : Ty → σ → Ty → σ → Prop} {I : World → σ → Prop} {fp : σ → Nat → Prop} {w0 w : World} {base : Nat} {op : Int} {a : Value} {G H : Nat} {st0 st : σ} {r0 r1 r2 r3 r4 r5 r6 r7 : Value} {W : World} {fv : Value} {x : Ty} (hx : RebCU fv Q I fp w0 base x) (h0 : w0.heap.size ≤ base) (hw : base ≤ w.heap.size) {v : Value} (hv : V w0 x v) (k : Int) (hN : NQ I fp w0 w base op a G H st0 st r0 r1 r2 r3 r4 r5 r6 r7 W) :
    Calls Try.prog 104 #[v, .int .i64 k, fv] W fun e W' => ∃ rx s1 v', e = .returned v' ∧ VO (okB w G H) W' rx v' ∧ NQ I fp w0 w base op a G H st0 s1 r0 r1 r2 r3 r4 r5 r6 r7 W' ∧ Gr w0.heap.size base W W' ∧ RR Q x st rx s1 :=
  (hx v k st W hv hN.old (Nat.le_trans hw hN.grown.size) hN.inv).mono fun _ _ ⟨rx, s1, v', h1, h2, h3, h4, h5, h6⟩ => ⟨rx, s1, v', h1, partq_new h2 hN, hN.nextq h0 hw h3 h4 h5, h3, h6⟩

/-! anew 70, whatever the size -/
def idQ (t : Ty) (_ : Unit) (r : Ty) (_ : Unit) : Prop := r = t
theorem rr_id {t r : Ty} {a b : Unit} (h : RR idQ t a r b) : r = t := by
  induction h with
  | leaf h => exact h
  | node _ _ ihx ihy => rw [ihx, ihy]
theorem idHQ (base : Nat) : HQ (σ := Unit) (fun _ _ => True) (fun _ _ => False) base := ⟨fun _ _ _ _ _ _ => trivial, fun _ _ _ _ h => h.elim⟩
end Ty
end Go.Proofs.Ytkedhnahgpmkaaa
