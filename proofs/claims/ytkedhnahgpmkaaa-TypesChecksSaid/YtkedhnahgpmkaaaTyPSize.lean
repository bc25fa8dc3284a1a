/- What the program's size returns. Conditions: the type lies in memory and is well formed; it has no more nodes than a number can count. -/
import Derived.Test.YtkedhnahgpmkaaaTyWalk
import Derived.Test.YtkedhnahgpmkaaaTyShl
namespace Go.Proofs.Ytkedhnahgpmkaaa
open Go.RowKit

namespace Ty
/-- the box in which nodes are counted -/
def SzI (B : Nat) (w : World) (st : Int) : Prop := w.heap[B]? = some (.cells #[.int .i64 st] 3 (0, 0))
def szF (_ : Ty) (_ : Nat) (st : Int) : Int := IntKind.i64.wrap (st + 1)

set_option maxHeartbeats 2000000 in
theorem count_any (B : Nat) (W : World) (op n : Int) (na : ByteArray) (b : Option Addr) (la c : Nat) (k st : Int) (hi : SzI B W st) :
    Calls Try.prog 96 #[.agg #[.int .i64 op, .int .i64 n, .string na, .slice b la c], .int .i64 k, .pointer (some ⟨B, 0, none⟩)] W (WP (IntKind.i64.wrap (st + 1)) (SzI B) (some B) W) := by
  have hlt := lt_of_block hi
  have hb2 : Below W.heap.size W (W.alloc (Obj.cells #[.int .i64 op, .int .i64 n, .string na, .slice b la c] 24)) := (Below.refl _ _).alloc (Nat.le_refl _) _
  have hi2 : SzI B (W.alloc (Obj.cells #[.int .i64 op, .int .i64 n, .string na, .slice b la c] 24)) st := (hb2.block _ hlt).trans hi
  have e1 := one_cell hi2
  have e2 := one_frozen hi2
  obtain ⟨r, hr⟩ : ∃ r, r = IntKind.i64.wrap (st + 1) := ⟨_, rfl⟩
  have HD : Hid (W.grownBy ((W.alloc (Obj.cells #[.int .i64 op, .int .i64 n, .string na, .slice b la c] 24)).setCell ⟨B, 0, none⟩ (.int .i64 r)) (some B) ∧ SzI B ((W.alloc (Obj.cells #[.int .i64 op, .int .i64 n, .string na, .slice b la c] 24)).setCell ⟨B, 0, none⟩ (.int .i64 r)) r) :=
    Lib.hid ⟨grown_setCell (grown_of_below hb2) (.inr rfl) _, one_same hi2⟩
  rw [← hr]
  have hr' := hr.symm
  clear hb2 hi2 hi hr
  go_enter Try.func96, Try.ntmps96
  go_upto_region 1 with fail
  obtain ⟨W1, hW1⟩ : ∃ W1, W1 = W.alloc (Obj.cells #[.int .i64 op, .int .i64 n, .string na, .slice b la c] 24) := ⟨_, rfl⟩
  rw [← hW1] at HD e1 e2 ⊢
  clear hW1
  go_wp2_with fail
  refine bodyPost_ret (results_none (by kernel_rfl)) rfl ?_
  exact ⟨rfl, HD.out.1, HD.out.2⟩

theorem wlk_size : ∀ {t : Ty}, Good t → ∀ (k : Nat) (st : Int), 0 ≤ st → st + nodes t ≤ 2000000 → wlk szF t k st = st + nodes t := by
  intro t hg
  have h1 : ∀ st : Int, 0 ≤ st → st + 1 ≤ 2000000 → IntKind.i64.wrap (st + 1) = st + 1 := fun st _ _ => IntWalk.i64_in _ (by omega)
  induction hg with
  | var op n _ _ _ =>
    intro k st h0 hs
    rw [wlk_leaf]
    have : nodes (.mk op n [] []) = 1 := by rw [nodes, nodess]
    rw [this] at hs ⊢
    exact h1 st h0 hs
  | con s _ _ =>
    intro k st h0 hs
    rw [wlk_leaf]
    have : nodes (.mk 2 0 s []) = 1 := by rw [nodes, nodess]
    rw [this] at hs ⊢
    exact h1 st h0 hs
  | node op x y h hx hy ihx ihy =>
    intro k st h0 hs
    rw [nodes_node] at hs ⊢
    rw [wlk_node, show szF (.mk op 0 [] [x, y]) k st = st + 1 from h1 st h0 (by omega), ihx k (st + 1) (by omega) (by omega), ihy _ _ (by omega) (by omega)]
    omega

set_option maxHeartbeats 2000000 in
theorem psize_any (t : Ty) (hg : Good t) (hn : nodes t ≤ 600) (v : Value) (w : World) (hv : V w t v) : Calls Try.prog 56 #[v] w fun e w' => e = .returned (.int .i64 (nodes t)) ∧ Below w.heap.size w w' := by
  have hcall := fun (W : World) (hb : Below w.heap.size w W) (hi : SzI (w.heap.size + 1) W 0) => vis_of (walk_96 (B1 := w.heap.size + 1) (f := szF) (I := SzI (w.heap.size + 1)) (m := some (w.heap.size + 1)) (w0 := w) (base := w.heap.size + 2) (by
      intro W t v k st hg hv hi _ _ _
      obtain ⟨b, c, ev, _, _⟩ := hv
      subst ev
      exact count_any _ _ _ _ _ _ _ _ _ _ hi) (fun W W' st hi hb => (hb.block _ (by omega)).trans hi) (fun j hj => by injection hj with hj; omega) t hg) (fun W W' st hi hb => (hb.block _ (by omega)).trans hi) v 0 W hv hb (by have := lt_of_block hi; omega) hi (by omega)
  rw [wlk_size hg 0 0 (by omega) (by omega), Int.zero_add] at hcall
  obtain ⟨b, c, ev, _, _⟩ := hv
  subst ev
  have ht : (((w.alloc (Obj.cells #[.int .i64 t.op, .int .i64 t.n, .string t.name, .slice b t.args.length c] 24)).alloc (Obj.cells #[.int .i64 0] 3)).heap[w.heap.size + 1]?) = some (Obj.cells #[.int .i64 0] 3) := by
    have := heap_alloc_new (w.alloc (Obj.cells #[.int .i64 t.op, .int .i64 t.n, .string t.name, .slice b t.args.length c] 24)) (Obj.cells #[.int .i64 0] 3)
    rw [show (w.alloc (Obj.cells #[.int .i64 t.op, .int .i64 t.n, .string t.name, .slice b t.args.length c] 24)).heap.size = w.heap.size + 1 from by simp] at this
    exact this
  have hb2 := below_two w (Obj.cells #[.int .i64 t.op, .int .i64 t.n, .string t.name, .slice b t.args.length c] 24) (Obj.cells #[.int .i64 0] 3)
  have hc0 : B4 (w.alloc (Obj.cells #[.int .i64 t.op, .int .i64 t.n, .string t.name, .slice b t.args.length c] 24)) w.heap.size _ _ _ _ := two_B4
  have hc := hc0.next ((Below.refl _ _).alloc (Nat.le_refl _) (Obj.cells #[.int .i64 0] 3))
  have HC := Lib.hid (hcall _ hb2 ht)
  have HB := Lib.hid hb2
  obtain ⟨c0, c1, c2, c3⟩ := hc.cells
  clear hcall ht hb2 hc0 hc
  go_enter Try.func56, Try.ntmps56
  go_wp2_with fail
  refine HC.out.mono ?_
  rintro e w2 ⟨rfl, hgr, hi⟩
  have HB2 : Hid (Below w.heap.size w w2) := Lib.hid (grown_below' HB.out hgr (fun j hj => by injection hj with hj; omega))
  have e1 := one_cell hi
  clear hgr hi
  go_wp2_with fail
  go_ret
  exact ⟨rfl, HB2.out⟩
end Ty
end Go.Proofs.Ytkedhnahgpmkaaa
