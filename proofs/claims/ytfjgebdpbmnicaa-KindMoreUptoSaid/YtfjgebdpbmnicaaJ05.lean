/- What the reference's Arrow returns. Conditions: the parts lie in memory. -/
import Derived.Test.YtfjgebdpbmnicaaJ04
import Derived.Deep.RegionWith
import Derived.Deep.QuietTactic
import Derived.BigQuiet
namespace Go.Proofs.Ytfjgebdpbmnicaa
open Go.RowKit

namespace Ty
/-- a box with four cells -/
abbrev B4 (w : World) (m : Nat) (v0 v1 v2 v3 : Value) : Prop := w.heap[m]? = some (Obj.cells #[v0, v1, v2, v3] 36)
theorem B4.cells {w : World} {m : Nat} {v0 v1 v2 v3 : Value} (h : B4 w m v0 v1 v2 v3) : w.cell? ⟨m, 0, none⟩ = some v0 ∧ w.cell? ⟨m, 1, none⟩ = some v1 ∧ w.cell? ⟨m, 2, none⟩ = some v2 ∧ w.cell? ⟨m, 3, none⟩ = some v3 :=
  ⟨cell_of_row w m 0 _ 36 (0, 0) h, cell_of_row w m 1 _ 36 (0, 0) h, cell_of_row w m 2 _ 36 (0, 0) h, cell_of_row w m 3 _ 36 (0, 0) h⟩
theorem B4.frozen {w : World} {m : Nat} {v0 v1 v2 v3 : Value} (h : B4 w m v0 v1 v2 v3) (i : Nat) : w.frozen? ⟨m, i, none⟩ = false := by
  unfold World.frozen?
  rw [show w.heap[m]? = _ from h]
  simp
theorem B4.next {w w' : World} {m : Nat} {v0 v1 v2 v3 : Value} (h : B4 w m v0 v1 v2 v3) (hb : Below w.heap.size w w') : B4 w' m v0 v1 v2 v3 := (hb.block m (lt_of_block h)).trans h

/-- the world in which a maker of two parts stands: the parts' boxes, and the result's -/
structure Three (w W : World) (a0 a1 a2 a3 b0 b1 b2 b3 : Value) : Prop where
  below : Below w.heap.size w W
  ba : B4 W w.heap.size a0 a1 a2 a3
  bb : B4 W (w.heap.size + 1) b0 b1 b2 b3
  br : B4 W (w.heap.size + 1 + 1) (.int .i64 0) (.int .i64 0) (.string ⟨#[]⟩) (.slice none 0 0)
theorem Three.new (w : World) (a0 a1 a2 a3 b0 b1 b2 b3 : Value) : Three w (((w.alloc (Obj.cells #[a0, a1, a2, a3] 36)).alloc (Obj.cells #[b0, b1, b2, b3] 36)).alloc (Obj.cells #[.int .i64 0, .int .i64 0, .string ⟨#[]⟩, .slice none 0 0] 36)) a0 a1 a2 a3 b0 b1 b2 b3 := by
  have e1 : (w.alloc (Obj.cells #[a0, a1, a2, a3] 36)).heap.size = w.heap.size + 1 := by simp
  have e2 : ((w.alloc (Obj.cells #[a0, a1, a2, a3] 36)).alloc (Obj.cells #[b0, b1, b2, b3] 36)).heap.size = w.heap.size + 1 + 1 := by simp
  refine ⟨(below_two w _ _).alloc (by simp; omega) _, ?_, ?_, ?_⟩
  · exact (Below.heap_alloc _ _ _ (by rw [e2]; omega)).trans ((Below.heap_alloc _ _ _ (by rw [e1]; omega)).trans (heap_alloc_new w _))
  · have := heap_alloc_new (w.alloc (Obj.cells #[a0, a1, a2, a3] 36)) (Obj.cells #[b0, b1, b2, b3] 36)
    rw [e1] at this
    exact (Below.heap_alloc _ _ _ (by rw [e2]; omega)).trans this
  · have := heap_alloc_new ((w.alloc (Obj.cells #[a0, a1, a2, a3] 36)).alloc (Obj.cells #[b0, b1, b2, b3] 36)) (Obj.cells #[.int .i64 0, .int .i64 0, .string ⟨#[]⟩, .slice none 0 0] 36)
    rw [e2] at this
    exact this
theorem Three.next {w W W' : World} {a0 a1 a2 a3 b0 b1 b2 b3 : Value} (h : Three w W a0 a1 a2 a3 b0 b1 b2 b3) (hb : Below W.heap.size W W') : Three w W' a0 a1 a2 a3 b0 b1 b2 b3 :=
  ⟨h.below.trans (hb.mono h.below.size), h.ba.next hb, h.bb.next hb, h.br.next hb⟩
theorem Three.drew {w W : World} {a0 a1 a2 a3 b0 b1 b2 b3 : Value} (h : Three w W a0 a1 a2 a3 b0 b1 b2 b3) : Three w W.drew a0 a1 a2 a3 b0 b1 b2 b3 := ⟨h.below.drew, h.ba, h.bb, h.br⟩

def put4 (w : World) (B : Nat) (v0 v1 v2 v3 : Value) : World := (((w.setCell ⟨B, 0, none⟩ v0).setCell ⟨B, 1, none⟩ v1).setCell ⟨B, 2, none⟩ v2).setCell ⟨B, 3, none⟩ v3
theorem put4_cells {w : World} {B : Nat} {u0 u1 u2 u3 : Value} (h : B4 w B u0 u1 u2 u3) (v0 v1 v2 v3 : Value) : B4 (put4 w B v0 v1 v2 v3) B v0 v1 v2 v3 := by
  have h' : w.heap[B]? = some (Obj.cells #[u0, u1, u2, u3] 36) := h
  unfold B4 put4
  simp [World.setCell, Array.getElem?_modify, h']
theorem below_put4 {w W : World} {B : Nat} (h : Below w.heap.size w W) (hB : w.heap.size ≤ B) (v0 v1 v2 v3 : Value) : Below w.heap.size w (put4 W B v0 v1 v2 v3) :=
  (((h.setCell hB _).setCell hB _).setCell hB _).setCell hB _
theorem put4_keep {W : World} {B : Nat} (v0 v1 v2 v3 : Value) (p : Addr) (v : Value) (h : W.cell? p = some v) (hp : p.block ≠ B) : (put4 W B v0 v1 v2 v3).cell? p = some v := by
  unfold put4
  rw [World.cell?_setCell_other _ _ _ _ (fun e => hp (by rw [← e])), World.cell?_setCell_other _ _ _ _ (fun e => hp (by rw [← e])), World.cell?_setCell_other _ _ _ _ (fun e => hp (by rw [← e])), World.cell?_setCell_other _ _ _ _ (fun e => hp (by rw [← e]))]
  exact h

end Ty
end Go.Proofs.Ytfjgebdpbmnicaa

/- What the reference's wrappers and the laws' own helpers return. Conditions: the types lie in memory. -/
namespace Go.Proofs.Ytfjgebdpbmnicaa
open Go.RowKit

namespace Ty
set_option maxHeartbeats 2000000 in
theorem rsame_any (ta tb : Ty) (va vb : Value) (w : World) (ha : V w ta va) (hb : V w tb vb) : Calls Try.prog 7 #[va, vb] w fun e w' => e = .returned (.bool (same ta tb)) ∧ Below w.heap.size w w' := by
  have hc := fun W (h : Below w.heap.size w W) => same_any ta tb va vb W (ha.next h) (hb.next h)
  have hbt : ∀ o1 o2, Below w.heap.size w ((w.alloc o1).alloc o2) := fun o1 o2 => below_two w o1 o2
  obtain ⟨ba, ca, ea, _, _⟩ := ha
  obtain ⟨bb, cb, eb, _, _⟩ := hb
  subst ea eb
  have HC := Lib.hid hc
  have HBT := Lib.hid hbt
  clear hc hbt
  go_enter Try.func7, Try.ntmps7
  go_wp2_with fail
  refine (HC.out _ (HBT.out _ _)).mono ?_
  rintro e w2 ⟨rfl, hb2⟩
  have HB2 := Lib.hid ((HBT.out _ _).trans (hb2.mono (HBT.out _ _).size))
  clear hb2
  go_wp2_with fail
  go_ret
  exact ⟨rfl, HB2.out⟩

/-- the zero type -/
def zeroT : Ty := .mk 0 0 [] []
theorem v_zero (w : World) : V w zeroT (.agg #[.int .i64 0, .int .i64 0, .string ⟨#[]⟩, .slice none 0 0]) := ⟨none, 0, rfl, by decide, by decide, .inl rfl⟩

theorem two_boxes (w : World) (a0 a1 a2 a3 b0 b1 b2 b3 : Value) :
    B4 ((w.alloc (Obj.cells #[a0, a1, a2, a3] 36)).alloc (Obj.cells #[b0, b1, b2, b3] 36)) w.heap.size a0 a1 a2 a3 ∧ B4 ((w.alloc (Obj.cells #[a0, a1, a2, a3] 36)).alloc (Obj.cells #[b0, b1, b2, b3] 36)) (w.heap.size + 1) b0 b1 b2 b3 := by
  have e1 : (w.alloc (Obj.cells #[a0, a1, a2, a3] 36)).heap.size = w.heap.size + 1 := by simp
  refine ⟨(Below.heap_alloc _ _ _ (by rw [e1]; omega)).trans (heap_alloc_new w _), ?_⟩
  have := heap_alloc_new (w.alloc (Obj.cells #[a0, a1, a2, a3] 36)) (Obj.cells #[b0, b1, b2, b3] 36)
  rw [e1] at this
  exact this

/-- what the law's helper says of a result, its error and what is wanted -/
def wholeT (t : Ty) (e : Int) (u : Ty) : Bool := if isProper u then (e == 0 && same t u) else (same t zeroT && e == 5)

end Ty
end Go.Proofs.Ytfjgebdpbmnicaa

/- What the reference's Size, under and SameInts return. Conditions: the type lies in memory and has no more nodes than a number can count. -/
namespace Go.Proofs.Ytfjgebdpbmnicaa
open Go.RowKit

theorem ret_int {k : IntKind} {a b : Int} (h : a = b) : Ending.returned (.int k a) = .returned (.int k b) := by rw [h]

namespace Ty
mutual
def nodes : Ty → Nat
  | .mk _ _ _ a => 1 + nodess a
def nodess : List Ty → Nat
  | [] => 0
  | x :: l => nodes x + nodess l
end
theorem nodes_eq (t : Ty) : nodes t = 1 + nodess t.args := by cases t; rw [nodes]; rfl
theorem nodess_nil : nodess [] = 0 := by rw [nodess]
theorem nodess_cons (x : Ty) (l : List Ty) : nodess (x :: l) = nodes x + nodess l := by rw [nodess]
mutual
theorem prop_nodes : ∀ (t : Ty) (d c : Nat), (prop t d c).1 = true → (prop t d c).2 = c + nodes t
  | .mk op n s a, d, c, h => by
    rw [prop] at h ⊢
    rw [nodes]
    by_cases h1 : 600 < c + 1 ∨ 40 < d
    · rw [if_pos h1] at h; cases h
    · rw [if_neg h1] at h ⊢
      cases hk : headK op n s with
      | none => rw [hk] at h; cases h
      | some k =>
        rw [hk] at h
        simp only at h ⊢
        by_cases h2 : a.length = k
        · rw [if_pos h2] at h ⊢
          rw [props_nodes a (d + 1) (c + 1) h]
          omega
        · rw [if_neg h2] at h; cases h
theorem props_nodes : ∀ (l : List Ty) (d c : Nat), (props l d c).1 = true → (props l d c).2 = c + nodess l
  | [], d, c, _ => by rw [props, nodess]; rfl
  | x :: l, d, c, h => by
    rw [props] at h ⊢
    rw [nodess]
    by_cases h1 : (prop x d c).1 = true
    · rw [if_pos h1] at h ⊢
      rw [props_nodes l d _ h, prop_nodes x d c h1]
      omega
    · rw [if_neg h1] at h; exact absurd h h1
end
theorem proper_nodes (t : Ty) (h : isProper t = true) : nodes t ≤ 600 := by
  have h1 := prop_nodes t 1 0 h
  have h2 := prop_le t 1 0 h
  omega

/-- how many variables the part with a number binds -/
def underN (op i : Int) : Int := if op = 4 ∧ i = 1 then 1 else 0

end Ty
end Go.Proofs.Ytfjgebdpbmnicaa

/- Plain: well-formed types of any size and depth, and how they are built anew by a function of their leaves. Conditions: none. -/
namespace Go.Proofs.Ytfjgebdpbmnicaa
open Go.RowKit

namespace Ty
inductive Good : Ty → Prop where
  | var (op n : Int) : (op = 1 ∨ op = 6 ∨ op = 7) → 0 ≤ n → n ≤ 9999 → Good (.mk op n [] [])
  | con (s : List UInt8) : s ≠ [] → s.length ≤ 40 → Good (.mk 2 0 s [])
  | node (op : Int) (x y : Ty) : (op = 3 ∨ op = 4 ∨ op = 5) → Good x → Good y → Good (.mk op 0 [] [x, y])

mutual
theorem good_of_prop : ∀ (t : Ty) (d c : Nat), (prop t d c).1 = true → Good t
  | .mk op n s a, d, c, h => by
    rw [prop] at h
    by_cases h1 : 600 < c + 1 ∨ 40 < d
    · rw [if_pos h1] at h; cases h
    · rw [if_neg h1] at h
      unfold headK at h
      by_cases k1 : op = 1 ∨ op = 6 ∨ op = 7
      · rw [if_pos k1] at h
        by_cases k2 : 0 ≤ n ∧ n ≤ 9999 ∧ s = []
        · rw [if_pos k2] at h
          obtain ⟨k2, k3, rfl⟩ := k2
          simp only at h
          by_cases k4 : a.length = 0
          · obtain rfl : a = [] := by simpa using k4
            exact Good.var op n k1 k2 k3
          · rw [if_neg k4] at h; cases h
        · rw [if_neg k2] at h; cases h
      · rw [if_neg k1] at h
        by_cases k2 : op = 2
        · rw [if_pos k2] at h
          subst k2
          by_cases k3 : n = 0 ∧ s ≠ [] ∧ s.length ≤ 40
          · rw [if_pos k3] at h
            obtain ⟨rfl, k3, k4⟩ := k3
            simp only at h
            by_cases k5 : a.length = 0
            · obtain rfl : a = [] := by simpa using k5
              exact Good.con s k3 k4
            · rw [if_neg k5] at h; cases h
          · rw [if_neg k3] at h; cases h
        · rw [if_neg k2] at h
          by_cases k3 : op = 3 ∨ op = 4 ∨ op = 5
          · rw [if_pos k3] at h
            by_cases k4 : n = 0 ∧ s = []
            · rw [if_pos k4] at h
              obtain ⟨rfl, rfl⟩ := k4
              simp only at h
              by_cases k5 : a.length = 2
              · rw [if_pos k5] at h
                have hall := goods_of_props a (d + 1) (c + 1) h
                match a, k5, hall with
                | [x, y], _, hall => exact Good.node op x y k3 (hall x (by simp)) (hall y (by simp))
              · rw [if_neg k5] at h; cases h
            · rw [if_neg k4] at h; cases h
          · rw [if_neg k3] at h; cases h
theorem goods_of_props : ∀ (l : List Ty) (d c : Nat), (props l d c).1 = true → ∀ x ∈ l, Good x
  | [], _, _, _ => fun x hx => by cases hx
  | y :: l, d, c, h => by
    rw [props] at h
    by_cases h1 : (prop y d c).1 = true
    · rw [if_pos h1] at h
      intro x hx
      rcases List.mem_cons.mp hx with hxy | hx
      · rw [hxy]; exact good_of_prop y d c h1
      · exact goods_of_props l d _ h x hx
    · rw [if_neg h1] at h; exact absurd h h1
end
theorem Good.of {t : Ty} (h : isProper t = true) : Good t := good_of_prop t 1 0 h

/-- how many foralls a type is around its second part -/
def undN (op : Int) : Nat := if op = 4 then 1 else 0
theorem undN_le (op : Int) : undN op ≤ 1 := by unfold undN; split <;> omega

mutual
/-- a type built anew by a function of its leaves, which is told how many foralls are around -/
def reb {σ : Type} (f : Ty → Nat → σ → Ty × σ) : Ty → Nat → σ → Ty × σ
  | .mk op n s a, k, st => if a.isEmpty then f (.mk op n s a) k st else (.mk op 0 [] (rebs f a op 0 k st).1, (rebs f a op 0 k st).2)
def rebs {σ : Type} (f : Ty → Nat → σ → Ty × σ) : List Ty → Int → Nat → Nat → σ → List Ty × σ
  | [], _, _, _, st => ([], st)
  | x :: l, op, i, k, st => ((reb f x (k + i * undN op) st).1 :: (rebs f l op (i + 1) k (reb f x (k + i * undN op) st).2).1, (rebs f l op (i + 1) k (reb f x (k + i * undN op) st).2).2)
end
theorem reb_leaf {σ : Type} (f : Ty → Nat → σ → Ty × σ) (op n : Int) (s : List UInt8) (k : Nat) (st : σ) : reb f (.mk op n s []) k st = f (.mk op n s []) k st := by rw [reb]; rfl
theorem reb_node {σ : Type} (f : Ty → Nat → σ → Ty × σ) (op n : Int) (s : List UInt8) (x y : Ty) (k : Nat) (st : σ) :
    reb f (.mk op n s [x, y]) k st = (.mk op 0 [] [(reb f x k st).1, (reb f y (k + undN op) (reb f x k st).2).1], (reb f y (k + undN op) (reb f x k st).2).2) := by
  rw [reb, rebs, rebs, rebs]
  simp
theorem nodes_node (op n : Int) (s : List UInt8) (x y : Ty) : nodes (.mk op n s [x, y]) = 1 + nodes x + nodes y := by
  rw [nodes, nodess, nodess, nodess]; omega
theorem nodes_pos (t : Ty) : 1 ≤ nodes t := by rw [nodes_eq]; omega

end Ty
end Go.Proofs.Ytfjgebdpbmnicaa

/- Types as they lie in memory, their rows in blocks that a predicate allows. Conditions: none. -/
namespace Go.Proofs.Ytfjgebdpbmnicaa
open Go.RowKit

namespace Ty
mutual
/-- a type's four cells stand at a place; its rows stand in blocks that are allowed -/
def AtO (ok : Nat → Prop) (w : World) (b o : Nat) : Ty → Prop
  | .mk op n s args => w.cell? ⟨b, o, none⟩ = some (.int .i64 op) ∧ w.cell? ⟨b, o + 1, none⟩ = some (.int .i64 n) ∧ w.cell? ⟨b, o + 2, none⟩ = some (.string ⟨s.toArray⟩) ∧ s.length ≤ maxLen ∧
      ∃ base cap, w.cell? ⟨b, o + 3, none⟩ = some (.slice base args.length cap) ∧ args.length ≤ maxLen ∧ (args = [] ∨ ∃ g o', base = some ⟨g, o', none⟩ ∧ ok g ∧ RowO ok w g o' args)
def RowO (ok : Nat → Prop) (w : World) (b o : Nat) : List Ty → Prop
  | [] => True
  | t :: l => AtO ok w b o t ∧ RowO ok w b (o + 4) l
end
def SlO (ok : Nat → Prop) (w : World) (base : Option Addr) (l : List Ty) : Prop := l.length ≤ maxLen ∧ (l = [] ∨ ∃ g o, base = some ⟨g, o, none⟩ ∧ ok g ∧ RowO ok w g o l)
def VO (ok : Nat → Prop) (w : World) (t : Ty) (v : Value) : Prop := ∃ base cap, v = .agg #[.int .i64 t.op, .int .i64 t.n, .string t.name, .slice base t.args.length cap] ∧ t.s.length ≤ maxLen ∧ SlO ok w base t.args
theorem atO_iff {ok : Nat → Prop} {w : World} {b o : Nat} {t : Ty} : AtO ok w b o t ↔ w.cell? ⟨b, o, none⟩ = some (.int .i64 t.op) ∧ w.cell? ⟨b, o + 1, none⟩ = some (.int .i64 t.n) ∧ w.cell? ⟨b, o + 2, none⟩ = some (.string t.name) ∧ t.s.length ≤ maxLen ∧
    ∃ base cap, w.cell? ⟨b, o + 3, none⟩ = some (.slice base t.args.length cap) ∧ SlO ok w base t.args := by
  cases t with
  | mk op n s args => exact Iff.rfl

mutual
theorem AtO.weak {ok : Nat → Prop} {w : World} {b o : Nat} : ∀ {t : Ty}, AtO ok w b o t → At w b o t
  | .mk op n s args, ⟨h0, h1, h2, hs, base, cap, h3, hl, h4⟩ => by
    refine ⟨h0, h1, h2, hs, base, cap, h3, hl, ?_⟩
    rcases h4 with h4 | ⟨g, o', e, _, h4⟩
    · exact .inl h4
    · exact .inr ⟨g, o', e, RowO.weak h4⟩
theorem RowO.weak {ok : Nat → Prop} {w : World} {b o : Nat} : ∀ {l : List Ty}, RowO ok w b o l → Row w b o l
  | [], _ => trivial
  | _ :: _, h => ⟨AtO.weak h.1, RowO.weak h.2⟩
end
theorem VO.weak {ok : Nat → Prop} {w : World} {t : Ty} {v : Value} (h : VO ok w t v) : V w t v := by
  obtain ⟨base, cap, e, hs, hl, h4⟩ := h
  refine ⟨base, cap, e, hs, hl, ?_⟩
  rcases h4 with h4 | ⟨g, o', e, _, h4⟩
  · exact .inl h4
  · exact .inr ⟨g, o', e, h4.weak⟩

/-- a row is not empty where its first cell is there: its block is one of the world's -/
theorem row_lt {w : World} {g o : Nat} {l : List Ty} (h : Row w g o l) (hne : l ≠ []) : g < w.heap.size := by
  cases l with
  | nil => exact absurd rfl hne
  | cons t l => exact World.block_lt_of_cell? w _ (at_iff.mp h.1).1
mutual
theorem At.bound {w : World} {b o : Nat} : ∀ {t : Ty}, At w b o t → AtO (· < w.heap.size) w b o t
  | .mk op n s args, ⟨h0, h1, h2, hs, base, cap, h3, hl, h4⟩ => by
    refine ⟨h0, h1, h2, hs, base, cap, h3, hl, ?_⟩
    by_cases hne : args = []
    · exact .inl hne
    · rcases h4 with h4 | ⟨g, o', e, h4⟩
      · exact .inl h4
      · exact .inr ⟨g, o', e, row_lt h4 hne, Row.bound h4⟩
theorem Row.bound {w : World} {b o : Nat} : ∀ {l : List Ty}, Row w b o l → RowO (· < w.heap.size) w b o l
  | [], _ => trivial
  | _ :: _, h => ⟨At.bound h.1, Row.bound h.2⟩
end
theorem V.bound {w : World} {t : Ty} {v : Value} (h : V w t v) : VO (· < w.heap.size) w t v := by
  obtain ⟨base, cap, e, hs, hl, h4⟩ := h
  refine ⟨base, cap, e, hs, hl, ?_⟩
  by_cases hne : t.args = []
  · exact .inl hne
  · rcases h4 with h4 | ⟨g, o', e, h4⟩
    · exact .inl h4
    · exact .inr ⟨g, o', e, row_lt h4 hne, h4.bound⟩

mutual
theorem AtO.keep {ok ok' : Nat → Prop} (hok : ∀ g, ok g → ok' g) {w w' : World} (hk : ∀ (p : Addr) v, ok p.block → w.cell? p = some v → w'.cell? p = some v) {b o : Nat} (hb : ok b) : ∀ {t : Ty}, AtO ok w b o t → AtO ok' w' b o t
  | .mk op n s args, ⟨h0, h1, h2, hs, base, cap, h3, hl, h4⟩ => by
    refine ⟨hk _ _ hb h0, hk _ _ hb h1, hk _ _ hb h2, hs, base, cap, hk _ _ hb h3, hl, ?_⟩
    rcases h4 with h4 | ⟨g, o', e, hg, h4⟩
    · exact .inl h4
    · exact .inr ⟨g, o', e, hok g hg, RowO.keep hok hk hg h4⟩
theorem RowO.keep {ok ok' : Nat → Prop} (hok : ∀ g, ok g → ok' g) {w w' : World} (hk : ∀ (p : Addr) v, ok p.block → w.cell? p = some v → w'.cell? p = some v) {b o : Nat} (hb : ok b) : ∀ {l : List Ty}, RowO ok w b o l → RowO ok' w' b o l
  | [], _ => trivial
  | _ :: _, h => ⟨AtO.keep hok hk hb h.1, RowO.keep hok hk hb h.2⟩
end
theorem SlO.keep {ok ok' : Nat → Prop} (hok : ∀ g, ok g → ok' g) {w w' : World} (hk : ∀ (p : Addr) v, ok p.block → w.cell? p = some v → w'.cell? p = some v) {base : Option Addr} {l : List Ty} (h : SlO ok w base l) : SlO ok' w' base l := by
  obtain ⟨hl, h4 | ⟨g, o', e, hg, h4⟩⟩ := h
  · exact ⟨hl, .inl h4⟩
  · exact ⟨hl, .inr ⟨g, o', e, hok g hg, h4.keep hok hk hg⟩⟩
theorem VO.keep {ok ok' : Nat → Prop} (hok : ∀ g, ok g → ok' g) {w w' : World} (hk : ∀ (p : Addr) v, ok p.block → w.cell? p = some v → w'.cell? p = some v) {t : Ty} {v : Value} (h : VO ok w t v) : VO ok' w' t v := by
  obtain ⟨base, cap, e, hs, hl⟩ := h
  exact ⟨base, cap, e, hs, hl.keep hok hk⟩
theorem VO.next {ok : Nat → Prop} {w w' : World} (hb : Below w.heap.size w w') {t : Ty} {v : Value} (h : VO ok w t v) : VO ok w' t v := h.keep (fun _ h => h) (fun p v _ hc => keeps hb p v hc)
theorem VO.put {w : World} {B : Nat} {t : Ty} {v : Value} (h : VO (· ≠ B) w t v) (v0 v1 v2 v3 : Value) : VO (· ≠ B) (put4 w B v0 v1 v2 v3) t v :=
  h.keep (fun _ h => h) (fun p v hp hc => put4_keep v0 v1 v2 v3 p v hc hp)
/-- what stood before a box was made does not stand in it -/
theorem V.apart {w W : World} {B : Nat} {t : Ty} {v : Value} (h : V w t v) (hb : Below w.heap.size w W) (hB : w.heap.size ≤ B) : VO (· ≠ B) W t v :=
  h.bound.keep (fun g hg => by omega) (fun p v _ hc => keeps hb p v hc)

theorem vo_leaf (ok : Nat → Prop) (w : World) (o n : Int) (s : ByteArray) (hs : s.size ≤ maxLen) : VO ok w (.mk o n s.data.toList []) (.agg #[.int .i64 o, .int .i64 n, .string s, .slice none 0 0]) := by
  have hmk : (⟨s.data.toList.toArray⟩ : ByteArray) = s := by simp
  refine ⟨none, 0, ?_, ?_, Nat.zero_le _, .inl rfl⟩
  · show _ = Value.agg #[.int .i64 o, .int .i64 n, .string ⟨s.data.toList.toArray⟩, .slice none 0 0]
    rw [hmk]
  · show s.data.toList.length ≤ maxLen
    rw [show s.data.toList.length = s.size from rfl]
    exact hs

theorem vo_two {ok : Nat → Prop} {w w1 : World} (hok : ∀ g, w.heap.size ≤ g → ok g) (hb : Below w.heap.size w w1) (o : Int) {ta tb : Ty} {ba bb : Option Addr} {ca cb : Nat} (hsa : ta.s.length ≤ maxLen) (hsb : tb.s.length ≤ maxLen) (hla : SlO ok w ba ta.args) (hlb : SlO ok w bb tb.args) (R : Obj) :
    VO ok ((w1.alloc R).alloc (Obj.cells #[.int .i64 ta.op, .int .i64 ta.n, .string ta.name, .slice ba ta.args.length ca, .int .i64 tb.op, .int .i64 tb.n, .string tb.name, .slice bb tb.args.length cb] 36)) (.mk o 0 [] [ta, tb])
      (.agg #[.int .i64 o, .int .i64 0, .string ⟨#[]⟩, .slice (some ⟨w1.heap.size + 1, 0, none⟩) 2 2]) := by
  obtain ⟨S, hS⟩ : ∃ S, S = Obj.cells #[.int .i64 ta.op, .int .i64 ta.n, .string ta.name, .slice ba ta.args.length ca, .int .i64 tb.op, .int .i64 tb.n, .string tb.name, .slice bb tb.args.length cb] 36 := ⟨_, rfl⟩
  rw [← hS]
  have hrow : ((w1.alloc R).alloc S).heap[w1.heap.size + 1]? = some S := by
    have := heap_alloc_new (w1.alloc R) S
    rwa [show (w1.alloc R).heap.size = w1.heap.size + 1 from by simp] at this
  have hrow2 := hrow.trans (congrArg some hS)
  have hbl : Below w.heap.size w ((w1.alloc R).alloc S) := hb.trans ((below_two w1 R S).mono hb.size)
  have c := fun i => cell_of_row ((w1.alloc R).alloc S) (w1.heap.size + 1) i _ 36 (0, 0) hrow2
  have hkeep : ∀ (p : Addr) v, ok p.block → w.cell? p = some v → ((w1.alloc R).alloc S).cell? p = some v := fun p v _ hc => keeps hbl p v hc
  refine ⟨some ⟨w1.heap.size + 1, 0, none⟩, 2, rfl, Nat.zero_le _, by show 2 ≤ maxLen; unfold maxLen; omega, .inr ⟨w1.heap.size + 1, 0, rfl, hok _ (by have := hb.size; omega), ?_, ?_, trivial⟩⟩
  · exact atO_iff.mpr ⟨c 0, c 1, c 2, hsa, ba, ca, c 3, hla.keep (fun _ h => h) hkeep⟩
  · exact atO_iff.mpr ⟨c 4, c 5, c 6, hsb, bb, cb, c 7, hlb.keep (fun _ h => h) hkeep⟩

/-- a type is returned, its rows in blocks that are allowed -/
def RetO (ok : Nat → Prop) (t : Ty) (w : World) (e : Ending) (w' : World) : Prop := ∃ v, e = .returned v ∧ VO ok w' t v ∧ Below w.heap.size w w'

set_option maxHeartbeats 2000000 in
theorem con_o (s : ByteArray) (w : World) : Calls Try.prog 34 #[.string s] w fun e w' => e = .returned (.agg #[.int .i64 2, .int .i64 0, .string s, .slice none 0 0]) ∧ Below w.heap.size w w' := by
  obtain ⟨b0, b1, b2, b3⟩ := box4 w (.int .i64 2) (.int .i64 0) (.string s) (.slice none 0 0)
  go_enter Try.func34, Try.ntmps34
  go_wp2_with fail
  refine bodyPost_ret (results_ty (a := 2) (by kernel_rfl) (B := w.heap.size) (by rfl) b0 b1 b2 b3) rfl ?_
  exact ⟨rfl, (Below.refl _ _).alloc (Nat.le_refl _) _⟩

set_option maxHeartbeats 4000000 in
theorem app_o {ok : Nat → Prop} (ta tb : Ty) (va vb : Value) (w : World) (hok : ∀ g, w.heap.size ≤ g → ok g) (ha : VO ok w ta va) (hb : VO ok w tb vb) : Calls Try.prog 33 #[va, vb] w (RetO ok (.mk 3 0 [] [ta, tb]) w) := by
  obtain ⟨ba, ca, ea, hsa, hla⟩ := ha
  obtain ⟨bb, cb, eb, hsb, hlb⟩ := hb
  subst ea eb
  have hv := fun w1 (hb : Below w.heap.size w w1) R => vo_two hok hb 3 (ca := ca) (cb := cb) hsa hsb hla hlb R
  have HV := Lib.hid hv
  clear hla hlb hv hok
  generalize ta.args.length = la at *
  generalize tb.args.length = lb at *
  go_enter Try.func33, Try.ntmps33
  go_wp2_with fail
  obtain ⟨w1, hw1⟩ : ∃ w1, w1 = (w.alloc (Obj.cells #[Value.int IntKind.i64 ta.op, Value.int IntKind.i64 ta.n, Value.string ta.name, Value.slice ba la ca] 36)).alloc (Obj.cells #[Value.int IntKind.i64 tb.op, Value.int IntKind.i64 tb.n, Value.string tb.name, Value.slice bb lb cb] 36) := ⟨_, rfl⟩
  have e1 : w1.heap.size = w.heap.size + 1 + 1 := by rw [hw1]; simp
  have hb1 : Below w.heap.size w w1 := by rw [hw1]; exact below_two _ _ _
  rw [← hw1, ← e1]
  clear hw1
  obtain ⟨R, hR⟩ : ∃ R, R = Obj.cells #[Value.int IntKind.i64 3, Value.int IntKind.i64 0, Value.string ⟨#[]⟩, Value.slice (some ⟨w1.heap.size + 1, 0, none⟩) 2 2] 36 := ⟨_, rfl⟩
  have hrow : ∀ S, ((w1.alloc R).alloc S).heap[w1.heap.size]? = some R := fun S => (Below.heap_alloc _ _ _ (by simp)).trans (heap_alloc_new w1 R)
  rw [hR] at hrow
  have c := fun S i => cell_of_row ((w1.alloc _).alloc S) w1.heap.size i _ 36 (0, 0) (hrow S)
  refine bodyPost_ret (results_ty (a := 4) (by kernel_rfl) (B := w1.heap.size) (by rfl) (c _ 0) (c _ 1) (c _ 2) (c _ 3)) rfl ?_
  exact ⟨_, rfl, HV.out w1 hb1 _, hb1.trans ((below_two w1 _ _).mono hb1.size)⟩

end Ty
end Go.Proofs.Ytfjgebdpbmnicaa
