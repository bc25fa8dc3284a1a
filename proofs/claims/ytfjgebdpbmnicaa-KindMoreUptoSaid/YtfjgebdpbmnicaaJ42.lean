/- leave.Tried: what it returns. Conditions: the function that it is given returns a type or leaves with an error. -/
import Derived.Test.YtfjgebdpbmnicaaJ41
import Derived.Test.YtfjgebdpbmnicaaJ37
namespace Go.Proofs.Ytfjgebdpbmnicaa
open Go.RowKit

namespace Ty
/-- what a function gives that may leave with an error -/
def PartP (N : Nat) (r : Option (Int ⊕ Ty)) (w : World) (e : Ending) (w' : World) : Prop :=
  Below w.heap.size w w' ∧ ((∃ t v, r = some (.inr t) ∧ e = .returned v ∧ VO (fun g => g < N ∨ w.heap.size ≤ g) w' t v) ∨ ∃ n, r = some (.inl n) ∧ e = .panicked [{ v := failV n, recovered := false }])
theorem fin_put {w w5 : World} {x0 x1 x2 x3 v0 v1 v2 v3 : Value} {m n : Int} (h : Below w.heap.size w w5) (hp : B4 w5 w.heap.size x0 x1 x2 x3) (hq : EBox w5 (w.heap.size + 1) m) :
    Below w.heap.size w ((put4 w5 w.heap.size v0 v1 v2 v3).setCell ⟨w.heap.size + 1, 0, none⟩ (.int .i64 n)) ∧ B4 ((put4 w5 w.heap.size v0 v1 v2 v3).setCell ⟨w.heap.size + 1, 0, none⟩ (.int .i64 n)) w.heap.size v0 v1 v2 v3 ∧ EBox ((put4 w5 w.heap.size v0 v1 v2 v3).setCell ⟨w.heap.size + 1, 0, none⟩ (.int .i64 n)) (w.heap.size + 1) n := by
  refine ⟨(below_put4 h (Nat.le_refl _) _ _ _ _).setCell (Nat.le_succ _) _, ?_, ?_⟩
  · exact (Below.heap_setCell _ _ _ _ (by intro e; have : w.heap.size = w.heap.size + 1 := (by first | exact e | exact e.symm); omega)).trans (put4_cells hp v0 v1 v2 v3)
  · have h' : (put4 w5 w.heap.size v0 v1 v2 v3).heap[w.heap.size + 1]? = some (.cells #[.int .i64 m] 40 (0, 0)) := (put4_other (by omega) v0 v1 v2 v3).trans hq
    unfold EBox
    simp [World.setCell, Array.getElem?_modify, h']
theorem fin_kept {w w5 : World} {t : Ty} {v v0 v1 v2 v3 : Value} {n : Int} {N : Nat} (hN : w.heap.size + 2 ≤ N) (h : VO (fun g => g < w.heap.size ∨ N ≤ g) w5 t v) : V ((put4 w5 w.heap.size v0 v1 v2 v3).setCell ⟨w.heap.size + 1, 0, none⟩ (.int .i64 n)) t v :=
  (h.keep (fun _ h => h) (fun p x hp hc => by
    have h1 : p.block ≠ w.heap.size := by rcases hp with hp | hp <;> omega
    have h2 : p.block ≠ w.heap.size + 1 := by rcases hp with hp | hp <;> omega
    rw [World.cell?_setCell_other _ _ _ _ (by intro e; apply h2; first | rw [e] | rw [← e])]
    exact put4_keep _ _ _ _ p x hc h1)).weak
set_option maxRecDepth 100000 in
set_option maxHeartbeats 4000000 in
theorem tried_any (r : Option (Int ⊕ Ty)) (caps : Array Value) (w : World) (hpart : ∀ W, Below w.heap.size w W → Calls Try.prog 17 caps W (PartP w.heap.size r W)) :
    Calls Try.prog 16 #[.func (.func 17) #[] caps] w fun e w' => Below w.heap.size w w' ∧ ((∃ t v, r = some (.inr t) ∧ e = .returned (.tuple #[v, .int .i64 0]) ∧ V w' t v) ∨ ∃ n, r = some (.inl n) ∧ e = .returned (.tuple #[zeroV, .int .i64 n])) := by
  have hmf : ∀ (fn : Fn) (first cap : Array Value) (w : World), (Instr.makeFunc fn first cap).run Try.prog w = .ok (.func fn first cap) w := fun _ _ _ _ => rfl
  go_enter_defers Try.func16, Try.ntmps16
  go_wp2_with fail
  obtain ⟨W2, hW2⟩ : ∃ W2, W2 = (w.alloc (Obj.cells #[.int .i64 0, .int .i64 0, .string ⟨#[]⟩, .slice none 0 0] 36)).alloc (Obj.cells #[.int .i64 0] 40) := ⟨_, rfl⟩
  have hb2 : Below w.heap.size w W2 := by rw [hW2]; exact below_two w _ _
  have hp2 : B4 W2 w.heap.size (.int .i64 0) (.int .i64 0) (.string ⟨#[]⟩) (.slice none 0 0) := by rw [hW2]; exact (heap_alloc_old _ _ (by simp)).trans (heap_alloc_new _ _)
  have hq2 : EBox W2 (w.heap.size + 1) 0 := by
    have h := heap_alloc_new (w.alloc (Obj.cells #[.int .i64 0, .int .i64 0, .string ⟨#[]⟩, .slice none 0 0] 36)) (Obj.cells #[.int .i64 0] 40)
    rw [← hW2] at h
    rw [show (w.alloc (Obj.cells #[.int .i64 0, .int .i64 0, .string ⟨#[]⟩, .slice none 0 0] 36)).heap.size = w.heap.size + 1 from by simp] at h
    exact h
  have hn2 : w.heap.size + 2 ≤ W2.heap.size := lt_of_block hq2
  rw [← hW2]
  clear hW2
  refine (hpart W2 hb2).mono ?_
  rintro e w3 ⟨hb3, ⟨t, v, hr, rfl, hv⟩ | ⟨n, hr, rfl⟩⟩
  · have HB3 := Lib.hid (hb2.trans (hb3.mono hb2.size))
    have HP3 := Lib.hid (hp2.next hb3)
    have HQ3 := Lib.hid ((hb3.block _ (lt_of_block hq2)).trans hq2)
    have HV := Lib.hid hv
    obtain ⟨b, c, rfl, _, _⟩ := hv
    clear hb2 hp2 hq2 hb3 hpart
    obtain ⟨p0, p1, p2, p3⟩ := HP3.out.cells
    have g0 := HP3.out.frozen 0
    have g1 := HP3.out.frozen 1
    have g2 := HP3.out.frozen 2
    have g3 := HP3.out.frozen 3
    have r0 := one_cell HQ3.out
    have r1 := one_frozen HQ3.out
    have HN2 := Lib.hid hn2
    go_wp2_with fail
    refine leaves_cons (f := 43) (args := #[.pointer (some ⟨w.heap.size, 0, none⟩), .pointer (some ⟨w.heap.size + 1, 0, none⟩)]) (by simp) (by simp [go_sem]) ?_
    refine (catch_idle ⟨w.heap.size, 0, none⟩ ⟨w.heap.size + 1, 0, none⟩ _).mono ?_
    rintro e u' w'' ⟨rfl, rfl, rfl⟩
    obtain ⟨f1, f2, f3⟩ := fin_put (v0 := .int .i64 t.op) (v1 := .int .i64 t.n) (v2 := .string t.name) (v3 := .slice b t.args.length c) (n := 0) HB3.out HP3.out HQ3.out
    have hfin := fin_kept (v0 := .int .i64 t.op) (v1 := .int .i64 t.n) (v2 := .string t.name) (v3 := .slice b t.args.length c) (n := 0) HN2.out HV.out
    generalize hWF : ((((w3.setCell ⟨w.heap.size, 0, none⟩ (.int .i64 t.op)).setCell ⟨w.heap.size, 1, none⟩ (.int .i64 t.n)).setCell ⟨w.heap.size, 2, none⟩ (.string t.name)).setCell ⟨w.heap.size, 3, none⟩ (.slice b t.args.length c)).setCell ⟨w.heap.size + 1, 0, none⟩ (.int .i64 0) = WF
    have hW : (put4 w3 w.heap.size (.int .i64 t.op) (.int .i64 t.n) (.string t.name) (.slice b t.args.length c)).setCell ⟨w.heap.size + 1, 0, none⟩ (.int .i64 0) = WF := hWF
    rw [hW] at f1 f2 f3 hfin
    clear hW hWF
    obtain ⟨k0, k1, k2, k3⟩ := f2.cells
    have l0 := one_cell f3
    have HE := Lib.hid (And.intro f1 (And.intro hr hfin))
    clear f1 f2 f3 hr hfin HV
    simp [Leaves, settle, results, Try.results16, go_sem, k0, k1, k2, k3, l0]
    exact ⟨HE.out.1, .inl ⟨t, HE.out.2.1, HE.out.2.2⟩⟩
  · have HB3 := Lib.hid (hb2.trans (hb3.mono hb2.size))
    have HP3 := Lib.hid (hp2.next hb3)
    have HQ3 := Lib.hid ((hb3.block _ (lt_of_block hq2)).trans hq2)
    clear hb2 hp2 hq2 hb3 hpart
    refine leaves_cons (f := 43) (args := #[.pointer (some ⟨w.heap.size, 0, none⟩), .pointer (some ⟨w.heap.size + 1, 0, none⟩)]) (by simp) (by simp [go_sem]) ?_
    refine (catch_panic n 0 w.heap.size (w.heap.size + 1) _ _ _ _ w3 (by omega) HP3.out HQ3.out).mono ?_
    rintro e u' w'' ⟨rfl, rfl, w5, hb5, hp5, hq5, rfl⟩
    obtain ⟨f1, f2, f3⟩ := fin_put (v0 := .int .i64 0) (v1 := .int .i64 0) (v2 := .string ⟨#[]⟩) (v3 := .slice none 0 0) (n := n) (HB3.out.trans (hb5.mono HB3.out.size)) hp5 hq5
    generalize hWF : (put4 w5 w.heap.size (.int .i64 0) (.int .i64 0) (.string ⟨#[]⟩) (.slice none 0 0)).setCell ⟨w.heap.size + 1, 0, none⟩ (.int .i64 n) = WF
    rw [hWF] at f1 f2 f3
    clear hWF
    obtain ⟨k0, k1, k2, k3⟩ := f2.cells
    have l0 := one_cell f3
    have HE := Lib.hid (And.intro f1 hr)
    clear f1 f2 f3 hr
    simp [Leaves, settle, results, Try.results16, go_sem, k0, k1, k2, k3, l0]
    refine ⟨HE.out.1, .inr ?_⟩
    exact HE.out.2
end Ty
end Go.Proofs.Ytfjgebdpbmnicaa

/- What Tried returns where the part makes its result in new memory. Conditions: the part's contract. -/
namespace Go.Proofs.Ytfjgebdpbmnicaa
open Go.RowKit

namespace Ty
/-- what a part does that makes its result anew -/
def PartN (r : Option (Int ⊕ Ty)) (w : World) (e : Ending) (w' : World) : Prop :=
  Below w.heap.size w w' ∧ ((∃ t v, r = some (.inr t) ∧ e = .returned v ∧ VO (w.heap.size ≤ ·) w' t v) ∨ ∃ n, r = some (.inl n) ∧ e = .panicked [{ v := failV n, recovered := false }])
theorem fin_keptn {w w5 : World} {t : Ty} {v v0 v1 v2 v3 : Value} {n : Int} {N : Nat} (hN : w.heap.size + 2 ≤ N) (h : VO (N ≤ ·) w5 t v) : VO (w.heap.size ≤ ·) ((put4 w5 w.heap.size v0 v1 v2 v3).setCell ⟨w.heap.size + 1, 0, none⟩ (.int .i64 n)) t v :=
  h.keep (fun g hg => by have : N ≤ g := hg; show w.heap.size ≤ g; omega) (fun p x hp hc => by
    have hp' : N ≤ p.block := hp
    have h1 : p.block ≠ w.heap.size := by omega
    have h2 : p.block ≠ w.heap.size + 1 := by omega
    rw [World.cell?_setCell_other _ _ _ _ (by intro e; apply h2; first | rw [e] | rw [← e])]
    exact put4_keep _ _ _ _ p x hc h1)
set_option maxRecDepth 100000 in
set_option maxHeartbeats 4000000 in
theorem triedn_any (r : Option (Int ⊕ Ty)) (caps : Array Value) (w : World) (hpart : ∀ W, Below w.heap.size w W → Calls Try.prog 17 caps W (PartN r W)) :
    Calls Try.prog 16 #[.func (.func 17) #[] caps] w fun e w' => Below w.heap.size w w' ∧ ((∃ t v, r = some (.inr t) ∧ e = .returned (.tuple #[v, .int .i64 0]) ∧ VO (w.heap.size ≤ ·) w' t v) ∨ ∃ n, r = some (.inl n) ∧ e = .returned (.tuple #[zeroV, .int .i64 n])) := by
  have hmf : ∀ (fn : Fn) (first cap : Array Value) (w : World), (Instr.makeFunc fn first cap).run Try.prog w = .ok (.func fn first cap) w := fun _ _ _ _ => rfl
  go_enter_defers Try.func16, Try.ntmps16
  go_wp2_with fail
  obtain ⟨W2, hW2⟩ : ∃ W2, W2 = (w.alloc (Obj.cells #[.int .i64 0, .int .i64 0, .string ⟨#[]⟩, .slice none 0 0] 36)).alloc (Obj.cells #[.int .i64 0] 40) := ⟨_, rfl⟩
  have hb2 : Below w.heap.size w W2 := by rw [hW2]; exact below_two w _ _
  have hp2 : B4 W2 w.heap.size (.int .i64 0) (.int .i64 0) (.string ⟨#[]⟩) (.slice none 0 0) := by rw [hW2]; exact (heap_alloc_old _ _ (by simp)).trans (heap_alloc_new _ _)
  have hq2 : EBox W2 (w.heap.size + 1) 0 := by
    have h := heap_alloc_new (w.alloc (Obj.cells #[.int .i64 0, .int .i64 0, .string ⟨#[]⟩, .slice none 0 0] 36)) (Obj.cells #[.int .i64 0] 40)
    rw [← hW2] at h
    rw [show (w.alloc (Obj.cells #[.int .i64 0, .int .i64 0, .string ⟨#[]⟩, .slice none 0 0] 36)).heap.size = w.heap.size + 1 from by simp] at h
    exact h
  have hn2 : w.heap.size + 2 ≤ W2.heap.size := lt_of_block hq2
  rw [← hW2]
  clear hW2
  refine (hpart W2 hb2).mono ?_
  rintro e w3 ⟨hb3, ⟨t, v, hr, rfl, hv⟩ | ⟨n, hr, rfl⟩⟩
  · have HB3 := Lib.hid (hb2.trans (hb3.mono hb2.size))
    have HP3 := Lib.hid (hp2.next hb3)
    have HQ3 := Lib.hid ((hb3.block _ (lt_of_block hq2)).trans hq2)
    have HV := Lib.hid hv
    obtain ⟨b, c, rfl, _, _⟩ := hv
    clear hb2 hp2 hq2 hb3 hpart
    obtain ⟨p0, p1, p2, p3⟩ := HP3.out.cells
    have g0 := HP3.out.frozen 0
    have g1 := HP3.out.frozen 1
    have g2 := HP3.out.frozen 2
    have g3 := HP3.out.frozen 3
    have r0 := one_cell HQ3.out
    have r1 := one_frozen HQ3.out
    have HN2 := Lib.hid hn2
    go_wp2_with fail
    refine leaves_cons (f := 43) (args := #[.pointer (some ⟨w.heap.size, 0, none⟩), .pointer (some ⟨w.heap.size + 1, 0, none⟩)]) (by simp) (by simp [go_sem]) ?_
    refine (catch_idle ⟨w.heap.size, 0, none⟩ ⟨w.heap.size + 1, 0, none⟩ _).mono ?_
    rintro e u' w'' ⟨rfl, rfl, rfl⟩
    obtain ⟨f1, f2, f3⟩ := fin_put (v0 := .int .i64 t.op) (v1 := .int .i64 t.n) (v2 := .string t.name) (v3 := .slice b t.args.length c) (n := 0) HB3.out HP3.out HQ3.out
    have hfin := fin_keptn (v0 := .int .i64 t.op) (v1 := .int .i64 t.n) (v2 := .string t.name) (v3 := .slice b t.args.length c) (n := 0) HN2.out HV.out
    generalize hWF : ((((w3.setCell ⟨w.heap.size, 0, none⟩ (.int .i64 t.op)).setCell ⟨w.heap.size, 1, none⟩ (.int .i64 t.n)).setCell ⟨w.heap.size, 2, none⟩ (.string t.name)).setCell ⟨w.heap.size, 3, none⟩ (.slice b t.args.length c)).setCell ⟨w.heap.size + 1, 0, none⟩ (.int .i64 0) = WF
    have hW : (put4 w3 w.heap.size (.int .i64 t.op) (.int .i64 t.n) (.string t.name) (.slice b t.args.length c)).setCell ⟨w.heap.size + 1, 0, none⟩ (.int .i64 0) = WF := hWF
    rw [hW] at f1 f2 f3 hfin
    clear hW hWF
    obtain ⟨k0, k1, k2, k3⟩ := f2.cells
    have l0 := one_cell f3
    have HE := Lib.hid (And.intro f1 (And.intro hr hfin))
    clear f1 f2 f3 hr hfin HV
    simp [Leaves, settle, results, Try.results16, go_sem, k0, k1, k2, k3, l0]
    exact ⟨HE.out.1, .inl ⟨t, HE.out.2.1, HE.out.2.2⟩⟩
  · have HB3 := Lib.hid (hb2.trans (hb3.mono hb2.size))
    have HP3 := Lib.hid (hp2.next hb3)
    have HQ3 := Lib.hid ((hb3.block _ (lt_of_block hq2)).trans hq2)
    clear hb2 hp2 hq2 hb3 hpart
    refine leaves_cons (f := 43) (args := #[.pointer (some ⟨w.heap.size, 0, none⟩), .pointer (some ⟨w.heap.size + 1, 0, none⟩)]) (by simp) (by simp [go_sem]) ?_
    refine (catch_panic n 0 w.heap.size (w.heap.size + 1) _ _ _ _ w3 (by omega) HP3.out HQ3.out).mono ?_
    rintro e u' w'' ⟨rfl, rfl, w5, hb5, hp5, hq5, rfl⟩
    obtain ⟨f1, f2, f3⟩ := fin_put (v0 := .int .i64 0) (v1 := .int .i64 0) (v2 := .string ⟨#[]⟩) (v3 := .slice none 0 0) (n := n) (HB3.out.trans (hb5.mono HB3.out.size)) hp5 hq5
    generalize hWF : (put4 w5 w.heap.size (.int .i64 0) (.int .i64 0) (.string ⟨#[]⟩) (.slice none 0 0)).setCell ⟨w.heap.size + 1, 0, none⟩ (.int .i64 n) = WF
    rw [hWF] at f1 f2 f3
    clear hWF
    obtain ⟨k0, k1, k2, k3⟩ := f2.cells
    have l0 := one_cell f3
    have HE := Lib.hid (And.intro f1 hr)
    clear f1 f2 f3 hr
    simp [Leaves, settle, results, Try.results16, go_sem, k0, k1, k2, k3, l0]
    refine ⟨HE.out.1, .inr ?_⟩
    exact HE.out.2
end Ty
end Go.Proofs.Ytfjgebdpbmnicaa

/- What the closure in Kind returns. Conditions: what the walker's kind does. -/
namespace Go.Proofs.Ytfjgebdpbmnicaa
open Go.RowKit

namespace Ty
/-- a result as Tried takes it apart -/
def resN (r : Res) : Option (Int ⊕ Ty) := some (match r with | .bad c => .inl c | .ok k => .inr (anewV k))
set_option maxHeartbeats 4000000 in
theorem kind1_any {ok : Nat → Prop} (r : Res) (Wb Tb : Nat) (a0 a1 a2 a3 : Value) (t : Ty) (tb : Option Addr) (tc : Nat) (w : World) (hw : W4 w Wb a0 a1 a2 a3) (ht : B4 w Tb (.int .i64 t.op) (.int .i64 t.n) (.string t.name) (.slice tb t.args.length tc))
    (hc : ∀ W, Below w.heap.size w W → Calls Try.prog 18 #[.agg #[a0, a1, a2, a3], .agg #[.int .i64 t.op, .int .i64 t.n, .string t.name, .slice tb t.args.length tc], .int .i64 0] W (KndO ok r W)) :
    Calls Try.prog 17 #[.pointer (some ⟨Wb, 0, none⟩), .pointer (some ⟨Tb, 0, none⟩)] w (PartN (resN r) w) := by
  have HC := Lib.hid hc
  have hb1 : Below w.heap.size w (w.alloc (Obj.cells #[.int .i64 0, .int .i64 0, .string ⟨#[]⟩, .slice none 0 0] 36)) := (Below.refl _ _).alloc (Nat.le_refl _) _
  have HW := Lib.hid ((hb1.block _ (lt_of_block hw)).trans hw)
  have HT := Lib.hid ((hb1.block _ (lt_of_block ht)).trans ht)
  have hr1 : B4 (w.alloc (Obj.cells #[.int .i64 0, .int .i64 0, .string ⟨#[]⟩, .slice none 0 0] 36)) w.heap.size (.int .i64 0) (.int .i64 0) (.string ⟨#[]⟩) (.slice none 0 0) := heap_alloc_new _ _
  have HB1 := Lib.hid hb1
  have HR1 := Lib.hid hr1
  clear hb1 hr1 hw ht hc
  go_enter Try.func17, Try.ntmps17
  go_upto_region 1 with fail
  obtain ⟨W1, hW1⟩ : ∃ W1, W1 = w.alloc (Obj.cells #[.int .i64 0, .int .i64 0, .string ⟨#[]⟩, .slice none 0 0] 36) := ⟨_, rfl⟩
  rw [← hW1] at HB1 HR1 HW HT ⊢
  clear hW1
  obtain ⟨c0, c1, c2, c3⟩ := W4.cells HW.out
  obtain ⟨d0, d1, d2, d3⟩ := B4.cells HT.out
  go_wp2_with fail
  refine (HC.out _ HB1.out).mono ?_
  rintro e w2 ⟨hb2, hor⟩
  rcases hor with ⟨n, hr, hn, rfl⟩ | ⟨k, v2, hr, hgk, rfl, hv2⟩
  · exact ⟨rfl, HB1.out.trans (hb2.mono HB1.out.size), .inr ⟨n, by rw [hr]; rfl, rfl⟩⟩
  have HV2 := Lib.hid hv2.weak
  have HRR := Lib.hid hr
  have HB2 := Lib.hid (HB1.out.trans (hb2.mono HB1.out.size))
  have HR2 := Lib.hid (HR1.out.next hb2)
  clear hb2 hr hv2 hgk c0 c1 c2 c3 d0 d1 d2 d3
  go_wp2_with fail
  refine (anewk_any k _ _ HV2.out).mono ?_
  rintro e w3 ⟨v3, rfl, ⟨b3, c3, rfl, hs3, hl3⟩, hb3⟩
  have HB3 := Lib.hid (HB2.out.trans (hb3.mono HB2.out.size))
  have HR3 := Lib.hid (HR2.out.next hb3)
  have HZ := Lib.hid (lt_of_block HR2.out)
  have HS3 := Lib.hid hs3
  have HL3 := Lib.hid hl3
  clear hb3 hs3 hl3
  obtain ⟨z0, z1, z2, z3⟩ := HR3.out.cells
  have f0 := HR3.out.frozen 0
  have f1 := HR3.out.frozen 1
  have f2 := HR3.out.frozen 2
  have f3 := HR3.out.frozen 3
  go_wp2_with fail
  refine bodyPost_ret (results_ty (a := 2) (by kernel_rfl) (B := w.heap.size) (by rfl) (put4_cells HR3.out _ _ _ _).cells.1 (put4_cells HR3.out _ _ _ _).cells.2.1 (put4_cells HR3.out _ _ _ _).cells.2.2.1 (put4_cells HR3.out _ _ _ _).cells.2.2.2) rfl ?_
  have hz := HZ.out
  refine ⟨below_put4 HB3.out (Nat.le_refl _) _ _ _ _, .inl ⟨anewV k, _, by rw [HRR.out]; rfl, rfl, ⟨b3, c3, rfl, HS3.out, HL3.out.keep (fun g hg => by have : w2.heap.size ≤ g := hg; show w.heap.size ≤ g; omega) (fun p v hp hc => put4_keep _ _ _ _ p v hc (by have : w2.heap.size ≤ p.block := hp; omega))⟩⟩⟩
end Ty
end Go.Proofs.Ytfjgebdpbmnicaa
