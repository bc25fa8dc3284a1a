/- What the program's Type and binds return for any type. Conditions: the type lies in memory. -/
import Derived.Test.YtkedhnahgpmkaaaTyGood
import Derived.Test.YtkedhnahgpmkaaaTyApply
namespace Go.Proofs.Ytkedhnahgpmkaaa
open Go.RowKit

namespace Ty
theorem box_at {w : World} {t : Ty} {base : Option Addr} {cap : Nat} (hs : t.s.length ≤ maxLen) (hl : Sl w base t.args) : At (w.alloc (Obj.cells #[.int .i64 t.op, .int .i64 t.n, .string t.name, .slice base t.args.length cap] 24)) w.heap.size 0 t := by
  obtain ⟨b0, b1, b2, b3⟩ := box4 w (.int .i64 t.op) (.int .i64 t.n) (.string t.name) (.slice base t.args.length cap)
  exact at_iff.mpr ⟨b0, b1, b2, hs, base, cap, b3, hl.next ((Below.refl _ _).alloc (Nat.le_refl _) _)⟩

set_option maxHeartbeats 2000000 in
theorem ptype_any (t : Ty) (v : Value) (w : World) (hv : V w t v) : Calls Try.prog 53 #[v] w fun e w' => e = .returned (.bool (isProper t)) ∧ Below w.heap.size w w' := by
  obtain ⟨base, cap, ev, hs, hl⟩ := hv
  subst ev
  have hat := box_at (cap := cap) hs hl
  have hcall : ∀ W, Below (w.heap.size + 1) (w.alloc (Obj.cells #[.int .i64 t.op, .int .i64 t.n, .string t.name, .slice base t.args.length cap] 24)) W → PBox W (w.heap.size + 1) 0 → Calls Try.prog 90 #[.pointer (some ⟨w.heap.size, 0, none⟩), .int .i64 1, .pointer (some ⟨w.heap.size + 1, 0, none⟩)] W (PropP t 1 0 (w.heap.size + 1) W) := fun W hb hp =>
    hold_any t _ _ _ 1 0 (w.heap.size + 1) W hat (by simp) (by simpa using hb) hp (by omega) (by omega)
  have HC := Lib.hid hcall
  clear hcall hat hl hs
  unfold PropP at HC
  unfold isProper
  generalize prop t 1 0 = r at *
  generalize t.args.length = la at *
  generalize t.op = op at *
  generalize t.n = nn at *
  generalize t.name = na at *
  have hW : Hid (∀ o1 o2, Below w.heap.size w ((w.alloc o1).alloc o2)) := Lib.hid (fun o1 o2 => ((Below.refl _ _).alloc (Nat.le_refl _) _).alloc (by simp) _)
  go_enter Try.func53, Try.ntmps53
  go_wp2_with fail
  have hpb : PBox ((w.alloc (Obj.cells #[Value.int IntKind.i64 op, Value.int IntKind.i64 nn, Value.string na, Value.slice base la cap] 24)).alloc (Obj.cells #[Value.int IntKind.i64 0] 3)) (w.heap.size + 1) 0 := by
    have := heap_alloc_new (w.alloc (Obj.cells #[Value.int IntKind.i64 op, Value.int IntKind.i64 nn, Value.string na, Value.slice base la cap] 24)) (Obj.cells #[Value.int IntKind.i64 0] 3)
    have e : (w.alloc (Obj.cells #[Value.int IntKind.i64 op, Value.int IntKind.i64 nn, Value.string na, Value.slice base la cap] 24)).heap.size = w.heap.size + 1 := by simp
    rw [e] at this
    exact this
  refine (HC.out _ ((Below.refl _ _).alloc (by simp) _) hpb).mono ?_
  rintro e w2 ⟨rfl, hg, _⟩
  have HB2 := Lib.hid (grown_below (w0 := w) (hW.out _ _) hg (by omega))
  clear hg hpb
  go_wp2_with fail
  go_ret
  exact ⟨rfl, HB2.out⟩

/-! binds -/
set_option maxHeartbeats 4000000 in
theorem binds_first (op nn : Int) (na : ByteArray) (base : Option Addr) (la cap : Nat) (w : World) : Calls Try.prog 123 #[.agg #[.int .i64 op, .int .i64 nn, .string na, .slice base la cap], .int .i64 0] w fun e w' => e = .returned (.int .i64 0) ∧ Below w.heap.size w w' := by
  obtain ⟨b0, b1, b2, b3⟩ := box4 w (.int .i64 op) (.int .i64 nn) (.string na) (.slice base la cap)
  cases h4 : (op == 4) with
  | false =>
    go_enter Try.func123, Try.ntmps123
    go_wp2_with fail
    go_ret
    exact ⟨rfl, (Below.refl _ _).alloc (Nat.le_refl _) _⟩
  | true =>
    go_enter Try.func123, Try.ntmps123
    go_wp2_with fail
    go_ret
    exact ⟨rfl, (Below.refl _ _).alloc (Nat.le_refl _) _⟩
set_option maxHeartbeats 4000000 in
theorem binds_second (op nn : Int) (na : ByteArray) (base : Option Addr) (la cap : Nat) (w : World) : Calls Try.prog 123 #[.agg #[.int .i64 op, .int .i64 nn, .string na, .slice base la cap], .int .i64 1] w fun e w' => e = .returned (.int .i64 (undN op)) ∧ Below w.heap.size w w' := by
  obtain ⟨b0, b1, b2, b3⟩ := box4 w (.int .i64 op) (.int .i64 nn) (.string na) (.slice base la cap)
  by_cases h4 : op = 4
  · have HU : Hid (undN op = 1) := Lib.hid (if_pos h4)
    have q : (op == 4) = true := by simpa using h4
    clear h4
    go_enter Try.func123, Try.ntmps123
    go_wp2_with fail
    go_ret
    exact ⟨ret_int (by rw [HU.out]; rfl), (Below.refl _ _).alloc (Nat.le_refl _) _⟩
  · have HU : Hid (undN op = 0) := Lib.hid (if_neg h4)
    have q : (op == 4) = false := by simpa using h4
    clear h4
    go_enter Try.func123, Try.ntmps123
    go_wp2_with fail
    go_ret
    exact ⟨ret_int (by rw [HU.out]; rfl), (Below.refl _ _).alloc (Nat.le_refl _) _⟩

end Ty
end Go.Proofs.Ytkedhnahgpmkaaa
