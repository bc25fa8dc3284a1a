/- What the program's Spine and Fun return for what is not proper, and what the reference's SameAll returns. Conditions: the types lie in memory. -/
import Derived.Test.YtkedhnahgpmkaaaTyPArgs
namespace Go.Proofs.Ytkedhnahgpmkaaa
open Go.RowKit

namespace Ty
set_option maxHeartbeats 8000000 in
theorem spine_bad (t : Ty) (hp : isProper t = false) (v : Value) (w : World) (hv : V w t v) : Calls Try.prog 32 #[v] w fun e w' => e = .returned (.tuple #[zeroV, .slice none 0 0, .int .i64 2]) ∧ Below w.heap.size w w' := by
  have hty := fun W (hb : Below w.heap.size w W) => ptype_any t v W (hv.next hb)
  rw [hp] at hty
  obtain ⟨b, c, ev, _, _⟩ := hv
  subst ev
  obtain ⟨ht1, ht2⟩ := two_boxes w (.int .i64 t.op) (.int .i64 t.n) (.string t.name) (.slice b t.args.length c) (.int .i64 0) (.int .i64 0) (.string ⟨#[]⟩) (.slice none 0 0)
  have hb2 : Below w.heap.size w ((w.alloc (Obj.cells #[.int .i64 t.op, .int .i64 t.n, .string t.name, .slice b t.args.length c] 24)).alloc (Obj.cells #[.int .i64 0, .int .i64 0, .string ⟨#[]⟩, .slice none 0 0] 24)) := below_two w _ _
  have HT1 := Lib.hid ht1
  have HT2 := Lib.hid ht2
  have HB2 := Lib.hid hb2
  have HC := Lib.hid hty
  clear ht1 ht2 hb2 hty
  go_enter Try.func32, Try.ntmps32
  go_upto_region 1 with fail
  obtain ⟨W2, hW2⟩ : ∃ W2, W2 = (w.alloc (Obj.cells #[.int .i64 t.op, .int .i64 t.n, .string t.name, .slice b t.args.length c] 24)).alloc (Obj.cells #[.int .i64 0, .int .i64 0, .string ⟨#[]⟩, .slice none 0 0] 24) := ⟨_, rfl⟩
  rw [← hW2] at HT1 HT2 HB2 ⊢
  clear hW2
  obtain ⟨c0, c1, c2, c3⟩ := HT1.out.cells
  go_wp2_with fail
  refine (HC.out W2 HB2.out).mono ?_
  rintro e w2 ⟨rfl, hb⟩
  have HR := Lib.hid (HT2.out.next hb)
  have HB := Lib.hid (HB2.out.trans (hb.mono HB2.out.size))
  clear hb c0 c1 c2 c3 HT1 HT2 HB2 HC
  obtain ⟨z0, z1, z2, z3⟩ := HR.out.cells
  have f0 := HR.out.frozen 0
  have f1 := HR.out.frozen 1
  have f2 := HR.out.frozen 2
  have f3 := HR.out.frozen 3
  go_wp2_with fail
  refine bodyPost_ret (results_three (a := 2) (b := 3) (d := 4) (by kernel_rfl) (B := w.heap.size + 1) (by rfl) (by rfl) (by rfl) (put4_cells HR.out _ _ _ _).cells.1 (put4_cells HR.out _ _ _ _).cells.2.1 (put4_cells HR.out _ _ _ _).cells.2.2.1 (put4_cells HR.out _ _ _ _).cells.2.2.2) rfl ?_
  exact ⟨rfl, below_put4 HB.out (by omega) _ _ _ _⟩

set_option maxHeartbeats 8000000 in
theorem pfun_bad (t : Ty) (l : List Ty) (v : Value) (base : Option Addr) (cap : Nat) (w : World) (hv : V w t v) (hl : Sl w base l) (hbad : isProper t = false ∨ propersT l = false) : Calls Try.prog 35 #[.slice base l.length cap, v] w (BadP 2 w) := by
  have hty := fun W (hb : Below w.heap.size w W) => ptype_any t v W (hv.next hb)
  have hli := fun W (hb : Below w.heap.size w W) => plist_any l base cap W (hl.next hb)
  obtain ⟨b, c, ev, _, _⟩ := hv
  subst ev
  obtain ⟨ht3, ht6⟩ := two_boxes w (.int .i64 t.op) (.int .i64 t.n) (.string t.name) (.slice b t.args.length c) (.int .i64 0) (.int .i64 0) (.string ⟨#[]⟩) (.slice none 0 0)
  have hb2 : Below w.heap.size w ((w.alloc (Obj.cells #[.int .i64 t.op, .int .i64 t.n, .string t.name, .slice b t.args.length c] 24)).alloc (Obj.cells #[.int .i64 0, .int .i64 0, .string ⟨#[]⟩, .slice none 0 0] 24)) := below_two w _ _
  have HT3 := Lib.hid ht3
  have HT6 := Lib.hid ht6
  have HB2 := Lib.hid hb2
  have HC := Lib.hid hty
  have HL := Lib.hid hli
  rw [← propersB_eq] at hbad
  clear ht3 ht6 hb2 hty hli hl
  generalize hp : isProper t = p at *
  generalize hq : propersB l = q at *
  have HBAD := Lib.hid hbad
  clear hp hq hbad
  generalize l.length = n at *
  go_enter Try.func35, Try.ntmps35
  go_upto_region 1 with fail
  obtain ⟨W2, hW2⟩ : ∃ W2, W2 = (w.alloc (Obj.cells #[.int .i64 t.op, .int .i64 t.n, .string t.name, .slice b t.args.length c] 24)).alloc (Obj.cells #[.int .i64 0, .int .i64 0, .string ⟨#[]⟩, .slice none 0 0] 24) := ⟨_, rfl⟩
  rw [← hW2] at HT3 HT6 HB2 ⊢
  clear hW2
  obtain ⟨c0, c1, c2, c3⟩ := HT3.out.cells
  cases q with
  | false =>
    clear c0 c1 c2 c3
    go_wp2_with fail
    refine (HL.out W2 HB2.out).mono ?_
    rintro e w2 ⟨rfl, hb⟩
    have HR := Lib.hid (HT6.out.next hb)
    have HB := Lib.hid (HB2.out.trans (hb.mono HB2.out.size))
    clear hb HT3 HT6 HB2
    obtain ⟨z0, z1, z2, z3⟩ := HR.out.cells
    have f0 := HR.out.frozen 0
    have f1 := HR.out.frozen 1
    have f2 := HR.out.frozen 2
    have f3 := HR.out.frozen 3
    go_wp2_with fail
    refine bodyPost_ret (results_two (a := 4) (b := 5) (by kernel_rfl) (B := w.heap.size + 1) (by rfl) (by rfl) (put4_cells HR.out _ _ _ _).cells.1 (put4_cells HR.out _ _ _ _).cells.2.1 (put4_cells HR.out _ _ _ _).cells.2.2.1 (put4_cells HR.out _ _ _ _).cells.2.2.2) rfl ?_
    exact ⟨rfl, below_put4 HB.out (by omega) _ _ _ _⟩
  | true =>
    have hq : p = false := by rcases HBAD.out with h | h; exact h; cases h
    subst hq
    clear c0 c1 c2 c3
    go_wp2_with fail
    refine (HL.out W2 HB2.out).mono ?_
    rintro e w2 ⟨rfl, hb⟩
    have HR := Lib.hid (HT6.out.next hb)
    have HT := Lib.hid (HT3.out.next hb)
    have HB := Lib.hid (HB2.out.trans (hb.mono HB2.out.size))
    clear hb HT3 HT6 HB2
    obtain ⟨c0, c1, c2, c3⟩ := HT.out.cells
    go_wp2_with fail
    refine (HC.out w2 HB.out).mono ?_
    rintro e w3 ⟨rfl, hb⟩
    have HB3 := Lib.hid (HB.out.trans (hb.mono HB.out.size))
    have HR3 := Lib.hid (HR.out.next hb)
    clear hb HR HB c0 c1 c2 c3
    obtain ⟨z0, z1, z2, z3⟩ := HR3.out.cells
    have f0 := HR3.out.frozen 0
    have f1 := HR3.out.frozen 1
    have f2 := HR3.out.frozen 2
    have f3 := HR3.out.frozen 3
    go_wp2_with fail
    refine bodyPost_ret (results_two (a := 4) (b := 5) (by kernel_rfl) (B := w.heap.size + 1) (by rfl) (by rfl) (put4_cells HR3.out _ _ _ _).cells.1 (put4_cells HR3.out _ _ _ _).cells.2.1 (put4_cells HR3.out _ _ _ _).cells.2.2.1 (put4_cells HR3.out _ _ _ _).cells.2.2.2) rfl ?_
    exact ⟨rfl, below_put4 HB3.out (by omega) _ _ _ _⟩

theorem rsameall (a b : List Ty) (ba bb : Option Addr) (ca cb : Nat) (w : World) (ha : Sl w ba a) (hb : Sl w bb b) : Calls Try.prog 39 #[.slice ba a.length ca, .slice bb b.length cb] w fun e w' => e = .returned (.bool (sames a b)) ∧ Below w.heap.size w w' := by
  have HC := Lib.hid (sames_of a b (fun i h => same_any _) ba bb ca cb w ha hb)
  clear ha hb
  go_enter Try.func39, Try.ntmps39
  go_wp2_with fail
  refine HC.out.mono ?_
  rintro e w2 ⟨rfl, hb⟩
  have HB := Lib.hid hb
  clear hb
  go_wp2_with fail
  go_ret
  exact ⟨rfl, HB.out⟩
end Ty
end Go.Proofs.Ytkedhnahgpmkaaa
