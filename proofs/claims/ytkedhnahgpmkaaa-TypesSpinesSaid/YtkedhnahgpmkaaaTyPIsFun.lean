/- What the program's isFunction returns. Conditions: the type lies in memory and is well formed. -/
import Derived.Test.YtkedhnahgpmkaaaTyPApp
namespace Go.Proofs.Ytkedhnahgpmkaaa
open Go.RowKit

namespace Ty
/-- a type is a function's -/
def isFun (t : Ty) : Bool := t.op == 3 && (match t.args with | f :: _ => f.op == 3 && (match f.args with | h :: _ => h.op == 2 && decide (h.s = [45, 62]) | [] => false) | [] => false)
theorem isFun_no {t : Ty} (h : t.op ≠ 3) : isFun t = false := by
  unfold isFun
  rw [show (t.op == 3) = false from by simpa using h]
  rfl
theorem isFun_no2 {n : Int} {s : List UInt8} {f x : Ty} (h : f.op ≠ 3) : isFun (.mk 3 n s [f, x]) = false := by
  unfold isFun
  show ((3 : Int) == 3 && (f.op == 3 && _)) = false
  rw [show (f.op == 3) = false from by simpa using h]
  rfl
theorem isFun_eq {n m : Int} {s q : List UInt8} {h a x : Ty} : isFun (.mk 3 n s [.mk 3 m q [h, a], x]) = (h.op == 2 && decide (h.s = [45, 62])) := rfl
theorem isFun_form {t : Ty} (hg : Good t) (h : isFun t = true) : ∃ k a r, t = .mk 3 0 [] [.mk 3 0 [] [k, a], r] ∧ Good k ∧ Good a ∧ Good r := by
  cases hg with
  | var op n h1 h2 h3 => rw [isFun_no (t := .mk op n [] []) (show op ≠ 3 by omega)] at h; cases h
  | con s h1 h2 => rw [isFun_no (t := .mk 2 0 s []) (show (2 : Int) ≠ 3 by decide)] at h; cases h
  | node op f x hop hf hx =>
    by_cases h3 : op = 3
    · subst h3
      by_cases hf3 : f.op = 3
      · cases hf with
        | var op n h1 h2 h3 => exact absurd hf3 (show op ≠ 3 by omega)
        | con s h1 h2 => exact absurd hf3 (show (2 : Int) ≠ 3 by decide)
        | node op2 k a hop2 hk ha =>
          have e : op2 = 3 := hf3
          subst e
          exact ⟨k, a, x, rfl, hk, ha, hx⟩
      · rw [isFun_no2 hf3] at h; cases h
    · rw [isFun_no (t := .mk op 0 [] [f, x]) (show op ≠ 3 from h3)] at h; cases h

theorem name_is (t : Ty) : (t.name.toList == (⟨#[45, 62]⟩ : ByteArray).toList) = decide (t.s = [45, 62]) := by
  rw [Lib.toList_data, Lib.toList_data]
  unfold Ty.name
  show (t.s.toArray.toList == [45, 62]) = _
  rw [List.toList_toArray]
  by_cases h : t.s = [45, 62]
  · rw [decide_eq_true h, h]; rfl
  · rw [decide_eq_false h]; simpa using h
set_option maxHeartbeats 8000000 in
theorem isfun_any (t : Ty) (hg : Good t) (v : Value) (w : World) (hv : V w t v) : Calls Try.prog 72 #[v] w fun e w' => e = .returned (.bool (isFun t)) ∧ Below w.heap.size w w' := by
  obtain ⟨b, c, ev, _, hsl⟩ := hv
  subst ev
  have hb1 : Below w.heap.size w (w.alloc (Obj.cells #[.int .i64 t.op, .int .i64 t.n, .string t.name, .slice b t.args.length c] 24)) := (Below.refl _ _).alloc (Nat.le_refl _) _
  have ht1 : B4 (w.alloc (Obj.cells #[.int .i64 t.op, .int .i64 t.n, .string t.name, .slice b t.args.length c] 24)) w.heap.size (.int .i64 t.op) (.int .i64 t.n) (.string t.name) (.slice b t.args.length c) := heap_alloc_new _ _
  go_enter Try.func72, Try.ntmps72
  go_upto_region 1 with fail
  obtain ⟨W1, hW1⟩ : ∃ W1, W1 = w.alloc (Obj.cells #[.int .i64 t.op, .int .i64 t.n, .string t.name, .slice b t.args.length c] 24) := ⟨_, rfl⟩
  rw [← hW1] at hb1 ht1 ⊢
  clear hW1
  obtain ⟨b0, _, _, b3⟩ := ht1.cells
  have HB := Lib.hid hb1
  clear ht1 hb1
  by_cases h3 : t.op = 3
  · cases hg with
    | var op n h1 h2 h4 => exact absurd h3 (show op ≠ 3 by omega)
    | con s h1 h2 => exact absurd h3 (show (2 : Int) ≠ 3 by decide)
    | node op f x hop hf hx =>
      have e3 : op = 3 := h3
      subst e3
      rcases hsl.2 with h0 | ⟨g, o, hbg, hrow⟩
      · cases h0
      subst hbg
      obtain ⟨hrf, hrx, _⟩ := hrow
      obtain ⟨fb, fc, f0, f1, f2, f3, hvf⟩ := at_v hrf
      have F0 := keeps HB.out _ _ f0
      have F3 := keeps HB.out _ _ f3
      clear f0 f1 f2 f3 hrx h3 hop
      replace b0 : W1.cell? ⟨w.heap.size, 0, none⟩ = some (.int .i64 3) := b0
      replace b3 : W1.cell? ⟨w.heap.size, 3, none⟩ = some (.slice (some ⟨g, o, none⟩) 2 c) := b3
      by_cases hf3 : f.op = 3
      · cases hf with
        | var op n h1 h2 h4 => exact absurd hf3 (show op ≠ 3 by omega)
        | con s h1 h2 => exact absurd hf3 (show (2 : Int) ≠ 3 by decide)
        | node op2 k a hop2 hk ha =>
          have e3 : op2 = 3 := hf3
          subst e3
          obtain ⟨b2, c2, e2, _, hsl2⟩ := hvf
          simp only [Value.agg.injEq, Array.mk.injEq, List.cons.injEq, Value.slice.injEq, true_and, and_true] at e2
          obtain ⟨e2, -⟩ := e2
          subst e2
          rcases hsl2.2 with h0 | ⟨g2, o2, hbg, hrow2⟩
          · cases h0
          subst hbg
          obtain ⟨hrk, _, _⟩ := hrow2
          obtain ⟨kb, kc, k0, k1, k2, k3, _⟩ := at_v hrk
          have K0 := keeps HB.out _ _ k0
          have K1 := keeps HB.out _ _ k1
          have K2 := keeps HB.out _ _ k2
          have K3 := keeps HB.out _ _ k3
          replace F0 : W1.cell? ⟨g, o, none⟩ = some (.int .i64 3) := F0
          replace F3 : W1.cell? ⟨g, o + 3, none⟩ = some (.slice (some ⟨g2, o2, none⟩) 2 fc) := F3
          have HD := Lib.hid (show isFun (.mk 3 0 [] [.mk 3 0 [] [k, a], x]) = (k.op == 2 && (k.name.toList == (⟨#[45, 62]⟩ : ByteArray).toList)) from by rw [isFun_eq, ← name_is])
          generalize hp : k.op = ko at *
          generalize hn : k.name = kn at *
          generalize k.n = kx at *
          generalize k.args.length = kl at *
          clear k0 k1 k2 k3 hp hn hf3 hop2 hrk hsl2 hrf hsl
          cases q1 : (ko == 2) with
          | false =>
            go_wp2_with fail
            go_ret
            exact ⟨ret_bool (by rw [HD.out]; simp [q1]), HB.out.alloc (by have := HB.out.size; omega) _⟩
          | true =>
            cases q2 : (kn.toList == (⟨#[45, 62]⟩ : ByteArray).toList) with
            | false =>
              go_wp2_with fail
              go_ret
              exact ⟨ret_bool (by rw [HD.out]; simp [q1]), HB.out.alloc (by have := HB.out.size; omega) _⟩
            | true =>
              go_wp2_with fail
              go_ret
              exact ⟨ret_bool (by rw [HD.out]; simp [q1]), HB.out.alloc (by have := HB.out.size; omega) _⟩
      · have HD := Lib.hid (isFun_no2 (n := 0) (s := []) (x := x) hf3)
        generalize f.op = fo at *
        have q1 : (fo != 3) = true := by simpa using hf3
        clear hf3 hvf hrf hsl
        go_wp2_with fail
        go_ret
        exact ⟨ret_bool (by rw [HD.out]), HB.out⟩
  · have HD := Lib.hid (isFun_no h3)
    generalize t.op = to at *
    have q1 : (to != 3) = true := by simpa using h3
    clear h3 hsl
    go_wp2_with fail
    go_ret
    exact ⟨ret_bool (by rw [HD.out]), HB.out⟩
end Ty
end Go.Proofs.Ytkedhnahgpmkaaa
