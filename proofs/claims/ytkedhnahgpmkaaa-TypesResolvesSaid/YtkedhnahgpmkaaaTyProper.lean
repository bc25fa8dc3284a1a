/- What the reference's proper returns. Conditions: the type lies in memory; the count lies in a box of its own. -/
import Derived.Test.YtkedhnahgpmkaaaTyProp
import Derived.Deep.Cut
namespace Go.Proofs.Ytkedhnahgpmkaaa
open Go.RowKit

namespace Ty
set_option maxHeartbeats 1000000 in
theorem rnumber (n : Int) (v : Bool) (hv : (decide (0 ≤ n) && decide (n ≤ 9999)) = v) (w : World) : Calls Try.prog 25 #[.int .i64 n] w fun e w' => e = .returned (.bool v) ∧ w = w' := by
  subst hv
  cases h1 : decide (0 ≤ n) with
  | false =>
    go_enter Try.func25, Try.ntmps25
    go_wp2_with fail
    go_ret
    exact ⟨rfl, rfl⟩
  | true =>
    go_enter Try.func25, Try.ntmps25
    go_wp2_with fail
    go_ret
    exact ⟨rfl, rfl⟩

set_option maxHeartbeats 8000000 in
theorem prop_over (t : Ty) (v : Value) (d c P0 : Nat) (w w0 : World) (hv : V w0 t v) (hp : PBox w P0 c) (hd : d ≤ 41) (hc : c ≤ 600) (ho : 600 < c + 1 ∨ 40 < d) :
    Calls Try.prog 57 #[v, .int .i64 d, .pointer (some ⟨P0, 0, none⟩)] w (PropP t d c P0 w) := by
  obtain ⟨base, cap, ev, hs, hl⟩ := hv
  subst ev
  have HEQ : Hid (prop t d c = (false, c + 1)) := Lib.hid (by rw [prop_eq, if_pos ho])
  obtain ⟨m1, m2, m3⟩ := prop_enter hp
  obtain ⟨n1, n2, n3⟩ := prop_entered hp (.int .i64 t.op) (.int .i64 t.n) (.string t.name) (.slice base t.args.length cap)
  have HO := Lib.hid ho
  clear hl hs ho hp
  generalize t.args.length = la at *
  generalize hop : t.op = op at *
  generalize hnn : t.n = nn at *
  generalize hna : t.name = na at *
  clear hop hnn hna
  go_enter Try.func57, Try.ntmps57
  go_upto_region 2 with fail
  obtain ⟨wa, hwa⟩ : ∃ wa, wa = (w.setCell ⟨P0, 0, none⟩ (.int .i64 ((c : Int) + 1))).alloc (Obj.cells #[Value.int IntKind.i64 op, Value.int IntKind.i64 nn, Value.string na, Value.slice base la cap] 24) := ⟨_, rfl⟩
  rw [← hwa] at n1 n2 n3 ⊢
  clear hwa m1 m2
  have p0 : wa.cell? ⟨P0, 0, none⟩ = some (.int .i64 ((c : Int) + 1)) := by
    have := cell_of_row wa P0 0 _ 3 (0, 0) n2
    simpa using this
  have N1 := Lib.hid n1
  have N2 := Lib.hid n2
  clear n1 n2 n3
  rcases HO.out with ho | ho
  · have q1 : decide ((600 : Int) < (c : Int) + 1) = true := decide_eq_true (by omega)
    go_wp2_with fail
    go_ret
    exact ⟨ret_bool (by rw [HEQ.out]), N1.out, by rw [HEQ.out]; exact N2.out⟩
  · by_cases h6 : 600 < c + 1
    · have q1 : decide ((600 : Int) < (c : Int) + 1) = true := decide_eq_true (by omega)
      go_wp2_with fail
      go_ret
      exact ⟨ret_bool (by rw [HEQ.out]), N1.out, by rw [HEQ.out]; exact N2.out⟩
    · have q1 : decide ((600 : Int) < (c : Int) + 1) = false := decide_eq_false (by omega)
      go_wp2_with fail
      go_ret
      exact ⟨ret_bool (by rw [HEQ.out]), N1.out, by rw [HEQ.out]; exact N2.out⟩

end Ty
end Go.Proofs.Ytkedhnahgpmkaaa
