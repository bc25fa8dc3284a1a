/- What the reference's tests of one byte return. Conditions: none. -/
import Derived.Test.YtcedigkknjioeaaAwake
import Derived.Lib.SlBytesConst
namespace Go.Proofs.Ytcedigkknjioeaa
open Go.RowKit Go.WideMaps Go.Maps

theorem rsmall (b : UInt8) (w : World) : Calls Try.prog 37 #[.int .u8 b.toNat] w fun e w' => e = .returned (.bool (Lx.loB b)) ∧ w = w' := by
  have e : Hid (Lx.loB b = (decide ((97 : Int) ≤ b.toNat) && decide ((b.toNat : Int) ≤ 122))) := Lib.hid (by unfold Lx.loB; rw [← Bool.decide_and, decide_eq_decide]; omega)
  by_cases h : 97 ≤ b.toNat
  all_goals
    go_enter Try.func37, Try.ntmps37
    go_wp2_with fail
    go_ret
    exact ⟨ret_bool (by rw [e.out]; simp; omega), rfl⟩

theorem rcapital (b : UInt8) (w : World) : Calls Try.prog 40 #[.int .u8 b.toNat] w fun e w' => e = .returned (.bool (Lx.upB b)) ∧ w = w' := by
  have e : Hid (Lx.upB b = (decide ((65 : Int) ≤ b.toNat) && decide ((b.toNat : Int) ≤ 90))) := Lib.hid (by unfold Lx.upB; rw [← Bool.decide_and, decide_eq_decide]; omega)
  by_cases h : 65 ≤ b.toNat
  all_goals
    go_enter Try.func40, Try.ntmps40
    go_wp2_with fail
    go_ret
    exact ⟨ret_bool (by rw [e.out]; simp; omega), rfl⟩

theorem rdigit (b : UInt8) (w : World) : Calls Try.prog 69 #[.int .u8 b.toNat] w fun e w' => e = .returned (.bool (Lx.dgB b)) ∧ w = w' := by
  have e : Hid (Lx.dgB b = (decide ((48 : Int) ≤ b.toNat) && decide ((b.toNat : Int) ≤ 57))) := Lib.hid (by unfold Lx.dgB; rw [← Bool.decide_and, decide_eq_decide]; omega)
  by_cases h : 48 ≤ b.toNat
  all_goals
    go_enter Try.func69, Try.ntmps69
    go_wp2_with fail
    go_ret
    exact ⟨ret_bool (by rw [e.out]; simp; omega), rfl⟩

set_option maxHeartbeats 1000000 in
theorem rname (b : UInt8) (w : World) : Calls Try.prog 56 #[.int .u8 b.toNat] w fun e w' => e = .returned (.bool (Lx.nmB b)) ∧ w = w' := by
  have q5 : ((b.toNat : Int) == 95) = decide (b.toNat = 95) := Lx.int_beq b.toNat 95
  have q3 : ((b.toNat : Int) == 39) = decide (b.toNat = 39) := Lx.int_beq b.toNat 39
  have e : Hid (Lx.nmB b = (Lx.loB b || (Lx.upB b || (Lx.dgB b || (((b.toNat : Int) == 95) || ((b.toNat : Int) == 39)))))) := Lib.hid (by
    unfold Lx.nmB
    rw [q5, q3]
    cases Lx.upB b <;> cases Lx.loB b <;> cases Lx.dgB b <;> simp)
  clear q5 q3
  have H1 := Lib.hid (rsmall b)
  have H2 := Lib.hid (rcapital b)
  have H3 := Lib.hid (rdigit b)
  generalize Lx.loB b = x at *
  generalize Lx.upB b = y at *
  generalize Lx.dgB b = z at *
  cases x <;> cases y <;> cases z
  all_goals
    cases hq : ((b.toNat : Int) == 95)
    all_goals
      go_enter Try.func56, Try.ntmps56
      go_wp2_with (first | (go_at_call 37; refine (H1.out _).mono ?_; rintro e w' ⟨rfl, rfl⟩) | (go_at_call 40; refine (H2.out _).mono ?_; rintro e w' ⟨rfl, rfl⟩) | (go_at_call 69; refine (H3.out _).mono ?_; rintro e w' ⟨rfl, rfl⟩))
      go_ret
      exact ⟨ret_bool (by rw [e.out]; simp [hq]), rfl⟩

theorem op_at (k : Nat) (h : k < 20) : ∃ x, Lx.opBytes[k]? = some x := ⟨Lx.opBytes[k]'h, List.getElem?_eq_getElem _⟩

set_option maxRecDepth 100000 in
set_option maxHeartbeats 2000000 in
theorem rop (b : UInt8) (w : World) : Calls Try.prog 55 #[.int .u8 b.toNat] w fun e w' => e = .returned (.bool (Lx.opB b)) ∧ Below w.heap.size w w' := by
  have kc := fun (w : World) (C : Array Value) (n c : Nat) => Lib.run_convert_bytes_const (P := Try.prog) w 64 5 C n c Try.underlying64 Try.underlying5
  go_enter Try.func55, Try.ntmps55
  go_wp2_with fail
  obtain ⟨w1, hw1⟩ : ∃ w1, w1 = w.alloc (Obj.cells #[Value.int IntKind.u8 33, Value.int IntKind.u8 35, Value.int IntKind.u8 36, Value.int IntKind.u8 37, Value.int IntKind.u8 38, Value.int IntKind.u8 42, Value.int IntKind.u8 43, Value.int IntKind.u8 46, Value.int IntKind.u8 47, Value.int IntKind.u8 60, Value.int IntKind.u8 61, Value.int IntKind.u8 62, Value.int IntKind.u8 63, Value.int IntKind.u8 64, Value.int IntKind.u8 94, Value.int IntKind.u8 124, Value.int IntKind.u8 45, Value.int IntKind.u8 126, Value.int IntKind.u8 58, Value.int IntKind.u8 92] 5 (20, 21)) := ⟨_, rfl⟩
  rw [← hw1]
  have hB : Hid (Below w.heap.size w w1) := Lib.hid (by rw [hw1]; exact (Below.refl _ _).alloc (Nat.le_refl _) _)
  have hC : Hid (∀ (k : Nat) (x : UInt8), Lx.opBytes[k]? = some x → w1.cell? ⟨w.heap.size, k, none⟩ = some (.int .u8 (x.toNat : Int))) := Lib.hid (by
    intro k x hk
    rw [hw1, cell_of_row (w.alloc _) w.heap.size k _ 5 (20, 21) (heap_alloc_new w _)]
    have e : #[Value.int IntKind.u8 33, Value.int IntKind.u8 35, Value.int IntKind.u8 36, Value.int IntKind.u8 37, Value.int IntKind.u8 38, Value.int IntKind.u8 42, Value.int IntKind.u8 43, Value.int IntKind.u8 46, Value.int IntKind.u8 47, Value.int IntKind.u8 60, Value.int IntKind.u8 61, Value.int IntKind.u8 62, Value.int IntKind.u8 63, Value.int IntKind.u8 64, Value.int IntKind.u8 94, Value.int IntKind.u8 124, Value.int IntKind.u8 45, Value.int IntKind.u8 126, Value.int IntKind.u8 58, Value.int IntKind.u8 92] = (Lx.opBytes.map fun x => Value.int .u8 (x.toNat : Int)).toArray := rfl
    rw [e, List.getElem?_toArray, List.getElem?_map, hk]
    rfl)
  clear hw1
  go_loop [8] (fun i => ∃ k : Nat, k ≤ 20 ∧ i = .int .i64 k ∧ ∀ j, j < k → Lx.opBytes[j]? ≠ some b) (fun i => 20 - (intOf i).toNat)
  case atStart => exact ⟨0, Nat.zero_le _, rfl, fun j hj => absurd hj (Nat.not_lt_zero _)⟩
  case round =>
    obtain ⟨k, hk, rfl, hno⟩ := hrel
    have HN := Lib.hid hno
    clear hno
    by_cases hlt : k < 20
    · obtain ⟨x, hx⟩ := op_at k hlt
      have hc := hC.out k x hx
      have HX := Lib.hid hx
      clear hx
      by_cases hb : b = x
      · have hq : (((b.toNat : Int)) == (x.toNat : Int)) = true := by rw [Lx.byte_beq]; simp [hb]
        have e : Hid (Lx.opB b = true) := Lib.hid (by unfold Lx.opB; rw [List.contains_iff_mem, hb]; exact List.mem_of_getElem? HX.out)
        clear hb
        go_wp2_with fail
        go_ret
        exact ⟨ret_bool (by rw [e.out]), hB.out⟩
      · have hq : (((b.toNat : Int)) == (x.toNat : Int)) = false := by rw [Lx.byte_beq]; simp [hb]
        have HB := Lib.hid hb
        clear hb
        go_wp2_with fail
        go_round
        case rel =>
          refine ⟨k + 1, by omega, by go_num, fun j hj => ?_⟩
          rcases Nat.lt_succ_iff_lt_or_eq.1 hj with h | h
          · exact HN.out j h
          · subst h
            rw [HX.out]
            intro h2
            injection h2 with h2
            exact HB.out h2.symm
        case measure => simp [intOf]; omega
    · have e : Hid (Lx.opB b = false) := Lib.hid (by
        unfold Lx.opB
        rw [Bool.eq_false_iff, Ne, List.contains_iff_mem]
        intro hm
        obtain ⟨j, hj⟩ := List.getElem?_of_mem hm
        have hj2 : j < 20 := by
          rcases Nat.lt_or_ge j 20 with h | h
          · exact h
          · rw [List.getElem?_eq_none h] at hj
            cases hj
        exact HN.out j (by omega) hj)
      go_wp2_with fail
      go_ret
      exact ⟨ret_bool (by rw [e.out]), hB.out⟩

end Go.Proofs.Ytcedigkknjioeaa
