/- What layer lexis says of one byte: traits, isUpper. Conditions: none. -/
import Derived.Test.YtcedigkknjioeaaProg
import Derived.Test.YtcedigkknjioeaaPlain
import Derived.WalkLawsBesides
import Derived.WalkSpells
import Derived.Lib.Hide
namespace Go.Proofs.Ytcedigkknjioeaa
open Go.RowKit

set_option maxHeartbeats 1000000 in
theorem indexByte_lite (s : ByteArray) (c : Int) (w : World) :
    Calls Try.prog 68 #[.string s, .int .u8 c] w fun e w' => e = .returned (.int .i64 (Lib.indexByte s.data.toList c.toNat.toUInt8)) ∧ w = w' := by
  go_enter Try.func68, Try.ntmps68
  go_wp2
  rw [run_callFunc_extern Try.func84 (by kernel_rfl) (by kernel_rfl) (by kernel_rfl) (e := Extern.BytealgIndexByte.indexByte) (by kernel_rfl), Lib.run_indexByteString]
  simp only [Result.andThen]
  rw [Oper.upon_value]
  go_wp2
  go_ret
  exact ⟨rfl, rfl⟩

theorem indexByte_any (s : ByteArray) (c : Int) (w : World) :
    Calls Try.prog 52 #[.string s, .int .u8 c] w fun e w' => e = .returned (.int .i64 (Lib.indexByte s.data.toList c.toNat.toUInt8)) ∧ w = w' := by
  go_enter Try.func52, Try.ntmps52
  go_wp2_with (go_at_call 68; refine (indexByte_lite _ _ _).mono ?_; rintro e w' ⟨rfl, rfl⟩)
  go_ret
  exact ⟨rfl, rfl⟩

namespace Lx
theorem idx_op (b : UInt8) : Lib.indexByte opBytes b = if opB b then Lib.indexByte opBytes b else -1 := by
  have h : ∀ n, n < 256 → Lib.indexByte opBytes (UInt8.ofNat n) = if opB (UInt8.ofNat n) then Lib.indexByte opBytes (UInt8.ofNat n) else -1 := by decide +kernel
  simpa using h b.toNat b.toNat_lt
def idxOp (b : UInt8) : Int := Lib.indexByte opBytes b
def idxSp (b : UInt8) : Int := Lib.indexByte spBytes b
theorem idxOp_tab : ∀ n, n < 256 → decide (0 ≤ idxOp (UInt8.ofNat n)) = opB (UInt8.ofNat n) := by decide +kernel
theorem idxSp_tab : ∀ n, n < 256 → decide (0 ≤ idxSp (UInt8.ofNat n)) = spB (UInt8.ofNat n) := by decide +kernel
theorem idxOp_yes {b : UInt8} (h : opB b = true) : 0 ≤ idxOp b := by have := idxOp_tab b.toNat b.toNat_lt; simp only [UInt8.ofNat_toNat, h, decide_eq_true_eq] at this; exact this
theorem idxOp_no {b : UInt8} (h : opB b = false) : idxOp b < 0 := by have := idxOp_tab b.toNat b.toNat_lt; simp [h] at this; omega
theorem idxSp_yes {b : UInt8} (h : spB b = true) : 0 ≤ idxSp b := by have := idxSp_tab b.toNat b.toNat_lt; simp only [UInt8.ofNat_toNat, h, decide_eq_true_eq] at this; exact this
theorem idxSp_no {b : UInt8} (h : spB b = false) : idxSp b < 0 := by have := idxSp_tab b.toNat b.toNat_lt; simp [h] at this; omega
end Lx

theorem idx_ops (b : UInt8) (w : World) : Calls Try.prog 52 #[.string { data := #[33, 35, 36, 37, 38, 42, 43, 46, 47, 60, 61, 62, 63, 64, 94, 124, 45, 126, 58, 92] }, .int .u8 b.toNat] w fun e w' => e = .returned (.int .i64 (Lx.idxOp b)) ∧ w = w' :=
  (indexByte_any _ _ _).mono fun e w' ⟨h1, h2⟩ => ⟨by rw [h1]; simp [Lx.idxOp, Lx.opBytes], h2⟩
theorem idx_sps (b : UInt8) (w : World) : Calls Try.prog 52 #[.string { data := #[32, 9, 10, 13] }, .int .u8 b.toNat] w fun e w' => e = .returned (.int .i64 (Lx.idxSp b)) ∧ w = w' :=
  (indexByte_any _ _ _).mono fun e w' ⟨h1, h2⟩ => ⟨by rw [h1]; simp [Lx.idxSp, Lx.spBytes], h2⟩

theorem ret_int {k : IntKind} {a b : Int} (h : a = b) : Ending.returned (.int k a) = .returned (.int k b) := by rw [h]
theorem ret_bool {a b : Bool} (h : a = b) : Ending.returned (.bool a) = .returned (.bool b) := by rw [h]

theorem or7 : bits .or .i64 (bits .or .i64 (bits .or .i64 0 1) 2) 4 = 7 := by decide +kernel
theorem or6 : bits .or .i64 (bits .or .i64 0 2) 4 = 6 := by decide +kernel
theorem or4 : bits .or .i64 0 4 = 4 := by decide +kernel
theorem or8 : bits .or .i64 0 8 = 8 := by decide +kernel
theorem or16 : bits .or .i64 0 16 = 16 := by decide +kernel

set_option maxHeartbeats 1000000 in
theorem traits_up (b : UInt8) (w : World) (h1 : 65 ≤ b.toNat) (h2 : b.toNat ≤ 90) : Calls Try.prog 53 #[.int .u8 b.toNat] w fun e w' => e = .returned (.int .i64 (Lx.tr b)) ∧ w = w' := by
  have e : Hid (Lx.tr b = 7) := Lib.hid (by simp [Lx.tr, h1, h2])
  go_enter Try.func53, Try.ntmps53
  go_wp2_with fail
  go_ret
  exact ⟨ret_int (by rw [e.out]; exact or7), rfl⟩

set_option maxHeartbeats 1000000 in
theorem traits_lo (b : UInt8) (w : World) (h1 : 97 ≤ b.toNat) (h2 : b.toNat ≤ 122) : Calls Try.prog 53 #[.int .u8 b.toNat] w fun e w' => e = .returned (.int .i64 (Lx.tr b)) ∧ w = w' := by
  have e : Hid (Lx.tr b = 6) := Lib.hid (by unfold Lx.tr; rw [if_neg (by omega), if_pos (by omega)])
  go_enter Try.func53, Try.ntmps53
  go_wp2_with fail
  go_ret
  exact ⟨ret_int (by rw [e.out]; exact or6), rfl⟩

set_option maxHeartbeats 1000000 in
theorem traits_dg (b : UInt8) (w : World) (h1 : 48 ≤ b.toNat) (h2 : b.toNat ≤ 57) : Calls Try.prog 53 #[.int .u8 b.toNat] w fun e w' => e = .returned (.int .i64 (Lx.tr b)) ∧ w = w' := by
  have e : Hid (Lx.tr b = 4) := Lib.hid (by unfold Lx.tr; rw [if_neg (by omega), if_neg (by omega), if_pos (by omega)])
  go_enter Try.func53, Try.ntmps53
  go_wp2_with fail
  go_ret
  exact ⟨ret_int (by rw [e.out]; exact or4), rfl⟩

set_option maxHeartbeats 1000000 in
theorem traits_95 (w : World) : Calls Try.prog 53 #[.int .u8 95] w fun e w' => e = .returned (.int .i64 4) ∧ w = w' := by
  go_enter Try.func53, Try.ntmps53
  go_wp2_with fail
  go_ret
  exact ⟨ret_int or4, rfl⟩
set_option maxHeartbeats 1000000 in
theorem traits_39 (w : World) : Calls Try.prog 53 #[.int .u8 39] w fun e w' => e = .returned (.int .i64 4) ∧ w = w' := by
  go_enter Try.func53, Try.ntmps53
  go_wp2_with fail
  go_ret
  exact ⟨ret_int or4, rfl⟩

set_option maxHeartbeats 2000000 in
theorem traits_rest (b : UInt8) (w : World) (h1 : b.toNat < 65 ∨ 90 < b.toNat) (h2 : b.toNat < 97 ∨ 122 < b.toNat) (h3 : b.toNat < 48 ∨ 57 < b.toNat) (h4 : b.toNat < 95 ∨ 95 < b.toNat) (h5 : b.toNat < 39 ∨ 39 < b.toNat) :
    Calls Try.prog 53 #[.int .u8 b.toNat] w fun e w' => e = .returned (.int .i64 (Lx.tr b)) ∧ w = w' := by
  have e : Hid (Lx.tr b = if Lx.opB b then 8 else if Lx.spB b then 16 else 0) := Lib.hid (by unfold Lx.tr; rw [if_neg (by omega), if_neg (by omega), if_neg (by omega)]; rfl)
  by_cases ho : Lx.opB b = true
  · have i1 := Lx.idxOp_yes ho
    have e2 : Hid (Lx.tr b = 8) := Lib.hid (by rw [e.out, if_pos ho])
    clear e ho
    go_enter Try.func53, Try.ntmps53
    go_wp2_with (go_at_call 52; refine (idx_ops _ _).mono ?_; rintro e w' ⟨rfl, rfl⟩)
    all_goals (go_ret; exact ⟨ret_int (by rw [e2.out]; exact or8), rfl⟩)
  · have i1 := Lx.idxOp_no (by simpa using ho)
    by_cases hs : Lx.spB b = true
    · have i2 := Lx.idxSp_yes hs
      have e2 : Hid (Lx.tr b = 16) := Lib.hid (by rw [e.out, if_neg ho, if_pos hs])
      clear e ho hs
      go_enter Try.func53, Try.ntmps53
      go_wp2_with fail
      all_goals (refine (idx_ops _ _).mono ?_; rintro e w' ⟨rfl, rfl⟩; go_wp2_with fail)
      all_goals (refine (idx_sps _ _).mono ?_; rintro e w' ⟨rfl, rfl⟩; go_wp2_with fail)
      all_goals (go_ret; exact ⟨ret_int (by rw [e2.out]; exact or16), rfl⟩)
    · have i2 := Lx.idxSp_no (by simpa using hs)
      have e2 : Hid (Lx.tr b = 0) := Lib.hid (by rw [e.out, if_neg ho, if_neg hs])
      clear e ho hs
      go_enter Try.func53, Try.ntmps53
      go_wp2_with fail
      all_goals (refine (idx_ops _ _).mono ?_; rintro e w' ⟨rfl, rfl⟩; go_wp2_with fail)
      all_goals (refine (idx_sps _ _).mono ?_; rintro e w' ⟨rfl, rfl⟩; go_wp2_with fail)
      all_goals (go_ret; exact ⟨ret_int (by rw [e2.out]), rfl⟩)

theorem traits_any (b : UInt8) (w : World) : Calls Try.prog 53 #[.int .u8 b.toNat] w fun e w' => e = .returned (.int .i64 (Lx.tr b)) ∧ w = w' := by
  by_cases h1 : 65 ≤ b.toNat ∧ b.toNat ≤ 90
  · exact traits_up b w h1.1 h1.2
  by_cases h2 : 97 ≤ b.toNat ∧ b.toNat ≤ 122
  · exact traits_lo b w h2.1 h2.2
  by_cases h3 : 48 ≤ b.toNat ∧ b.toNat ≤ 57
  · exact traits_dg b w h3.1 h3.2
  by_cases h4 : b = 95
  · subst h4
    exact traits_95 w
  by_cases h5 : b = 39
  · subst h5
    exact traits_39 w
  have n4 : b.toNat ≠ 95 := fun h => h4 (by rw [← UInt8.toNat_inj]; exact h)
  have n5 : b.toNat ≠ 39 := fun h => h5 (by rw [← UInt8.toNat_inj]; exact h)
  exact traits_rest b w (by omega) (by omega) (by omega) (by omega) (by omega)

set_option maxHeartbeats 1000000 in
theorem isUpper_any (b : UInt8) (w : World) : Calls Try.prog 35 #[.int .u8 b.toNat] w fun e w' => e = .returned (.bool (Lx.upB b)) ∧ w = w' := by
  have e := Lib.hid (Lx.hasT_bits b 1 (by simp))
  go_enter Try.func35, Try.ntmps35
  go_wp2_with (go_at_call 53; refine (traits_any _ _).mono ?_; rintro e w' ⟨rfl, rfl⟩)
  go_ret
  exact ⟨ret_bool (by rw [e.out]; simp [Lx.hasT]), rfl⟩

end Go.Proofs.Ytcedigkknjioeaa
