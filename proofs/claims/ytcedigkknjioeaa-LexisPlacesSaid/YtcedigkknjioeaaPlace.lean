/- What Place and the reference's Place return; the law LexisPlaces returns true. Conditions: the source is within the reach. -/
import Derived.Test.YtcedigkknjioeaaAwake
namespace Go.Proofs.Ytcedigkknjioeaa
open Go.RowKit Go.WideMaps Go.Maps

namespace Lx
/-- the last place of a newline among the first k bytes, or -1 -/
def lastOf (l : List UInt8) : Nat → Int
  | 0 => -1
  | k + 1 => if l[k]? = some 10 then k else lastOf l k
theorem lastOf_ge (l : List UInt8) : ∀ k, -1 ≤ lastOf l k
  | 0 => by simp [lastOf]
  | k + 1 => by
    have := lastOf_ge l k
    unfold lastOf
    split <;> omega
theorem lastOf_lt (l : List UInt8) : ∀ k : Nat, lastOf l k < k
  | 0 => by simp [lastOf]
  | k + 1 => by
    have := lastOf_lt l k
    unfold lastOf
    split <;> omega
theorem lastOf_take (l : List UInt8) (n : Nat) : ∀ k, k ≤ n → lastOf (l.take n) k = lastOf l k
  | 0, _ => rfl
  | k + 1, h => by
    show (if (l.take n)[k]? = some 10 then (k : Int) else lastOf (l.take n) k) = if l[k]? = some 10 then (k : Int) else lastOf l k
    rw [List.getElem?_take, if_pos (show k < n by omega), lastOf_take l n k (by omega)]
theorem lastOf_hit (s : ByteArray) (k : Nat) (h : k < s.size) (hb : s[k]'h = 10) : lastOf s.data.toList (k + 1) = k := by
  show (if s.data.toList[k]? = some 10 then (k : Int) else _) = _
  rw [List.getElem?_eq_getElem (by rw [size_list]; exact h), get_list s k h, hb, if_pos rfl]
theorem lastOf_miss (s : ByteArray) (k : Nat) (h : k < s.size) (hb : ¬ s[k]'h = 10) : lastOf s.data.toList (k + 1) = lastOf s.data.toList k := by
  show (if s.data.toList[k]? = some 10 then (k : Int) else _) = _
  rw [List.getElem?_eq_getElem (by rw [size_list]; exact h), get_list s k h, if_neg (by simpa using hb)]
def lines (l : List UInt8) (k : Nat) : Nat := (l.take k).count 10
theorem lines_succ (l : List UInt8) (k : Nat) (h : k < l.length) : lines l (k + 1) = lines l k + if l[k] = 10 then 1 else 0 := by
  unfold lines
  rw [List.take_succ_eq_append_getElem h, List.count_append, List.count_singleton]
  simp
theorem lines_le (l : List UInt8) (k : Nat) : lines l k ≤ k := Nat.le_trans (List.count_le_length ..) (List.length_take_le _ _)
end Lx

set_option maxHeartbeats 1000000 in
theorem count_nl (s : ByteArray) (w : World) :
    Calls Try.prog 46 #[.string s, .string ⟨#[10]⟩] w fun e w' => e = .returned (.int .i64 (s.data.toList.count 10 : Nat)) ∧ w = w' := by
  go_enter Try.func46, Try.ntmps46
  go_wp2
  rw [run_callFunc_extern Try.func63 (by kernel_rfl) (by kernel_rfl) (by kernel_rfl) (e := Extern.BytealgCount.count) (by kernel_rfl), Lib.run_countString]
  simp only [Result.andThen]
  rw [Oper.upon_value]
  go_wp2
  go_ret
  exact ⟨rfl, rfl⟩

set_option maxHeartbeats 1000000 in
theorem lastNl (s : ByteArray) (w : World) (hs : s.size ≤ 140737488351232) :
    Calls Try.prog 65 #[.string s, .int .u8 10] w fun e w' => e = .returned (.int .i64 (Lx.lastOf s.data.toList s.size)) ∧ w = w' := by
  go_enter Try.func65, Try.ntmps65
  go_wp2
  go_loop [5] (fun vi => ∃ k : Nat, k ≤ s.size ∧ vi = .int .i64 ((k : Int) - 1) ∧ Hid (Lx.lastOf s.data.toList s.size = Lx.lastOf s.data.toList k)) (fun vi => ((RowKit.intOf vi) + 1).toNat)
  case atStart => exact ⟨s.size, Nat.le_refl _, by first | rfl | go_num, rfl⟩
  case round =>
    obtain ⟨k, hk, rfl, hh⟩ := hrel
    match k, hk, hh with
    | 0, hk, hh =>
      go_wp2
      go_ret
      exact ⟨ret_int (by rw [hh.out]; rfl), rfl⟩
    | k + 1, hk, hh =>
      have hlt : k < s.size := by omega
      have e0 : ((k + 1 : Nat) : Int) - 1 = (k : Int) := by omega
      rw [e0]
      clear e0
      by_cases hb : (s[k]'hlt) = 10
      · have hq : (((s[k]'hlt).toNat : Int) == 10) = true := by rw [show (10 : Int) = ((10 : UInt8).toNat : Int) from rfl, Lx.byte_beq]; simp [hb]
        have hc : Hid (Lx.lastOf s.data.toList (k + 1) = k) := Lib.hid (Lx.lastOf_hit s k hlt hb)
        clear hb
        go_wp2
        go_ret
        exact ⟨ret_int (by rw [hh.out, hc.out]), rfl⟩
      · have hq : (((s[k]'hlt).toNat : Int) == 10) = false := by rw [show (10 : Int) = ((10 : UInt8).toNat : Int) from rfl, Lx.byte_beq]; simp [hb]
        have hc : Hid (Lx.lastOf s.data.toList (k + 1) = Lx.lastOf s.data.toList k) := Lib.hid (Lx.lastOf_miss s k hlt hb)
        clear hb
        go_wp2
        go_round
        case rel => exact ⟨k, by omega, rfl, Lib.hid (hh.out.trans hc.out)⟩
        case measure => simp [RowKit.intOf]

theorem lastNl_any (s : ByteArray) (w : World) (hs : s.size ≤ 140737488351232) :
    Calls Try.prog 47 #[.string s, .int .u8 10] w fun e w' => e = .returned (.int .i64 (Lx.lastOf s.data.toList s.size)) ∧ w = w' := by
  go_enter Try.func47, Try.ntmps47
  go_wp2_with (go_at_call 65; refine (lastNl _ _ hs).mono ?_; rintro e w' ⟨rfl, rfl⟩)
  go_ret
  exact ⟨rfl, rfl⟩

theorem place_bad (s : ByteArray) (a : Int) (w : World) (hs : s.size ≤ 140737488351232) (h : a < 0 ∨ (s.size : Int) < a) :
    Calls Try.prog 22 #[.string s, .int .i64 a] w fun e w' => e = .returned (.tuple #[.int .i64 0, .int .i64 0, .int .i64 2]) ∧ w = w' := by
  rcases h with h | h
  all_goals
    go_enter Try.func22, Try.ntmps22
    go_wp2_with fail
    go_ret3
    exact ⟨rfl, rfl⟩

set_option maxHeartbeats 1000000 in
theorem place_any (s : ByteArray) (a : Nat) (w : World) (hs : s.size ≤ 140737488351232) (ha : a ≤ s.size) :
    Calls Try.prog 22 #[.string s, .int .i64 a] w fun e w' => e = .returned (.tuple #[.int .i64 ((Lx.lines s.data.toList a : Nat) + 1), .int .i64 (a - Lx.lastOf s.data.toList a), .int .i64 0]) ∧ w = w' := by
  have e1 : (s.extract 0 a).data.toList = s.data.toList.take a := by rw [Lib.extract_data]; simp
  have e2 : (s.extract 0 a).size = a := by rw [← Lx.size_list, e1, List.length_take, Lx.size_list]; omega
  have hc : ∀ w, Calls Try.prog 46 #[.string (s.extract 0 a), .string ⟨#[10]⟩] w fun e w' => e = .returned (.int .i64 (Lx.lines s.data.toList a : Nat)) ∧ w = w' := fun w => by
    have := count_nl (s.extract 0 a) w
    rw [e1] at this
    exact this
  have hd : ∀ w, Calls Try.prog 47 #[.string (s.extract 0 a), .int .u8 10] w fun e w' => e = .returned (.int .i64 (Lx.lastOf s.data.toList a)) ∧ w = w' := fun w => by
    have := lastNl_any (s.extract 0 a) w (by omega)
    rw [e1, e2, Lx.lastOf_take _ _ _ (Nat.le_refl _)] at this
    exact this
  have HC := Lib.hid hc
  have HD := Lib.hid hd
  have b1 := Lx.lastOf_ge s.data.toList a
  have b2 := Lx.lastOf_lt s.data.toList a
  have b3 := Lx.lines_le s.data.toList a
  clear hc hd e1 e2
  generalize Lx.lastOf s.data.toList a = x at *
  generalize Lx.lines s.data.toList a = y at *
  go_enter Try.func22, Try.ntmps22
  go_wp2_with (first | (go_at_call 46; refine (HC.out _).mono ?_; rintro e w' ⟨rfl, rfl⟩) | (go_at_call 47; refine (HD.out _).mono ?_; rintro e w' ⟨rfl, rfl⟩))
  go_ret3
  exact ⟨rfl, rfl⟩

theorem rplace_bad (s : ByteArray) (a : Int) (w : World) (hs : s.size ≤ 140737488351232) (h : a < 0 ∨ (s.size : Int) < a) :
    Calls Try.prog 23 #[.string s, .int .i64 a] w fun e w' => e = .returned (.tuple #[.int .i64 0, .int .i64 0, .bool false]) ∧ w = w' := by
  rcases h with h | h
  all_goals
    go_enter Try.func23, Try.ntmps23
    go_wp2_with fail
    go_ret3
    exact ⟨rfl, rfl⟩

set_option maxHeartbeats 1000000 in
theorem rplace_any (s : ByteArray) (a : Nat) (w : World) (hs : s.size ≤ 140737488351232) (ha : a ≤ s.size) :
    Calls Try.prog 23 #[.string s, .int .i64 a] w fun e w' => e = .returned (.tuple #[.int .i64 ((Lx.lines s.data.toList a : Nat) + 1), .int .i64 (a - Lx.lastOf s.data.toList a), .bool true]) ∧ w = w' := by
  go_enter Try.func23, Try.ntmps23
  go_wp2_with fail
  go_loop [7, 8, 19] (fun l c i => ∃ k : Nat, k ≤ a ∧ i = .int .i64 k ∧ l = .int .i64 ((Lx.lines s.data.toList k : Nat) + 1) ∧ c = .int .i64 (k - Lx.lastOf s.data.toList k)) (fun _ _ i => a - (intOf i).toNat)
  case atStart => exact ⟨0, Nat.zero_le _, rfl, rfl, rfl⟩
  case round =>
    obtain ⟨k, hk, rfl, rfl, rfl⟩ := hrel
    have b1 := Lx.lastOf_ge s.data.toList k
    have b2 := Lx.lastOf_lt s.data.toList k
    have b3 := Lx.lines_le s.data.toList k
    by_cases hlt : k < a
    · have hlt2 : k < s.size := by omega
      have e0 := Lib.hid (Lx.lines_succ s.data.toList k (by rw [Lx.size_list]; exact hlt2))
      by_cases hb : (s[k]'hlt2) = 10
      · have hq : (((s[k]'hlt2).toNat : Int) == 10) = true := by rw [show (10 : Int) = ((10 : UInt8).toNat : Int) from rfl, Lx.byte_beq]; simp [hb]
        have hc : Hid (Lx.lastOf s.data.toList (k + 1) = k) := Lib.hid (Lx.lastOf_hit s k hlt2 hb)
        have e1 : Hid (Lx.lines s.data.toList (k + 1) = Lx.lines s.data.toList k + 1) := Lib.hid (by rw [e0.out, if_pos (by rw [get_list s k hlt2]; exact hb)])
        clear hb e0
        go_wp2_with fail
        go_round
        case rel => exact ⟨k + 1, by omega, by go_num, by rw [e1.out]; go_num, by rw [hc.out]; go_num⟩
        case measure => simp [intOf]; omega
      · have hq : (((s[k]'hlt2).toNat : Int) == 10) = false := by rw [show (10 : Int) = ((10 : UInt8).toNat : Int) from rfl, Lx.byte_beq]; simp [hb]
        have hc : Hid (Lx.lastOf s.data.toList (k + 1) = Lx.lastOf s.data.toList k) := Lib.hid (Lx.lastOf_miss s k hlt2 hb)
        have e1 : Hid (Lx.lines s.data.toList (k + 1) = Lx.lines s.data.toList k) := Lib.hid (by rw [e0.out, if_neg (by rw [get_list s k hlt2]; exact hb)]; rfl)
        clear hb e0
        go_wp2_with fail
        go_round
        case rel => exact ⟨k + 1, by omega, by go_num, by rw [e1.out], by rw [hc.out]; go_num⟩
        case measure => simp [intOf]; omega
    · obtain rfl : k = a := by omega
      go_wp2_with fail
      go_ret3
      exact ⟨rfl, rfl⟩

end Go.Proofs.Ytcedigkknjioeaa
