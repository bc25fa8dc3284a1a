/- What spaceLength and tokenLength return. Conditions: the string is no longer than a string can be; it is not empty (tokenLength). -/
import Derived.Test.YtcedigkknjioeaaSigns
namespace Go.Proofs.Ytcedigkknjioeaa
open Go.RowKit

namespace Lx
theorem ext_end (s : ByteArray) (a : Nat) : (s.extract a s.size).data.toList = s.data.toList.drop a := by
  rw [Lib.extract_data, List.take_of_length_le]
  rw [List.length_drop, size_list]
  exact Nat.le_refl _
def spl (l : List UInt8) : Nat := l.length - (left l false).length
theorem spl_eq {l : List UInt8} {k : Nat} (hk : k ≤ l.length) (h : left l false = l.drop k) : spl l = k := by
  unfold spl
  rw [h, List.length_drop]
  omega
theorem spl_stop {l : List UInt8} {k : Nat} (hk : k ≤ l.length) (h1 : left (l.drop k) false = left l false) (h2 : noSp (l.drop k)) (h3 : isPre (l.drop k) = false) : spl l = k :=
  spl_eq hk (by rw [← h1, left_stop _ h2 h3])
theorem left_pre {l : List UInt8} (h : isPre l = true) : left l false = left l true := by
  obtain ⟨r, rfl⟩ := (isPre_iff l).1 h
  simp [left, spB, spBytes]
theorem spl_all {l : List UInt8} {k : Nat} (h1 : left (l.drop k) false = left l false) (h3 : isPre (l.drop k) = true) (h4 : Lib.indexByte (l.drop k) 10 = -1) : spl l = l.length := by
  unfold spl
  rw [← h1, left_pre h3, left_in_none _ h4]
  simp
theorem space_step {l : List UInt8} {k o : Nat} (h1 : left (l.drop k) false = left l false) (h3 : isPre (l.drop k) = true) (h4 : Lib.indexByte (l.drop k) 10 = o) :
    k + o < l.length ∧ 1 ≤ st 16 (l.drop (k + o)) ∧ k + o + st 16 (l.drop (k + o)) ≤ l.length ∧
    left (l.drop (k + o + st 16 (l.drop (k + o)))) false = left l false ∧ noSp (l.drop (k + o + st 16 (l.drop (k + o)))) := by
  obtain ⟨hg, _⟩ := Lib.indexByte_some h4
  rw [List.getElem?_drop] at hg
  have hlt : k + o < l.length := by
    rcases Nat.lt_or_ge (k + o) l.length with h | h
    · exact h
    · rw [List.getElem?_eq_none h] at hg
      cases hg
  have hd : l.drop (k + o) = 10 :: l.drop (k + o + 1) := by
    rw [List.drop_eq_getElem_cons hlt]
    rw [List.getElem?_eq_getElem hlt] at hg
    injection hg with hg
    rw [hg]
  have h16 : 1 ≤ st 16 (l.drop (k + o)) := by
    rw [hd, st_cons, if_pos (by decide)]
    omega
  have hle := st_le 16 (l.drop (k + o))
  rw [List.length_drop] at hle
  refine ⟨hlt, h16, by omega, ?_, ?_⟩
  · rw [← List.drop_drop, left_space, ← List.drop_drop, ← left_in_some _ o h4, ← left_pre h3, h1]
  · rw [← List.drop_drop]
    exact noSp_drop _
end Lx

theorem idx_nl (s : ByteArray) (w : World) : Calls Try.prog 52 #[.string s, .int .u8 10] w fun e w' => e = .returned (.int .i64 (Lib.indexByte s.data.toList 10)) ∧ w = w' :=
  (indexByte_any _ _ _).mono fun e w' ⟨h1, h2⟩ => ⟨by rw [h1]; rfl, h2⟩

set_option maxHeartbeats 2000000 in
theorem space_any (s : ByteArray) (w : World) (hs : s.size ≤ maxLen) :
    Calls Try.prog 28 #[.string s] w fun e w' => e = .returned (.int .i64 (Lx.spl s.data.toList)) ∧ w = w' := by
  have hs' := hs
  unfold maxLen at hs
  have hx : ∀ k, (s.extract k s.size).size ≤ maxLen := fun k => by have := Lx.size_list (s.extract k s.size); rw [← this, Lx.ext_end, List.length_drop, Lx.size_list]; omega
  have HX := Lib.hid hx
  clear hx
  have hL := Lib.hid (Lx.size_list s)
  have hst0 := Lx.st_le 16 s.data.toList
  rw [hL.out] at hst0
  go_enter Try.func28, Try.ntmps28
  go_wp2_with (go_at_call 41; refine (stretch_any _ _ (by simp) _ hs').mono ?_; rintro e w' ⟨rfl, rfl⟩)
  go_loop [3] (fun i => ∃ k : Nat, k ≤ s.size ∧ i = .int .i64 k ∧ Lx.left (s.data.toList.drop k) false = Lx.left s.data.toList false ∧ Lx.noSp (s.data.toList.drop k)) (fun i => s.size - (intOf i).toNat)
  case atStart => exact ⟨_, hst0, rfl, Lx.left_space _, Lx.noSp_drop _⟩
  case round =>
    obtain ⟨k, hk, rfl, hl, hn⟩ := hrel
    have HL := Lib.hid hl
    have HN := Lib.hid hn
    clear hl hn hst0
    cases hp : Lx.isPre (s.data.toList.drop k) with
    | false =>
      have e := Lib.hid (Lx.spl_stop (by rw [hL.out]; exact hk) HL.out HN.out hp)
      have hc : ∀ w, Calls Try.prog 42 #[.string (s.extract k s.size)] w fun e w' => e = .returned (.bool false) ∧ w = w' := fun w => by
        have := isComment_any (s.extract k s.size) w (HX.out k)
        rw [Lx.ext_end, hp] at this
        exact this
      have HC := Lib.hid hc
      clear hc hp
      go_wp2_with (go_at_call 42; refine (HC.out _).mono ?_; rintro e w' ⟨rfl, rfl⟩)
      go_ret
      exact ⟨ret_int (by rw [e.out]), rfl⟩
    | true =>
      have hc : ∀ w, Calls Try.prog 42 #[.string (s.extract k s.size)] w fun e w' => e = .returned (.bool true) ∧ w = w' := fun w => by
        have := isComment_any (s.extract k s.size) w (HX.out k)
        rw [Lx.ext_end, hp] at this
        exact this
      have HC := Lib.hid hc
      have HP := Lib.hid hp
      clear hc hp
      have hge := Lib.indexByte_ge (s.data.toList.drop k) 10
      by_cases hneg : Lib.indexByte (s.data.toList.drop k) 10 = -1
      · have hi : ∀ w, Calls Try.prog 52 #[.string (s.extract k s.size), .int .u8 10] w fun e w' => e = .returned (.int .i64 (-1)) ∧ w = w' := fun w => by
          have := idx_nl (s.extract k s.size) w
          rw [Lx.ext_end, hneg] at this
          exact this
        have HI := Lib.hid hi
        have e := Lib.hid (Lx.spl_all HL.out HP.out hneg)
        clear hi hneg hge
        go_wp2_with (first | (go_at_call 42; refine (HC.out _).mono ?_; rintro e w' ⟨rfl, rfl⟩) | (go_at_call 52; refine (HI.out _).mono ?_; rintro e w' ⟨rfl, rfl⟩))
        go_ret
        exact ⟨ret_int (by rw [e.out, hL.out]), rfl⟩
      · obtain ⟨o, ho⟩ : ∃ o : Nat, Lib.indexByte (s.data.toList.drop k) 10 = o := ⟨(Lib.indexByte (s.data.toList.drop k) 10).toNat, by omega⟩
        have hi : ∀ w, Calls Try.prog 52 #[.string (s.extract k s.size), .int .u8 10] w fun e w' => e = .returned (.int .i64 o) ∧ w = w' := fun w => by
          have := idx_nl (s.extract k s.size) w
          rw [Lx.ext_end, ho] at this
          exact this
        have HI := Lib.hid hi
        obtain ⟨q1, q2, q3, q4, q5⟩ := Lx.space_step HL.out HP.out ho
        clear hi hneg hge ho
        have Q4 := Lib.hid q4
        have Q5 := Lib.hid q5
        clear q4 q5
        rw [hL.out] at q1 q3
        obtain ⟨r, hr⟩ : ∃ r : Nat, r = Lx.st 16 (s.data.toList.drop (k + o)) := ⟨_, rfl⟩
        have hs2 : ∀ w, Calls Try.prog 41 #[.string (s.extract (k + o) s.size), .int .i64 16] w fun e w' => e = .returned (.int .i64 r) ∧ w = w' := fun w => by
          have := stretch_any (s.extract (k + o) s.size) 16 (by simp) w (HX.out _)
          rw [Lx.ext_end, ← hr] at this
          exact this
        rw [← hr] at q2 q3 Q4 Q5
        have HS2 := Lib.hid hs2
        clear hs2 hr
        go_wp2_with (first | (go_at_call 42; refine (HC.out _).mono ?_; rintro e w' ⟨rfl, rfl⟩) | (go_at_call 52; refine (HI.out _).mono ?_; rintro e w' ⟨rfl, rfl⟩) | (go_at_call 41; refine (HS2.out _).mono ?_; rintro e w' ⟨rfl, rfl⟩))
        go_round
        case rel => exact ⟨k + o + r, by omega, by go_num, Q4.out, Q5.out⟩
        case measure => simp [intOf]; omega

end Go.Proofs.Ytcedigkknjioeaa
