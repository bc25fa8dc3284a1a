/- What kind's first returns, at data types, families, classes and constructors. Conditions: the names lie in memory. -/
import Derived.Test.YtfjgebdpbmnicaaJ24
namespace Go.Proofs.Ytfjgebdpbmnicaa
open Go.RowKit

namespace Ty
theorem seq_isq (a q : List UInt8) : ((⟨a.toArray⟩ : ByteArray).toList == (⟨q.toArray⟩ : ByteArray).toList) = decide (a = q) := by
  rw [Lib.toList_data, Lib.toList_data]
  show (a.toArray.toList == q.toArray.toList) = _
  rw [List.toList_toArray, List.toList_toArray]
  by_cases h : a = q
  · rw [decide_eq_true h, h]; simp
  · rw [decide_eq_false h]; simpa using h
theorem idxB_none {q : List UInt8} : ∀ {ns : List (List UInt8)}, (∀ k (hk : k < ns.length), ns[k]'hk ≠ q) → idxB ns q = none
  | [], _ => rfl
  | a :: ns, h => by
    have h0 : a ≠ q := h 0 (by simp)
    have h1 := idxB_none (ns := ns) (q := q) (fun k hk => h (k + 1) (by simpa using hk))
    unfold idxB at h1 ⊢
    rw [List.findIdx?_cons, h1]
    simp [h0]
theorem idxB_some {q : List UInt8} : ∀ {ns : List (List UInt8)} {j : Nat} (hj : j < ns.length), ns[j]'hj = q → (∀ k (hk : k < ns.length), k < j → ns[k]'hk ≠ q) → idxB ns q = some j
  | a :: ns, 0, _, h, _ => by
    have h0 : a = q := h
    unfold idxB
    rw [List.findIdx?_cons]
    simp [h0]
  | a :: ns, j + 1, hj, h, hb => by
    have h0 : a ≠ q := hb 0 (by simp) (by omega)
    have h1 := idxB_some (ns := ns) (q := q) (j := j) (by simpa using hj) (by simpa using h) (fun k hk hkj => hb (k + 1) (by simpa using hk) (by omega))
    unfold idxB at h1 ⊢
    rw [List.findIdx?_cons, h1]
    simp [h0]
def FirstP (sz : Nat) (base : Option Addr) (ns : List (List UInt8)) (q : List UInt8) (w : World) (e : Ending) (w' : World) : Prop :=
  w' = w ∧ ((idxB ns q = none ∧ e = .returned (.pointer none)) ∨ ∃ i g o, idxB ns q = some i ∧ base = some ⟨g, o, none⟩ ∧ e = .returned (.pointer (some ⟨g, o + i * sz, none⟩)))

set_option maxHeartbeats 2000000 in
theorem name_data (g o : Nat) (s : ByteArray) (w : World) (hc : w.cell? ⟨g, o, none⟩ = some (.string s)) : Calls Try.prog 24 #[.pointer (some ⟨g, o, none⟩)] w fun e w' => e = .returned (.string s) ∧ w' = w := by
  go_enter Try.func24, Try.ntmps24
  go_wp2_with fail
  go_ret
  exact ⟨rfl, rfl⟩
set_option maxHeartbeats 4000000 in
theorem first_data (ns : List (List UInt8)) (q : List UInt8) (base : Option Addr) (cap : Nat) (w : World) (hla : ns.length ≤ maxLen) (hr : ns = [] ∨ ∃ g o, base = some ⟨g, o, none⟩ ∧ ∀ i (h : i < ns.length), w.cell? ⟨g, o + i * 7, none⟩ = some (.string ⟨(ns[i]'h).toArray⟩)) :
    Calls Try.prog 23 #[.slice base ns.length cap, .string ⟨q.toArray⟩, .func (.func 24) #[] #[]] w (FirstP 7 base ns q w) := by
  unfold maxLen at hla
  obtain ⟨n, hn⟩ : ∃ n, n = ns.length := ⟨_, rfl⟩
  rw [← hn] at hla ⊢
  have HN := Lib.hid hn
  have HR := Lib.hid hr
  clear hn hr
  go_enter Try.func23, Try.ntmps23
  go_wp2_with fail
  go_loopw [10] (fun i wr => ∃ j : Nat, j ≤ n ∧ i = .int .i64 j ∧ wr = w ∧ Hid (∀ k (h : k < ns.length), k < j → ns[k]'h ≠ q)) (fun i _ => n - (intOf i).toNat)
  case atStart => exact ⟨0, Nat.zero_le _, rfl, rfl, Lib.hid (fun k _ h => absurd h (Nat.not_lt_zero _))⟩
  case round =>
    obtain ⟨j, hj, rfl, rfl, hall⟩ := hrel
    by_cases hlt : j < n
    · have h1 : j < ns.length := by rw [← HN.out]; exact hlt
      rcases HR.out with h0 | ⟨g, o, rfl, hrow⟩
      · exact absurd h0 (List.ne_nil_of_length_pos (by omega))
      have hc := hrow j h1
      have HC := Lib.hid (name_data g (o + j * 7) ⟨(ns[j]'h1).toArray⟩ _ hc)
      have HY := Lib.hid (fun (h : ns[j]'h1 = q) => idxB_some h1 h hall.out)
      have HT := Lib.hid (fun (h : ns[j]'h1 ≠ q) (k : Nat) (h2 : k < ns.length) (h3 : k < j + 1) => show ns[k]'h2 ≠ q from by
        by_cases hkj : k = j
        · subst hkj; exact h
        · exact hall.out k h2 (by omega))
      obtain ⟨x, hx⟩ : ∃ x, x = ns[j]'h1 := ⟨_, rfl⟩
      rw [← hx] at HC HY HT
      clear hx hc hrow
      by_cases hxq : x = q
      · have hq : (x == q) = true := by simpa using hxq
        have HX := Lib.hid hxq
        clear hxq
        go_wp2_with fail
        refine HC.out.mono ?_
        rintro e w2 ⟨rfl, rfl⟩
        go_wp2_with fail
        go_ret
        unfold FirstP
        exact ⟨rfl, .inr ⟨j, g, o, HY.out HX.out, rfl, rfl⟩⟩
      · have hq : (x == q) = false := by simpa using hxq
        have HX := Lib.hid hxq
        clear hxq
        go_wp2_with fail
        refine HC.out.mono ?_
        rintro e w2 ⟨rfl, rfl⟩
        go_wp2_with fail
        go_roundw
        case rel => exact ⟨j + 1, by omega, by go_num, (by first | rfl | trivial), Lib.hid (HT.out HX.out)⟩
        case measure => simp [intOf]; omega
    · have HT : Hid (idxB ns q = none) := Lib.hid (idxB_none (fun k h => hall.out k h (by have := HN.out; omega)))
      go_wp2_with fail
      go_ret
      unfold FirstP
      exact ⟨rfl, .inl ⟨HT.out, rfl⟩⟩

set_option maxHeartbeats 2000000 in
theorem name_fam (g o : Nat) (s : ByteArray) (w : World) (hc : w.cell? ⟨g, o, none⟩ = some (.string s)) : Calls Try.prog 27 #[.pointer (some ⟨g, o, none⟩)] w fun e w' => e = .returned (.string s) ∧ w' = w := by
  go_enter Try.func27, Try.ntmps27
  go_wp2_with fail
  go_ret
  exact ⟨rfl, rfl⟩
set_option maxHeartbeats 4000000 in
theorem first_fam (ns : List (List UInt8)) (q : List UInt8) (base : Option Addr) (cap : Nat) (w : World) (hla : ns.length ≤ maxLen) (hr : ns = [] ∨ ∃ g o, base = some ⟨g, o, none⟩ ∧ ∀ i (h : i < ns.length), w.cell? ⟨g, o + i * 7, none⟩ = some (.string ⟨(ns[i]'h).toArray⟩)) :
    Calls Try.prog 26 #[.slice base ns.length cap, .string ⟨q.toArray⟩, .func (.func 27) #[] #[]] w (FirstP 7 base ns q w) := by
  unfold maxLen at hla
  obtain ⟨n, hn⟩ : ∃ n, n = ns.length := ⟨_, rfl⟩
  rw [← hn] at hla ⊢
  have HN := Lib.hid hn
  have HR := Lib.hid hr
  clear hn hr
  go_enter Try.func26, Try.ntmps26
  go_wp2_with fail
  go_loopw [10] (fun i wr => ∃ j : Nat, j ≤ n ∧ i = .int .i64 j ∧ wr = w ∧ Hid (∀ k (h : k < ns.length), k < j → ns[k]'h ≠ q)) (fun i _ => n - (intOf i).toNat)
  case atStart => exact ⟨0, Nat.zero_le _, rfl, rfl, Lib.hid (fun k _ h => absurd h (Nat.not_lt_zero _))⟩
  case round =>
    obtain ⟨j, hj, rfl, rfl, hall⟩ := hrel
    by_cases hlt : j < n
    · have h1 : j < ns.length := by rw [← HN.out]; exact hlt
      rcases HR.out with h0 | ⟨g, o, rfl, hrow⟩
      · exact absurd h0 (List.ne_nil_of_length_pos (by omega))
      have hc := hrow j h1
      have HC := Lib.hid (name_fam g (o + j * 7) ⟨(ns[j]'h1).toArray⟩ _ hc)
      have HY := Lib.hid (fun (h : ns[j]'h1 = q) => idxB_some h1 h hall.out)
      have HT := Lib.hid (fun (h : ns[j]'h1 ≠ q) (k : Nat) (h2 : k < ns.length) (h3 : k < j + 1) => show ns[k]'h2 ≠ q from by
        by_cases hkj : k = j
        · subst hkj; exact h
        · exact hall.out k h2 (by omega))
      obtain ⟨x, hx⟩ : ∃ x, x = ns[j]'h1 := ⟨_, rfl⟩
      rw [← hx] at HC HY HT
      clear hx hc hrow
      by_cases hxq : x = q
      · have hq : (x == q) = true := by simpa using hxq
        have HX := Lib.hid hxq
        clear hxq
        go_wp2_with fail
        refine HC.out.mono ?_
        rintro e w2 ⟨rfl, rfl⟩
        go_wp2_with fail
        go_ret
        unfold FirstP
        exact ⟨rfl, .inr ⟨j, g, o, HY.out HX.out, rfl, rfl⟩⟩
      · have hq : (x == q) = false := by simpa using hxq
        have HX := Lib.hid hxq
        clear hxq
        go_wp2_with fail
        refine HC.out.mono ?_
        rintro e w2 ⟨rfl, rfl⟩
        go_wp2_with fail
        go_roundw
        case rel => exact ⟨j + 1, by omega, by go_num, (by first | rfl | trivial), Lib.hid (HT.out HX.out)⟩
        case measure => simp [intOf]; omega
    · have HT : Hid (idxB ns q = none) := Lib.hid (idxB_none (fun k h => hall.out k h (by have := HN.out; omega)))
      go_wp2_with fail
      go_ret
      unfold FirstP
      exact ⟨rfl, .inl ⟨HT.out, rfl⟩⟩

set_option maxHeartbeats 2000000 in
theorem name_cls (g o : Nat) (s : ByteArray) (w : World) (hc : w.cell? ⟨g, o, none⟩ = some (.string s)) : Calls Try.prog 29 #[.pointer (some ⟨g, o, none⟩)] w fun e w' => e = .returned (.string s) ∧ w' = w := by
  go_enter Try.func29, Try.ntmps29
  go_wp2_with fail
  go_ret
  exact ⟨rfl, rfl⟩
set_option maxHeartbeats 4000000 in
theorem first_cls (ns : List (List UInt8)) (q : List UInt8) (base : Option Addr) (cap : Nat) (w : World) (hla : ns.length ≤ maxLen) (hr : ns = [] ∨ ∃ g o, base = some ⟨g, o, none⟩ ∧ ∀ i (h : i < ns.length), w.cell? ⟨g, o + i * 5, none⟩ = some (.string ⟨(ns[i]'h).toArray⟩)) :
    Calls Try.prog 28 #[.slice base ns.length cap, .string ⟨q.toArray⟩, .func (.func 29) #[] #[]] w (FirstP 5 base ns q w) := by
  unfold maxLen at hla
  obtain ⟨n, hn⟩ : ∃ n, n = ns.length := ⟨_, rfl⟩
  rw [← hn] at hla ⊢
  have HN := Lib.hid hn
  have HR := Lib.hid hr
  clear hn hr
  go_enter Try.func28, Try.ntmps28
  go_wp2_with fail
  go_loopw [10] (fun i wr => ∃ j : Nat, j ≤ n ∧ i = .int .i64 j ∧ wr = w ∧ Hid (∀ k (h : k < ns.length), k < j → ns[k]'h ≠ q)) (fun i _ => n - (intOf i).toNat)
  case atStart => exact ⟨0, Nat.zero_le _, rfl, rfl, Lib.hid (fun k _ h => absurd h (Nat.not_lt_zero _))⟩
  case round =>
    obtain ⟨j, hj, rfl, rfl, hall⟩ := hrel
    by_cases hlt : j < n
    · have h1 : j < ns.length := by rw [← HN.out]; exact hlt
      rcases HR.out with h0 | ⟨g, o, rfl, hrow⟩
      · exact absurd h0 (List.ne_nil_of_length_pos (by omega))
      have hc := hrow j h1
      have HC := Lib.hid (name_cls g (o + j * 5) ⟨(ns[j]'h1).toArray⟩ _ hc)
      have HY := Lib.hid (fun (h : ns[j]'h1 = q) => idxB_some h1 h hall.out)
      have HT := Lib.hid (fun (h : ns[j]'h1 ≠ q) (k : Nat) (h2 : k < ns.length) (h3 : k < j + 1) => show ns[k]'h2 ≠ q from by
        by_cases hkj : k = j
        · subst hkj; exact h
        · exact hall.out k h2 (by omega))
      obtain ⟨x, hx⟩ : ∃ x, x = ns[j]'h1 := ⟨_, rfl⟩
      rw [← hx] at HC HY HT
      clear hx hc hrow
      by_cases hxq : x = q
      · have hq : (x == q) = true := by simpa using hxq
        have HX := Lib.hid hxq
        clear hxq
        go_wp2_with fail
        refine HC.out.mono ?_
        rintro e w2 ⟨rfl, rfl⟩
        go_wp2_with fail
        go_ret
        unfold FirstP
        exact ⟨rfl, .inr ⟨j, g, o, HY.out HX.out, rfl, rfl⟩⟩
      · have hq : (x == q) = false := by simpa using hxq
        have HX := Lib.hid hxq
        clear hxq
        go_wp2_with fail
        refine HC.out.mono ?_
        rintro e w2 ⟨rfl, rfl⟩
        go_wp2_with fail
        go_roundw
        case rel => exact ⟨j + 1, by omega, by go_num, (by first | rfl | trivial), Lib.hid (HT.out HX.out)⟩
        case measure => simp [intOf]; omega
    · have HT : Hid (idxB ns q = none) := Lib.hid (idxB_none (fun k h => hall.out k h (by have := HN.out; omega)))
      go_wp2_with fail
      go_ret
      unfold FirstP
      exact ⟨rfl, .inl ⟨HT.out, rfl⟩⟩

set_option maxHeartbeats 2000000 in
theorem name_con (g o : Nat) (s : ByteArray) (w : World) (hc : w.cell? ⟨g, o, none⟩ = some (.string s)) : Calls Try.prog 54 #[.pointer (some ⟨g, o, none⟩)] w fun e w' => e = .returned (.string s) ∧ w' = w := by
  go_enter Try.func54, Try.ntmps54
  go_wp2_with fail
  go_ret
  exact ⟨rfl, rfl⟩
set_option maxHeartbeats 4000000 in
theorem first_con (ns : List (List UInt8)) (q : List UInt8) (base : Option Addr) (cap : Nat) (w : World) (hla : ns.length ≤ maxLen) (hr : ns = [] ∨ ∃ g o, base = some ⟨g, o, none⟩ ∧ ∀ i (h : i < ns.length), w.cell? ⟨g, o + i * 8, none⟩ = some (.string ⟨(ns[i]'h).toArray⟩)) :
    Calls Try.prog 53 #[.slice base ns.length cap, .string ⟨q.toArray⟩, .func (.func 54) #[] #[]] w (FirstP 8 base ns q w) := by
  unfold maxLen at hla
  obtain ⟨n, hn⟩ : ∃ n, n = ns.length := ⟨_, rfl⟩
  rw [← hn] at hla ⊢
  have HN := Lib.hid hn
  have HR := Lib.hid hr
  clear hn hr
  go_enter Try.func53, Try.ntmps53
  go_wp2_with fail
  go_loopw [10] (fun i wr => ∃ j : Nat, j ≤ n ∧ i = .int .i64 j ∧ wr = w ∧ Hid (∀ k (h : k < ns.length), k < j → ns[k]'h ≠ q)) (fun i _ => n - (intOf i).toNat)
  case atStart => exact ⟨0, Nat.zero_le _, rfl, rfl, Lib.hid (fun k _ h => absurd h (Nat.not_lt_zero _))⟩
  case round =>
    obtain ⟨j, hj, rfl, rfl, hall⟩ := hrel
    by_cases hlt : j < n
    · have h1 : j < ns.length := by rw [← HN.out]; exact hlt
      rcases HR.out with h0 | ⟨g, o, rfl, hrow⟩
      · exact absurd h0 (List.ne_nil_of_length_pos (by omega))
      have hc := hrow j h1
      have HC := Lib.hid (name_con g (o + j * 8) ⟨(ns[j]'h1).toArray⟩ _ hc)
      have HY := Lib.hid (fun (h : ns[j]'h1 = q) => idxB_some h1 h hall.out)
      have HT := Lib.hid (fun (h : ns[j]'h1 ≠ q) (k : Nat) (h2 : k < ns.length) (h3 : k < j + 1) => show ns[k]'h2 ≠ q from by
        by_cases hkj : k = j
        · subst hkj; exact h
        · exact hall.out k h2 (by omega))
      obtain ⟨x, hx⟩ : ∃ x, x = ns[j]'h1 := ⟨_, rfl⟩
      rw [← hx] at HC HY HT
      clear hx hc hrow
      by_cases hxq : x = q
      · have hq : (x == q) = true := by simpa using hxq
        have HX := Lib.hid hxq
        clear hxq
        go_wp2_with fail
        refine HC.out.mono ?_
        rintro e w2 ⟨rfl, rfl⟩
        go_wp2_with fail
        go_ret
        unfold FirstP
        exact ⟨rfl, .inr ⟨j, g, o, HY.out HX.out, rfl, rfl⟩⟩
      · have hq : (x == q) = false := by simpa using hxq
        have HX := Lib.hid hxq
        clear hxq
        go_wp2_with fail
        refine HC.out.mono ?_
        rintro e w2 ⟨rfl, rfl⟩
        go_wp2_with fail
        go_roundw
        case rel => exact ⟨j + 1, by omega, by go_num, (by first | rfl | trivial), Lib.hid (HT.out HX.out)⟩
        case measure => simp [intOf]; omega
    · have HT : Hid (idxB ns q = none) := Lib.hid (idxB_none (fun k h => hall.out k h (by have := HN.out; omega)))
      go_wp2_with fail
      go_ret
      unfold FirstP
      exact ⟨rfl, .inl ⟨HT.out, rfl⟩⟩

end Ty
end Go.Proofs.Ytfjgebdpbmnicaa
