/- What the reference's lists of words and signs hold, and what its search in a list returns. Conditions: none. -/
import Derived.Test.YtcedigkknjioeaaRefB
namespace Go.Proofs.Ytcedigkknjioeaa
open Go.RowKit Go.WideMaps Go.Maps

/-- whether a list holds a string -/
def hasL (ls : List (List UInt8)) (x : List UInt8) : Bool := ls.contains x

/-- a new list of strings -/
def SL (ls : List (List UInt8)) (n : Nat) (w : World) (e : Ending) (w' : World) : Prop :=
  e = .returned (.slice (some ⟨w.heap.size, 0, none⟩) n n) ∧ (∀ (j : Nat) (l : List UInt8), ls[j]? = some l → w'.cell? ⟨w.heap.size, j, none⟩ = some (.string ⟨l.toArray⟩)) ∧ Below w.heap.size w w'

theorem sl_of (ls : List (List UInt8)) (n : Nat) (w : World) (cs : Array Value) (hc : cs = (ls.map fun l => Value.string ⟨l.toArray⟩).toArray) (e : Ending) (he : e = .returned (.slice (some ⟨w.heap.size, 0, none⟩) n n)) : SL ls n w e (w.alloc (.cells cs 9)) := by
  refine ⟨he, fun j l hj => ?_, (Below.refl _ _).alloc (Nat.le_refl _) _⟩
  rw [cell_of_row (w.alloc _) w.heap.size j _ 9 (0, 0) (heap_alloc_new w _), hc, List.getElem?_toArray, List.getElem?_map, hj]
  rfl

set_option maxRecDepth 100000 in
theorem rwords (w : World) : Calls Try.prog 21 #[] w (SL Lx.words 21 w) := by
  go_enter Try.func21, Try.ntmps21
  go_wp2_with fail
  go_ret
  exact sl_of Lx.words 21 w #[Value.string { data := #[99, 97, 115, 101] }, Value.string { data := #[99, 108, 97, 115, 115] }, Value.string { data := #[100, 97, 116, 97] }, Value.string { data := #[100, 101, 114, 105, 118, 105, 110, 103] }, Value.string { data := #[100, 111] }, Value.string { data := #[101, 108, 115, 101] }, Value.string { data := #[102, 97, 109, 105, 108, 121] }, Value.string { data := #[102, 111, 114, 97, 108, 108] }, Value.string { data := #[105, 102] }, Value.string { data := #[105, 109, 112, 111, 114, 116] }, Value.string { data := #[105, 110] }, Value.string { data := #[105, 110, 102, 105, 120] }, Value.string { data := #[105, 110, 102, 105, 120, 108] }, Value.string { data := #[105, 110, 102, 105, 120, 114] }, Value.string { data := #[105, 110, 115, 116, 97, 110, 99, 101] }, Value.string { data := #[108, 101, 116] }, Value.string { data := #[109, 111, 100, 117, 108, 101] }, Value.string { data := #[110, 101, 119, 116, 121, 112, 101] }, Value.string { data := #[111, 102] }, Value.string { data := #[116, 104, 101, 110] }, Value.string { data := #[119, 104, 101, 114, 101] }] rfl _ rfl

set_option maxRecDepth 100000 in
theorem rruns (w : World) : Calls Try.prog 44 #[] w (SL Lx.runSigns 11 w) := by
  go_enter Try.func44, Try.ntmps44
  go_wp2_with fail
  go_ret
  exact sl_of Lx.runSigns 11 w #[Value.string { data := #[61] }, Value.string { data := #[45, 62] }, Value.string { data := #[61, 62] }, Value.string { data := #[60, 45] }, Value.string { data := #[58] }, Value.string { data := #[124] }, Value.string { data := #[92] }, Value.string { data := #[64] }, Value.string { data := #[126] }, Value.string { data := #[33] }, Value.string { data := #[46] }] rfl _ rfl

set_option maxRecDepth 100000 in
theorem rbytes (w : World) : Calls Try.prog 58 #[] w (SL Lx.byteSigns 8 w) := by
  go_enter Try.func58, Try.ntmps58
  go_wp2_with fail
  go_ret
  exact sl_of Lx.byteSigns 8 w #[Value.string { data := #[40] }, Value.string { data := #[41] }, Value.string { data := #[123] }, Value.string { data := #[125] }, Value.string { data := #[44] }, Value.string { data := #[59] }, Value.string { data := #[95] }, Value.string { data := #[39] }] rfl _ rfl

theorem no_upto {ls : List (List UInt8)} {x : List UInt8} {k : Nat} (hk : ls.length ≤ k) (h : ∀ j, j < k → ls[j]? ≠ some x) : hasL ls x = false := by
  unfold hasL
  rw [Bool.eq_false_iff, Ne, List.contains_iff_mem]
  intro hm
  obtain ⟨j, hj⟩ := List.getElem?_of_mem hm
  have hj2 : j < ls.length := by
    rcases Nat.lt_or_ge j ls.length with h | h
    · exact h
    · rw [List.getElem?_eq_none h] at hj
      cases hj
  exact h j (by omega) hj

set_option maxHeartbeats 1000000 in
theorem rhas (ls : List (List UInt8)) (s : ByteArray) (g n cap : Nat) (w : World) (hn : n = ls.length) (h21 : n ≤ 1000) (hC : ∀ (j : Nat) (l : List UInt8), ls[j]? = some l → w.cell? ⟨g, j, none⟩ = some (.string ⟨l.toArray⟩)) :
    Calls Try.prog 39 #[.slice (some ⟨g, 0, none⟩) n cap, .string s] w fun e w' => e = .returned (.bool (hasL ls s.data.toList)) ∧ w = w' := by
  have HC := Lib.hid hC
  have HN := Lib.hid hn
  clear hC hn
  go_enter Try.func39, Try.ntmps39
  go_wp2_with fail
  go_loop [9] (fun i => ∃ k : Nat, k ≤ n ∧ i = .int .i64 k ∧ ∀ j, j < k → ls[j]? ≠ some s.data.toList) (fun i => n - (intOf i).toNat)
  case atStart => exact ⟨0, Nat.zero_le _, rfl, fun j hj => absurd hj (Nat.not_lt_zero _)⟩
  case round =>
    obtain ⟨k, hk, rfl, hno⟩ := hrel
    have HNO := Lib.hid hno
    clear hno
    by_cases hlt : k < n
    · have hgl : k < ls.length := by have := HN.out; omega
      obtain ⟨l, hl⟩ : ∃ l, ls[k]? = some l := ⟨ls[k]'hgl, List.getElem?_eq_getElem _⟩
      obtain ⟨x, hx⟩ : ∃ x : ByteArray, x = ⟨l.toArray⟩ := ⟨_, rfl⟩
      have hc : w.cell? ⟨g, k, none⟩ = some (.string x) := by rw [hx]; exact HC.out k l hl
      have hx2 : x.toList = l := by rw [hx, Lib.toList_data]
      have HL := Lib.hid hl
      have HX := Lib.hid hx2
      clear hl hx hx2 hgl
      by_cases hb : l = s.data.toList
      · have hq : (x.toList == s.toList) = true := by rw [HX.out, Lib.toList_data, hb]; simp
        have e : Hid (hasL ls s.data.toList = true) := Lib.hid (by unfold hasL; rw [List.contains_iff_mem, ← hb]; exact List.mem_of_getElem? HL.out)
        clear hb
        go_wp2_with fail
        go_ret
        exact ⟨ret_bool (by rw [e.out]), rfl⟩
      · have hq : (x.toList == s.toList) = false := by rw [HX.out, Lib.toList_data]; simpa using hb
        have HB := Lib.hid hb
        clear hb
        go_wp2_with fail
        go_round
        case rel =>
          refine ⟨k + 1, by omega, by go_num, fun j hj => ?_⟩
          rcases Nat.lt_succ_iff_lt_or_eq.1 hj with h | h
          · exact HNO.out j h
          · subst h
            rw [HL.out]
            intro h2
            injection h2 with h2
            exact HB.out h2
        case measure => simp [intOf]; omega
    · have e := Lib.hid (no_upto (by have := HN.out; omega) HNO.out)
      go_wp2_with fail
      go_ret
      exact ⟨ret_bool (by rw [e.out]), rfl⟩

end Go.Proofs.Ytcedigkknjioeaa
