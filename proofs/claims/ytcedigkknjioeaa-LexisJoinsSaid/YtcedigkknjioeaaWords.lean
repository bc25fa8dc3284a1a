/- What wordSet returns: a new map that holds the words; what a look-up in it gives. Conditions: none. -/
import Derived.Test.YtcedigkknjioeaaLength
import Derived.Maps.OwnOps
import Derived.Maps.OwnSet
namespace Go.Proofs.Ytcedigkknjioeaa
open Go.RowKit Go.WideMaps Go.Maps

theorem keys : Keyed Try.prog 9 := string_keyed Try.underlying9

def lits (n : Nat) : List Lit := (Lx.words.take n).map Lit.string
def wset (n : Nat) : DataW Unit := setOf (.lit (.bool true)) (lits n)

theorem fold_at (l : List UInt8) (z : DataW Unit) : ∀ (ls : List (List UInt8)) (D : DataW Unit), IsMap D →
    ((ls.map Lit.string).foldl (fun m x => m.put x (.lit (.bool true))) D).atKey (.string l) z = if ls.contains l then .lit (.bool true) else D.atKey (.string l) z
  | [], D, _ => by simp
  | x :: ls, D, hD => by
    rw [List.map_cons, List.foldl_cons, fold_at l z ls _ (hD.put _ _)]
    by_cases hx : l = x
    · subst hx
      rw [atKey_put_same hD (k := .string l) (by simp [WideAt.IsKeyLit])]
      simp
    · rw [atKey_put_other (by intro h; injection h with h; exact hx h)]
      have : (x :: ls).contains l = ls.contains l := by
        rw [Bool.eq_iff_iff, List.contains_iff_mem, List.contains_iff_mem]
        simp [hx]
      rw [this]

theorem wset_at (l : List UInt8) : (wset 21).atKey (.string l) (.lit (.bool false)) = .lit (.bool (Lx.words.contains l)) := by
  have e : wset 21 = (Lx.words.map Lit.string).foldl (fun m x => m.put x (.lit (.bool true))) (.map []) := rfl
  rw [e, fold_at l _ _ _ isMap_empty]
  cases Lx.words.contains l <;> rfl

/-- block b is a map that holds the first n words; below the heap of w0 nothing has turned -/
def WS (w0 w : World) (b n : Nat) : Prop := w.ownsMap Try.prog 9 (plainElem Try.prog 4) b n (wset n) ∧ Below w0.heap.size w0 w ∧ w0.heap.size ≤ b

theorem wpList_word {w0 w : World} {ops : Array Oper} {rest : List Oper} {o : Oper} {a : Act} {Q : Exit → Act → World → Prop}
    (hg : o.guard = none) (m x v : Operand) (hop : o.op = Op.insert 48 m x v) (b n : Nat) (hm : a.eval m = .map (some b)) (hws : WS w0 w b n)
    (s : ByteArray) (hx : a.eval x = .string s) (hv : a.eval v = .bool true) (hk : Lx.words[n]? = some s.data.toList)
    (hK : ∀ w', WS w0 w' b (n + 1) → wpList Try.prog ops Q rest (a.put o.dst undef) w') :
    wpList Try.prog ops Q (o :: rest) a w := by
  refine wpList_plain hg fun K' hK' => ?_
  have hlt : n < 21 := by
    rcases Nat.lt_or_ge n 21 with h | h
    · exact h
    · rw [List.getElem?_eq_none h] at hk
      cases hk
  have hsz : s.size ≤ maxLen := by
    have hm : s.data.toList ∈ Lx.words := List.mem_of_getElem? hk
    have h2 : ∀ l ∈ Lx.words, l.length ≤ 8 := by decide
    have h3 := h2 _ hm
    rw [Lx.size_list] at h3
    unfold maxLen
    omega
  obtain ⟨w', hrun, r1, r2⟩ := hws.1.update keys Try.underlying48 (by unfold maxLen; omega) (keyOf_string_mk Try.underlying9 hsz) (plainElem_bool Try.underlying4 true)
  unfold Oper.wp
  simp [execOp, hop, hm, hx, hv, hrun, Result.andThen]
  refine hK' _ _ (hK w' ⟨?_, hws.2.1.grown r2 hws.2.1.size (fun j hj => by cases hj; exact hws.2.2), hws.2.2⟩)
  have e : wset (n + 1) = (wset n).put (.string s.data.toList) (.lit (.bool true)) := by
    have e1 : lits (n + 1) = lits n ++ [.string s.data.toList] := by
      unfold lits
      rw [List.take_add_one, hk, List.map_append]
      rfl
    unfold wset
    rw [e1, setOf_snoc]
  rw [e]
  exact r1

set_option maxRecDepth 100000 in
set_option maxHeartbeats 2000000 in
theorem wordSet_any (w : World) :
    Calls Try.prog 26 #[] w fun e w' => e = .returned (.map (some w.heap.size)) ∧ WS w w' w.heap.size 21 := by
  have hmm := @run_makeMap Try.prog
  have h0 : WS w (w.alloc (.map #[] 0)) w.heap.size 0 := ⟨World.ownsMap_made _ _ _ _, (Below.refl _ _).alloc (Nat.le_refl _) _, Nat.le_refl _⟩
  go_enter Try.func26, Try.ntmps26
  go_wp2_with (refine wpList_word rfl _ _ _ rfl _ _ rfl (by assumption) _ rfl rfl (by decide) ?_; intro w1 hws1)
  go_ret
  exact ⟨rfl, by assumption⟩

theorem plainElem_bool_inv {P : Program} {e : TypeId} (he : P.underlying e = some .bool) {v : Value} {z : DataW Unit × List MemPlace} (h : plainElem P e v = some z) : ∃ x, v = .bool x ∧ z = (.lit (.bool x), []) := by
  unfold plainElem at h
  rw [he] at h
  cases v <;> simp at h
  exact ⟨_, rfl, h.symm⟩

theorem lookup_run {w : World} {b : Nat} (h : w.ownsMap Try.prog 9 (plainElem Try.prog 4) b 21 (wset 21)) (s : ByteArray) (hs : s.size ≤ maxLen) :
    (Instr.lookup 48 (.map (some b)) (.string s) false).run Try.prog w = .ok (.bool (Lx.words.contains s.data.toList)) w := by
  obtain ⟨v, ps, hrun, hv⟩ := h.lookup keys Try.underlying48 (z := .bool false) (zd := .lit (.bool false)) (zp := []) (by kernel_rfl) (plainElem_bool Try.underlying4 false) (keyOf_string_mk Try.underlying9 hs)
  rw [wset_at] at hv
  generalize Lx.words.contains s.data.toList = c at hv ⊢
  obtain ⟨x, rfl, hx⟩ := plainElem_bool_inv Try.underlying4 hv
  have h2 : c = x := by simpa using congrArg Prod.fst hx
  rw [h2, hrun]

set_option maxHeartbeats 4000000 in
theorem kindOf_any {w : World} {b : Nat} (h : w.ownsMap Try.prog 9 (plainElem Try.prog 4) b 21 (wset 21)) (s : ByteArray) (hs : s.size ≤ maxLen) :
    Calls Try.prog 30 #[.map (some b), .string s] w fun e w' => e = .returned (.int .i64 (Lx.kind s.data.toList)) ∧ w = w' := by
  have hr := lookup_run h s hs
  clear h
  cases h1 : Lx.words.contains s.data.toList with
  | true =>
    have e : Hid (Lx.kind s.data.toList = 6) := Lib.hid (by unfold Lx.kind; rw [if_pos h1])
    rw [h1] at hr
    clear h1
    go_enter Try.func30, Try.ntmps30
    go_wp2_with fail
    go_ret
    exact ⟨ret_int (by rw [e.out]), rfl⟩
  | false =>
    rw [h1] at hr
    cases h2 : Lx.isCap s.data.toList with
    | true =>
      have e : Hid (Lx.kind s.data.toList = 2) := Lib.hid (by unfold Lx.kind; rw [if_neg (Bool.eq_false_iff.1 h1), if_pos h2])
      have hc2 : ∀ w, Calls Try.prog 15 #[.string s] w fun e w' => e = .returned (.bool true) ∧ w = w' := fun w => h2 ▸ isCapital_any s w hs
      have H2 := Lib.hid hc2
      clear h1 h2 hc2
      go_enter Try.func30, Try.ntmps30
      go_wp2_with (go_at_call 15; refine (H2.out _).mono ?_; rintro e w' ⟨rfl, rfl⟩)
      go_ret
      exact ⟨ret_int (by rw [e.out]), rfl⟩
    | false =>
      have hc2 : ∀ w, Calls Try.prog 15 #[.string s] w fun e w' => e = .returned (.bool false) ∧ w = w' := fun w => h2 ▸ isCapital_any s w hs
      have H2 := Lib.hid hc2
      clear hc2
      cases h3 : Lx.isNm s.data.toList with
      | true =>
        have e : Hid (Lx.kind s.data.toList = 1) := Lib.hid (by unfold Lx.kind; rw [if_neg (Bool.eq_false_iff.1 h1), if_neg (Bool.eq_false_iff.1 h2), if_pos h3])
        have hc3 : ∀ w, Calls Try.prog 34 #[.string s] w fun e w' => e = .returned (.bool true) ∧ w = w' := fun w => h3 ▸ isName_any s w hs
        have H3 := Lib.hid hc3
        clear h1 h2 h3 hc3
        go_enter Try.func30, Try.ntmps30
        go_wp2_with (first | (go_at_call 15; refine (H2.out _).mono ?_; rintro e w' ⟨rfl, rfl⟩) | (go_at_call 34; refine (H3.out _).mono ?_; rintro e w' ⟨rfl, rfl⟩))
        go_ret
        exact ⟨ret_int (by rw [e.out]), rfl⟩
      | false =>
        have hc3 : ∀ w, Calls Try.prog 34 #[.string s] w fun e w' => e = .returned (.bool false) ∧ w = w' := fun w => h3 ▸ isName_any s w hs
        have H3 := Lib.hid hc3
        clear hc3
        cases h4 : Lx.isNum s.data.toList with
        | true =>
          have e : Hid (Lx.kind s.data.toList = 4) := Lib.hid (by unfold Lx.kind; rw [if_neg (Bool.eq_false_iff.1 h1), if_neg (Bool.eq_false_iff.1 h2), if_neg (Bool.eq_false_iff.1 h3), if_pos h4])
          have hc4 : ∀ w, Calls Try.prog 54 #[.string s] w fun e w' => e = .returned (.bool true) ∧ w = w' := fun w => h4 ▸ isNumber_any s w hs
          have H4 := Lib.hid hc4
          clear h1 h2 h3 h4 hc4
          go_enter Try.func30, Try.ntmps30
          go_wp2_with (first | (go_at_call 15; refine (H2.out _).mono ?_; rintro e w' ⟨rfl, rfl⟩) | (go_at_call 34; refine (H3.out _).mono ?_; rintro e w' ⟨rfl, rfl⟩) | (go_at_call 54; refine (H4.out _).mono ?_; rintro e w' ⟨rfl, rfl⟩))
          go_ret
          exact ⟨ret_int (by rw [e.out]), rfl⟩
        | false =>
          have hc4 : ∀ w, Calls Try.prog 54 #[.string s] w fun e w' => e = .returned (.bool false) ∧ w = w' := fun w => h4 ▸ isNumber_any s w hs
          have H4 := Lib.hid hc4
          clear hc4
          cases h5 : Lx.isSg s.data.toList with
          | true =>
            have e : Hid (Lx.kind s.data.toList = 5) := Lib.hid (by unfold Lx.kind; rw [if_neg (Bool.eq_false_iff.1 h1), if_neg (Bool.eq_false_iff.1 h2), if_neg (Bool.eq_false_iff.1 h3), if_neg (Bool.eq_false_iff.1 h4), if_pos h5])
            have hc5 : ∀ w, Calls Try.prog 43 #[.string s] w fun e w' => e = .returned (.bool true) ∧ w = w' := fun w => h5 ▸ isSign_any s w
            have H5 := Lib.hid hc5
            clear h1 h2 h3 h4 h5 hc5
            go_enter Try.func30, Try.ntmps30
            go_wp2_with (first | (go_at_call 15; refine (H2.out _).mono ?_; rintro e w' ⟨rfl, rfl⟩) | (go_at_call 34; refine (H3.out _).mono ?_; rintro e w' ⟨rfl, rfl⟩) | (go_at_call 54; refine (H4.out _).mono ?_; rintro e w' ⟨rfl, rfl⟩) | (go_at_call 43; refine (H5.out _).mono ?_; rintro e w' ⟨rfl, rfl⟩))
            go_ret
            exact ⟨ret_int (by rw [e.out]), rfl⟩
          | false =>
            have hc5 : ∀ w, Calls Try.prog 43 #[.string s] w fun e w' => e = .returned (.bool false) ∧ w = w' := fun w => h5 ▸ isSign_any s w
            have H5 := Lib.hid hc5
            clear hc5
            cases h6 : Lx.isOpL s.data.toList with
            | true =>
              have e : Hid (Lx.kind s.data.toList = 3) := Lib.hid (by unfold Lx.kind; rw [if_neg (Bool.eq_false_iff.1 h1), if_neg (Bool.eq_false_iff.1 h2), if_neg (Bool.eq_false_iff.1 h3), if_neg (Bool.eq_false_iff.1 h4), if_neg (Bool.eq_false_iff.1 h5), if_pos h6])
              have hc6 : ∀ w, Calls Try.prog 17 #[.string s] w fun e w' => e = .returned (.bool true) ∧ w = w' := fun w => h6 ▸ isOp_any s w hs
              have H6 := Lib.hid hc6
              clear h1 h2 h3 h4 h5 h6 hc6
              go_enter Try.func30, Try.ntmps30
              go_wp2_with (first | (go_at_call 15; refine (H2.out _).mono ?_; rintro e w' ⟨rfl, rfl⟩) | (go_at_call 34; refine (H3.out _).mono ?_; rintro e w' ⟨rfl, rfl⟩) | (go_at_call 54; refine (H4.out _).mono ?_; rintro e w' ⟨rfl, rfl⟩) | (go_at_call 43; refine (H5.out _).mono ?_; rintro e w' ⟨rfl, rfl⟩) | (go_at_call 17; refine (H6.out _).mono ?_; rintro e w' ⟨rfl, rfl⟩))
              go_ret
              exact ⟨ret_int (by rw [e.out]), rfl⟩
            | false =>
              have e : Hid (Lx.kind s.data.toList = 0) := Lib.hid (by unfold Lx.kind; rw [if_neg (Bool.eq_false_iff.1 h1), if_neg (Bool.eq_false_iff.1 h2), if_neg (Bool.eq_false_iff.1 h3), if_neg (Bool.eq_false_iff.1 h4), if_neg (Bool.eq_false_iff.1 h5), if_neg (Bool.eq_false_iff.1 h6)])
              have hc6 : ∀ w, Calls Try.prog 17 #[.string s] w fun e w' => e = .returned (.bool false) ∧ w = w' := fun w => h6 ▸ isOp_any s w hs
              have H6 := Lib.hid hc6
              clear h1 h2 h3 h4 h5 h6 hc6
              go_enter Try.func30, Try.ntmps30
              go_wp2_with (first | (go_at_call 15; refine (H2.out _).mono ?_; rintro e w' ⟨rfl, rfl⟩) | (go_at_call 34; refine (H3.out _).mono ?_; rintro e w' ⟨rfl, rfl⟩) | (go_at_call 54; refine (H4.out _).mono ?_; rintro e w' ⟨rfl, rfl⟩) | (go_at_call 43; refine (H5.out _).mono ?_; rintro e w' ⟨rfl, rfl⟩) | (go_at_call 17; refine (H6.out _).mono ?_; rintro e w' ⟨rfl, rfl⟩))
              go_ret
              exact ⟨ret_int (by rw [e.out]), rfl⟩

end Go.Proofs.Ytcedigkknjioeaa
