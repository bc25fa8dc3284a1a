/- What the reference's add returns: a list of numbers with one more, in its place. Conditions: the list lies in a row of the call's own. -/
import Derived.Test.YtkedhnahgpmkaaaTyInts
import Derived.Test.YtkedhnahgpmkaaaTyAnew
import Derived.Laws.AppendOwnNone
namespace Go.Proofs.Ytkedhnahgpmkaaa
open Go.RowKit

namespace Ty
/-- where a number belongs -/
def posI (l : List Int) (n : Int) : Nat := (l.takeWhile (fun x => decide (x < n))).length
def addI (l : List Int) (n : Int) : List Int := if l[posI l n]? = some n then l else l.take (posI l n) ++ [n] ++ l.drop (posI l n)
theorem pos_eq (n : Int) : ∀ (l : List Int) (j : Nat), j ≤ l.length → (∀ k (h : k < l.length), k < j → l[k]'h < n) → (∀ (h : j < l.length), ¬ l[j]'h < n) → posI l n = j
  | [], j, hj, _, _ => by
    have : j = 0 := by simpa using hj
    subst this; rfl
  | x :: l, 0, _, _, h2 => by
    have := h2 (by simp)
    unfold posI
    rw [List.takeWhile_cons, if_neg (by simpa using this)]
    rfl
  | x :: l, j + 1, hj, h1, h2 => by
    have h0 := h1 0 (by simp) (by omega)
    have := pos_eq n l j (by simpa using hj) (fun k h hk => h1 (k + 1) (by simpa using h) (by omega)) (fun h => h2 (by simpa using h))
    unfold posI at this ⊢
    rw [List.takeWhile_cons, if_pos (by simpa using h0), List.length_cons, this]
theorem addI_hit {l : List Int} {n : Int} {j : Nat} (hp : posI l n = j) (h : l[j]? = some n) : addI l n = l := by unfold addI; rw [hp, if_pos h]
theorem addI_new {l : List Int} {n : Int} {j : Nat} (hp : posI l n = j) (h : l[j]? ≠ some n) : addI l n = l.take j ++ [n] ++ l.drop j := by unfold addI; rw [hp, if_neg h]

abbrev encI : Int → Value := Value.int .i64
theorem info3 : (Try.prog.info? 3).map (fun i => (i.zero, i.size, i.bytes)) = some (some (.int .i64 0), 1, 8) := by kernel_rfl
theorem encI_one (l : List Int) : ∀ u ∈ l.map encI, u.oneCell' = true := by
  intro u hu
  obtain ⟨x, _, rfl⟩ := List.mem_map.mp hu
  rfl
/-- a list of numbers in a row of the call's own -/
def OI (base : Nat) (v : Value) (l : List Int) (w : World) : Prop := w.ownsRow base 3 1 v l.length (l.map encI)
theorem OI.next {base : Nat} {v : Value} {l : List Int} {w w' : World} (h : OI base v l w) (hb : Below w.heap.size w w') : OI base v l w' :=
  World.ownsRow.kept h (grown_of_below (m := none) hb) (by cases v.ownBlock with | none => exact .inl rfl | some k => exact .inr (by simp))
theorem OI.base {b b' : Nat} {v : Value} {l : List Int} {w : World} (h : OI b v l w) (hb : b' ≤ b) : OI b' v l w := by
  obtain ⟨h1, h2⟩ := h
  refine ⟨h1, ?_⟩
  rcases h2 with h2 | ⟨g, cap, cur, e, hg, rest⟩
  · exact .inl h2
  · exact .inr ⟨g, cap, cur, e, Nat.le_trans hb hg, rest⟩
theorem OI.mk {b n : Nat} {v : Value} {l : List Int} {xs : List Value} {w : World} (h : w.ownsRow b 3 1 v n xs) (hn : n = l.length) (hx : xs = l.map encI) : OI b v l w := by subst hn hx; exact h
theorem one_new (n : Int) (w : World) : ∀ (i : Nat) (u : Value), [encI n][i]? = some u → (w.alloc (Obj.cells #[.int .i64 n] 3)).cell? ((⟨w.heap.size, 0, none⟩ : Addr).add i) = some u := by
  intro i u hu
  cases i with
  | zero =>
    injection hu with hu
    subst hu
    exact cell_of_row _ w.heap.size 0 _ 3 (0, 0) (heap_alloc_new w _)
  | succ i => simp at hu
/-- what add leaves -/
def AddP (base : Nat) (l : List Int) (w : World) (e : Ending) (w' : World) : Prop := ∃ v, e = .returned v ∧ OI base v l w' ∧ Below w.heap.size w w'

set_option maxRecDepth 100000 in
set_option maxHeartbeats 8000000 in
theorem add_some (base : Nat) (l : List Int) (g cap : Nat) (n : Int) (w : World) (hown : OI base (.slice (some ⟨g, 0, none⟩) l.length cap) l w) (hl : l.length ≤ cap) (hlen : l.length ≤ 100000) (hbase : base ≤ w.heap.size) :
    Calls Try.prog 99 #[.slice (some ⟨g, 0, none⟩) l.length cap, .int .i64 n] w (AddP base (addI l n) w) := by
  have hcell : ∀ j u, (l.map encI)[j]? = some u → w.cell? ⟨g, j, none⟩ = some u := fun j u h => by
    have := World.ownsRow.cells hown (g := g) rfl j u h
    rwa [Addr.add_lit, Nat.zero_add] at this
  obtain ⟨m, hm⟩ : ∃ m, m = l.length := ⟨_, rfl⟩
  rw [← hm] at hl hlen
  obtain ⟨i0, hi0, hz0, hz1, hz2⟩ := info_parts info3
  have HI0 := Lib.hid hi0
  have HZ0 := Lib.hid hz0
  have HZ1 := Lib.hid hz1
  have HZ2 := Lib.hid hz2
  clear hi0 hz0 hz1 hz2
  have HOWN := Lib.hid hown
  have HC := Lib.hid hcell
  have HM := Lib.hid hm
  rw [← hm]
  clear hown hcell hm
  go_enter Try.func99, Try.ntmps99
  go_wp2_with fail
  go_loop [5] (fun i => ∃ j : Nat, j ≤ m ∧ i = .int .i64 j ∧ Hid (∀ k (h : k < l.length), k < j → l[k]'h < n)) (fun i => m - (intOf i).toNat)
  case atStart => exact ⟨0, Nat.zero_le _, rfl, Lib.hid (fun k _ h => absurd h (Nat.not_lt_zero _))⟩
  case round =>
    obtain ⟨j, hj, rfl, hall⟩ := hrel
    by_cases hlt : j < m
    · have h1 : j < l.length := by rw [← HM.out]; exact hlt
      have c0 := HC.out j (encI (l[j]'h1)) (by rw [List.getElem?_map, List.getElem?_eq_getElem h1]; rfl)
      obtain ⟨x, hx⟩ : ∃ x, x = l[j]'h1 := ⟨_, rfl⟩
      rw [← hx] at c0
      have HX := Lib.hid hx
      clear hx
      by_cases hv : x < n
      · have q1 : decide (x < n) = true := decide_eq_true hv
        have HALL : Hid (∀ k (h : k < l.length), k < j + 1 → l[k]'h < n) := Lib.hid (fun k h hk => by
          by_cases hkj : k = j
          · subst hkj; rw [← HX.out]; exact hv
          · exact hall.out k h (by omega))
        clear hv
        go_wp2_with fail
        go_round
        case rel => exact ⟨j + 1, by omega, by go_num, HALL⟩
        case measure => simp [intOf]; omega
      · have q1 : decide (x < n) = false := decide_eq_false hv
        have HP : Hid (posI l n = j) := Lib.hid (pos_eq n l j (by omega) hall.out (fun h => by rw [← HX.out]; exact hv))
        by_cases he : x = n
        · have q2 : (x == n) = true := by simpa using he
          have HR : Hid (addI l n = l) := Lib.hid (addI_hit HP.out (by rw [List.getElem?_eq_getElem h1, ← HX.out, he]))
          clear hv he
          go_wp2_with fail
          go_ret
          exact ⟨_, rfl, by rw [HR.out]; rw [← HM.out] at HOWN; exact HOWN.out, Below.refl _ _⟩
        · have q2 : (x == n) = false := by simpa using he
          have HR : Hid (addI l n = l.take j ++ [n] ++ l.drop j) := Lib.hid (addI_new HP.out (by rw [List.getElem?_eq_getElem h1, ← HX.out]; intro h; injection h with h; exact he h))
          have hcj : ¬ cap = j := by omega
          clear hv he
          have HT1 : Hid ((l.take j).length = j) := Lib.hid (by rw [List.length_take]; have := HM.out; omega)
          have HT2 : Hid ((l.take j ++ [n]).length = j + 1) := Lib.hid (by rw [List.length_append, HT1.out]; rfl)
          have HT3 : Hid ((l.drop j).length = m - j) := Lib.hid (by rw [List.length_drop, HM.out])
          have TOK1 : Hid True := Lib.hid trivial
          go_wp2_with (first
            | (clear TOK1; at_builtin; go_loud (refine wpList_append_own _ rfl (.tmp 34) (.tmp 37) 25 rfl w.heap.size 3 i0 _ 1 8 Try.underlying25 HI0.out HZ0.out HZ1.out HZ2.out rfl (by omega) _ 0 [] rfl (World.ownsRow_nil _ _ _ _) ⟨g, 0, none⟩ j cap ((l.take j).map encI) rfl (by rw [List.length_map, List.length_take]; have := HM.out; omega) (fun i u hu => by rw [Addr.add_lit, Nat.zero_add]; exact HC.out i u (by rw [List.map_take, List.getElem?_take] at hu; split at hu; exact hu; cases hu)) (encI_one _) (by unfold maxLen; omega) (by omega) (Nat.le_refl _) ?_; intro v1 w1 ho1 hg1 _; have HO1 := Lib.hid (OI.mk (l := l.take j) ho1 (by rw [Nat.zero_add, List.length_take]; have := HM.out; omega) (List.nil_append _)); have HB1 := Lib.hid ((Below.refl w.heap.size w).grown hg1 (Nat.le_refl _) (fun k hk => by cases hk)); clear ho1 hg1; have TOK2 : Hid True := Lib.hid trivial))
            | (clear TOK2; at_builtin; go_loud (refine wpList_append_own _ rfl (.tmp 39) (.tmp 41) 25 rfl w.heap.size 3 i0 _ 1 8 Try.underlying25 HI0.out HZ0.out HZ1.out HZ2.out rfl (by omega) _ (l.take j).length ((l.take j).map encI) rfl (World.ownsRow.alloc HO1.out _) ⟨w1.heap.size, 0, none⟩ 1 1 [encI n] rfl rfl (one_new n _) (encI_one [n]) (by rw [HT1.out]; unfold maxLen; omega) (by rw [HT1.out]; omega) (by have := HB1.out.size; simp; omega) ?_; intro v2 w2 ho2 hg2 _; have HO2 := Lib.hid (OI.mk (l := l.take j ++ [n]) ho2 (by simp) (by simp)); have HB2 := Lib.hid ((HB1.out.alloc HB1.out.size _).grown hg2 (by have := HB1.out.size; simp; omega) (fun k hk => (World.ownsRow.lt HO1.out k hk).1)); clear ho2 hg2; have TOK3 : Hid True := Lib.hid trivial))
            | (clear TOK3; at_builtin; go_loud (refine wpList_append_own _ rfl (.tmp 43) (.tmp 46) 25 rfl w.heap.size 3 i0 _ 1 8 Try.underlying25 HI0.out HZ0.out HZ1.out HZ2.out rfl (by omega) _ (l.take j ++ [n]).length ((l.take j ++ [n]).map encI) rfl HO2.out ⟨g, j, none⟩ (m - j) (cap - j) ((l.drop j).map encI) rfl (by rw [List.length_map, HT3.out, Nat.mul_one]) (fun i u hu => by rw [Addr.add_lit]; exact keeps HB2.out _ _ (HC.out (j + i) u (by rw [List.map_drop, List.getElem?_drop] at hu; exact hu))) (encI_one _) (by rw [HT2.out]; unfold maxLen; omega) (by rw [HT2.out]; omega) HB2.out.size ?_; intro v3 w3 ho3 hg3 _; have HO3 := Lib.hid (OI.mk (l := l.take j ++ [n] ++ l.drop j) ho3 (by have := HT3.out; simp only [List.length_append]; omega) (by simp)); have HB3 := Lib.hid (HB2.out.grown hg3 HB2.out.size (fun k hk => (World.ownsRow.lt HO2.out k hk).1)); clear ho3 hg3)))
          go_ret
          exact ⟨_, rfl, by rw [HR.out]; exact HO3.out.base hbase, HB3.out⟩
    · have hjm : j = m := by omega
      have HP : Hid (posI l n = j) := Lib.hid (pos_eq n l j (by rw [← HM.out]; omega) hall.out (fun h => absurd h (by rw [← HM.out]; omega)))
      have HR : Hid (addI l n = l.take j ++ [n] ++ l.drop j) := Lib.hid (addI_new HP.out (by rw [List.getElem?_eq_none (by rw [← HM.out]; omega)]; simp))
      have hmj : m - j = 0 := by omega
      by_cases hcj : cap = j
      · have HJM := Lib.hid hjm
        have hcj2 := hcj.symm
        clear hcj
        subst hcj2
        clear hjm hmj
        have HT1 : Hid ((l.take j).length = j) := Lib.hid (by rw [List.length_take]; have := HM.out; omega)
        have HT2 : Hid ((l.take j ++ [n]).length = j + 1) := Lib.hid (by rw [List.length_append, HT1.out]; rfl)
        have HT3 : Hid ((l.drop j).length = 0) := Lib.hid (by rw [List.length_drop]; have := HM.out; have := HJM.out; omega)
        have TOK1 : Hid True := Lib.hid trivial
        go_wp2_with (first
          | (clear TOK1; at_builtin; go_loud (refine wpList_append_own _ rfl (.tmp 34) (.tmp 37) 25 rfl w.heap.size 3 i0 _ 1 8 Try.underlying25 HI0.out HZ0.out HZ1.out HZ2.out rfl (by omega) _ 0 [] rfl (World.ownsRow_nil _ _ _ _) ⟨g, 0, none⟩ j j ((l.take j).map encI) rfl (by rw [List.length_map, List.length_take]; have := HM.out; omega) (fun i u hu => by rw [Addr.add_lit, Nat.zero_add]; exact HC.out i u (by rw [List.map_take, List.getElem?_take] at hu; split at hu; exact hu; cases hu)) (encI_one _) (by unfold maxLen; omega) (by omega) (Nat.le_refl _) ?_; intro v1 w1 ho1 hg1 _; have HO1 := Lib.hid (OI.mk (l := l.take j) ho1 (by rw [Nat.zero_add, List.length_take]; have := HM.out; omega) (List.nil_append _)); have HB1 := Lib.hid ((Below.refl w.heap.size w).grown hg1 (Nat.le_refl _) (fun k hk => by cases hk)); clear ho1 hg1; have TOK2 : Hid True := Lib.hid trivial))
          | (clear TOK2; at_builtin; go_loud (refine wpList_append_own _ rfl (.tmp 39) (.tmp 41) 25 rfl w.heap.size 3 i0 _ 1 8 Try.underlying25 HI0.out HZ0.out HZ1.out HZ2.out rfl (by omega) _ (l.take j).length ((l.take j).map encI) rfl (World.ownsRow.alloc HO1.out _) ⟨w1.heap.size, 0, none⟩ 1 1 [encI n] rfl rfl (one_new n _) (encI_one [n]) (by rw [HT1.out]; unfold maxLen; omega) (by rw [HT1.out]; omega) (by have := HB1.out.size; simp; omega) ?_; intro v2 w2 ho2 hg2 _; have HO2 := Lib.hid (OI.mk (l := l.take j ++ [n]) ho2 (by simp) (by simp)); have HB2 := Lib.hid ((HB1.out.alloc HB1.out.size _).grown hg2 (by have := HB1.out.size; simp; omega) (fun k hk => (World.ownsRow.lt HO1.out k hk).1)); clear ho2 hg2; have TOK3 : Hid True := Lib.hid trivial))
          | (clear TOK3; at_builtin; go_loud (refine wpList_append_own _ rfl (.tmp 43) (.tmp 46) 25 rfl w.heap.size 3 i0 _ 1 8 Try.underlying25 HI0.out HZ0.out HZ1.out HZ2.out rfl (by omega) _ (l.take j ++ [n]).length ((l.take j ++ [n]).map encI) rfl HO2.out ⟨g, 0, none⟩ 0 0 ((l.drop j).map encI) rfl (by rw [List.length_map, HT3.out]) (fun i u hu => by rw [List.drop_of_length_le (by rw [← HM.out]; omega)] at hu; cases hu) (encI_one _) (by rw [HT2.out]; unfold maxLen; omega) (by rw [HT2.out]; omega) HB2.out.size ?_; intro v3 w3 ho3 hg3 _; have HO3 := Lib.hid (OI.mk (l := l.take j ++ [n] ++ l.drop j) ho3 (by have := HT3.out; simp only [List.length_append]; omega) (by simp)); have HB3 := Lib.hid (HB2.out.grown hg3 HB2.out.size (fun k hk => (World.ownsRow.lt HO2.out k hk).1)); clear ho3 hg3)))
        go_ret
        exact ⟨_, rfl, by rw [HR.out]; exact HO3.out.base hbase, HB3.out⟩
      · have HJM := Lib.hid hjm
        clear hjm hmj
        have HT1 : Hid ((l.take j).length = j) := Lib.hid (by rw [List.length_take]; have := HM.out; omega)
        have HT2 : Hid ((l.take j ++ [n]).length = j + 1) := Lib.hid (by rw [List.length_append, HT1.out]; rfl)
        have HT3 : Hid ((l.drop j).length = m - j) := Lib.hid (by rw [List.length_drop, HM.out])
        have TOK1 : Hid True := Lib.hid trivial
        go_wp2_with (first
          | (clear TOK1; at_builtin; go_loud (refine wpList_append_own _ rfl (.tmp 34) (.tmp 37) 25 rfl w.heap.size 3 i0 _ 1 8 Try.underlying25 HI0.out HZ0.out HZ1.out HZ2.out rfl (by omega) _ 0 [] rfl (World.ownsRow_nil _ _ _ _) ⟨g, 0, none⟩ j cap ((l.take j).map encI) rfl (by rw [List.length_map, List.length_take]; have := HM.out; omega) (fun i u hu => by rw [Addr.add_lit, Nat.zero_add]; exact HC.out i u (by rw [List.map_take, List.getElem?_take] at hu; split at hu; exact hu; cases hu)) (encI_one _) (by unfold maxLen; omega) (by omega) (Nat.le_refl _) ?_; intro v1 w1 ho1 hg1 _; have HO1 := Lib.hid (OI.mk (l := l.take j) ho1 (by rw [Nat.zero_add, List.length_take]; have := HM.out; omega) (List.nil_append _)); have HB1 := Lib.hid ((Below.refl w.heap.size w).grown hg1 (Nat.le_refl _) (fun k hk => by cases hk)); clear ho1 hg1; have TOK2 : Hid True := Lib.hid trivial))
          | (clear TOK2; at_builtin; go_loud (refine wpList_append_own _ rfl (.tmp 39) (.tmp 41) 25 rfl w.heap.size 3 i0 _ 1 8 Try.underlying25 HI0.out HZ0.out HZ1.out HZ2.out rfl (by omega) _ (l.take j).length ((l.take j).map encI) rfl (World.ownsRow.alloc HO1.out _) ⟨w1.heap.size, 0, none⟩ 1 1 [encI n] rfl rfl (one_new n _) (encI_one [n]) (by rw [HT1.out]; unfold maxLen; omega) (by rw [HT1.out]; omega) (by have := HB1.out.size; simp; omega) ?_; intro v2 w2 ho2 hg2 _; have HO2 := Lib.hid (OI.mk (l := l.take j ++ [n]) ho2 (by simp) (by simp)); have HB2 := Lib.hid ((HB1.out.alloc HB1.out.size _).grown hg2 (by have := HB1.out.size; simp; omega) (fun k hk => (World.ownsRow.lt HO1.out k hk).1)); clear ho2 hg2; have TOK3 : Hid True := Lib.hid trivial))
          | (clear TOK3; at_builtin; go_loud (refine wpList_append_own _ rfl (.tmp 43) (.tmp 46) 25 rfl w.heap.size 3 i0 _ 1 8 Try.underlying25 HI0.out HZ0.out HZ1.out HZ2.out rfl (by omega) _ (l.take j ++ [n]).length ((l.take j ++ [n]).map encI) rfl HO2.out ⟨g, j, none⟩ (m - j) (cap - j) ((l.drop j).map encI) rfl (by rw [List.length_map, HT3.out, Nat.mul_one]) (fun i u hu => by rw [Addr.add_lit]; exact keeps HB2.out _ _ (HC.out (j + i) u (by rw [List.map_drop, List.getElem?_drop] at hu; exact hu))) (encI_one _) (by rw [HT2.out]; unfold maxLen; omega) (by rw [HT2.out]; omega) HB2.out.size ?_; intro v3 w3 ho3 hg3 _; have HO3 := Lib.hid (OI.mk (l := l.take j ++ [n] ++ l.drop j) ho3 (by have := HT3.out; simp only [List.length_append]; omega) (by simp)); have HB3 := Lib.hid (HB2.out.grown hg3 HB2.out.size (fun k hk => (World.ownsRow.lt HO2.out k hk).1)); clear ho3 hg3)))
        go_ret
        exact ⟨_, rfl, by rw [HR.out]; exact HO3.out.base hbase, HB3.out⟩

set_option maxRecDepth 100000 in
set_option maxHeartbeats 8000000 in
theorem add_nil (base : Nat) (n : Int) (w : World) (hbase : base ≤ w.heap.size) : Calls Try.prog 99 #[.slice none 0 0, .int .i64 n] w (AddP base (addI [] n) w) := by
  obtain ⟨i0, hi0, hz0, hz1, hz2⟩ := info_parts info3
  have HI0 := Lib.hid hi0
  have HZ0 := Lib.hid hz0
  have HZ1 := Lib.hid hz1
  have HZ2 := Lib.hid hz2
  clear hi0 hz0 hz1 hz2
  have HR : Hid (addI [] n = [n]) := Lib.hid rfl
  have TOK1 : Hid True := Lib.hid trivial
  go_enter Try.func99, Try.ntmps99
  go_wp2_with fail
  refine wp_loop_rounds 1 ?_
  rw [rounds_succ]
  go_wp2_with (first
    | (clear TOK1; at_builtin; go_loud (refine wpList_append_own_none rfl (.tmp 34) (.tmp 37) 25 rfl w.heap.size 3 i0 1 Try.underlying25 HI0.out _ 0 [] rfl (World.ownsRow_nil _ _ _ _) rfl ?_; have TOK2 : Hid True := Lib.hid trivial))
    | (clear TOK2; at_builtin; go_loud (refine wpList_append_own _ rfl (.tmp 39) (.tmp 41) 25 rfl w.heap.size 3 i0 _ 1 8 Try.underlying25 HI0.out HZ0.out HZ1.out HZ2.out rfl (by omega) _ 0 [] rfl (World.ownsRow_nil _ _ _ _) ⟨w.heap.size, 0, none⟩ 1 1 [encI n] rfl rfl (one_new n _) (encI_one [n]) (by unfold maxLen; omega) (by omega) (by simp) ?_; intro v2 w2 ho2 hg2 _; have HO2 := Lib.hid (OI.mk (l := [n]) ho2 rfl rfl); have HB2 := Lib.hid (((Below.refl w.heap.size w).alloc (Nat.le_refl _) _).grown hg2 (by simp) (fun k hk => by cases hk)); clear ho2 hg2; have TOK3 : Hid True := Lib.hid trivial))
    | (clear TOK3; at_builtin; go_loud (refine wpList_append_own_none rfl (.tmp 43) (.tmp 46) 25 rfl w.heap.size 3 i0 1 Try.underlying25 HI0.out _ 1 _ rfl HO2.out rfl ?_)))
  go_ret
  exact ⟨_, rfl, by rw [HR.out]; exact HO2.out.base hbase, HB2.out⟩

theorem add_any (base : Nat) (v : Value) (l : List Int) (n : Int) (w : World) (h : OI base v l w) (hlen : l.length ≤ 100000) (hbase : base ≤ w.heap.size) : Calls Try.prog 99 #[v, .int .i64 n] w (AddP base (addI l n) w) := by
  have h0 := h
  obtain ⟨h1, h2⟩ := h
  rcases h2 with ⟨rfl, hn⟩ | ⟨g, cap, cur, rfl, hg, hh, hc, _⟩
  · have : l = [] := List.eq_nil_of_length_eq_zero hn
    subst this
    exact add_nil base n w hbase
  · exact add_some base l g cap n w h0 hc hlen hbase
theorem addI_len (l : List Int) (n : Int) : (addI l n).length ≤ l.length + 1 := by
  unfold addI
  split
  · omega
  · simp only [List.length_append, List.length_take, List.length_drop, List.length_cons, List.length_nil]
    omega
end Ty
end Go.Proofs.Ytkedhnahgpmkaaa
