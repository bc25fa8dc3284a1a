/- The law TypesBinds: true. Conditions: the type and the list lie in memory. -/
import Derived.Test.YtkedhnahgpmkaaaTyBindsW
import Derived.Deep.Slices
namespace Go.Proofs.Ytkedhnahgpmkaaa
open Go.RowKit

namespace Ty
theorem vo_zerob (ok : Nat → Prop) (w : World) : VO ok w zeroT zeroV := ⟨none, 0, rfl, by decide, by decide, .inl rfl⟩
mutual
theorem same_reflb : ∀ t : Ty, same t t = true
  | .mk o n s a => by
    rw [same]
    simp [sames_reflb a]
theorem sames_reflb : ∀ l : List Ty, sames l l = true
  | [] => by rw [sames]
  | x :: l => by
    rw [sames, same_reflb x, sames_reflb l]
    rfl
end
theorem isl_take {w : World} {base : Option Addr} {l : List Int} (h : ISl w base l) (n : Nat) : ISl w base (l.take n) := by
  have hle : (l.take n).length ≤ l.length := by rw [List.length_take]; omega
  refine ⟨Nat.le_trans hle h.1, ?_⟩
  rcases h.2 with h0 | ⟨g, o, e, hr⟩
  · left; rw [h0]; simp
  · refine .inr ⟨g, o, e, fun i hi => ?_⟩
    have := hr i (Nat.lt_of_lt_of_le hi hle)
    rw [List.getElem_take]
    exact this
section
variable {H : Type} {enc : TypeId × Value → H} {P : Program} {w : World} {base : Nat} {spare : Nat → Bool} {held : Bool}
/-- a list of numbers that comes in -/
theorem open_isl {S I : TypeId} (hS : P.underlying S = some (.slice I)) (hI : P.underlying I = some (.int .i64)) (cI : P.cellsOf I = 1) {fuel : Nat} {v3 : Value} {x : DataW H × List MemPlace} (g3 : DataW.trod enc P w base spare held fuel S [v3] = some x) :
    ∃ l b cap, v3 = .slice b (List.length l) cap ∧ ISl w b l ∧ (∀ y ∈ l, -9223372036854775808 ≤ y ∧ y ≤ 9223372036854775807) ∧ l.length ≤ cap := by
  rcases Go.Deep.open_slice1 hS cI g3 with ⟨h3, _⟩ | ⟨a, len, cap, m, n, V, D, Pl, h3, _, hlc, hcm, hm, _, hel⟩
  · exact ⟨[], none, 0, by injection h3, ⟨Nat.zero_le _, .inl rfl⟩, (fun y hy => by cases hy), Nat.le_refl _⟩
  · have h3' : v3 = .slice (some a) len cap := by injection h3
    have hlm : len ≤ m := by rw [hm]; split <;> omega
    have each : ∀ i, i < len → ∃ y : Int, w.cell? (a.add i) = some (.int .i64 y) ∧ -9223372036854775808 ≤ y ∧ y ≤ 9223372036854775807 := fun i hi => by
      obtain ⟨c1, c2⟩ := hel i (by omega)
      obtain ⟨y, e1, _, hwf⟩ := DataW.trod_int hI c2
      have e1' : V i = .int .i64 y := by injection e1
      rw [e1'] at c1
      have hwf' : (decide ((IntKind.i64).min ≤ y) && decide (y ≤ (IntKind.i64).max)) = true := hwf
      rw [Bool.and_eq_true, decide_eq_true_eq, decide_eq_true_eq, show (IntKind.i64).min = -9223372036854775808 from by decide, show (IntKind.i64).max = 9223372036854775807 from by decide] at hwf'
      exact ⟨y, c1, hwf'⟩
    have hin : Inhabited Int := ⟨0⟩
    obtain ⟨f, hfi⟩ := Go.Deep.choose_lt each
    refine ⟨(List.range len).map f, some a, cap, by rw [h3', List.length_map, List.length_range], ⟨by rw [List.length_map, List.length_range]; omega, ?_⟩, ?_, by rw [List.length_map, List.length_range]; exact hlc⟩
    · by_cases hz : len = 0
      · left
        rw [hz]; rfl
      · right
        have ha0 := (hfi 0 (by omega)).1
        have e : a.add 0 = a := by unfold Addr.add; rw [if_pos rfl]
        rw [e] at ha0
        have hsp := spot_none ha0
        obtain ⟨g, o, sp⟩ := a
        have hsp' : sp = none := hsp
        subst hsp'
        refine ⟨g, o, rfl, fun i hi => ?_⟩
        have hi' : i < len := by rwa [List.length_map, List.length_range] at hi
        have := (hfi i hi').1
        rw [add_none] at this
        rw [this]
        simp
    · intro y hy
      obtain ⟨i, hi, rfl⟩ := List.mem_map.mp hy
      exact (hfi i (List.mem_range.mp hi)).2
end

theorem law_binds_6 (t : Ty) (l0 : List Int) (base : Option Addr) (cap : Nat) (v : Value) (w : World) (hv : V w t v) (hl0 : ISl w base l0) (hr0 : ∀ y ∈ l0, -9223372036854775808 ≤ y ∧ y ≤ 9223372036854775807) (hcap : l0.length ≤ cap) :
    Calls Try.prog 9 #[v, .int .i64 6, .slice base l0.length cap] w fun e w' => e = .returned (.bool true) ∧ Below w.heap.size w w' := by
  have hla0 : l0.length ≤ 9223372036854775807 := by have := hl0.1; unfold maxLen at this; omega
  have hl := isl_take hl0 601
  have hr : ∀ y ∈ l0.take 601, -9223372036854775808 ≤ y ∧ y ≤ 9223372036854775807 := fun y hy => hr0 y (List.mem_of_mem_take hy)
  have hn : (l0.take 601).length ≤ 601 := by rw [List.length_take]; omega
  have hmin : min (l0.length : Int) 601 = ((l0.take 601).length : Int) := by rw [List.length_take]; omega
  generalize l0.take 601 = l at *
  by_cases hpt : (isProper t && distB l) = true
  · rw [Bool.and_eq_true] at hpt
    obtain ⟨hp, hd⟩ := hpt
    have hl6 := (dist_parts hd).1
    have hnt := proper_nodes t hp
    have hrp := fun (W : World) (hb : Below w.heap.size w W) => rbind_any (cap := cap) 6 (by omega) l hl6 t (Good.of hp) (by omega) v W (hv.next hb) (hl.next hb)
    have hbp : ∀ (W : World) (bb : Option Addr) (cap' : Nat), Below w.heap.size w W → ISl W bb l → Calls Try.prog 49 #[v, .int .i64 6, .slice bb l.length cap'] W (BindP 6 l t W) := fun W bb cap' hb hs => (bind_ok6 t l v bb cap' W (hv.next hb) hs hr hp hl6).mono fun e w' h => by
      unfold BindE at h
      rwa [if_pos hd] at h
    cases hpp : isProper (bindT 6 l t) with
    | true =>
      refine binds_walk_6 t (bindT 6 l t) 0 l0.length l base cap v w hv hl hn hmin hcap hla0 (fun W bb cap' hb hs => (hbp W bb cap' hb hs).mono ?_) (.inr ⟨hp, hd, bindT 6 l t, ?_, hrp⟩)
      · rintro e w' ⟨v', h1, h2, h3⟩
        exact ⟨v', by rw [h1, fullV_ok hpp], h2, h3⟩
      · unfold wholeT
        rw [if_pos hpp, same_reflb]
        rfl
    | false =>
      refine binds_walk_6 t zeroT 5 l0.length l base cap v w hv hl hn hmin hcap hla0 (fun W bb cap' hb hs => (hbp W bb cap' hb hs).mono ?_) (.inr ⟨hp, hd, bindT 6 l t, ?_, hrp⟩)
      · rintro e w' ⟨v', h1, h2, h3⟩
        exact ⟨zeroV, by rw [h1, fullV_bad hpp], vo_zerob _ w', h3⟩
      · unfold wholeT
        rw [if_neg (by rw [hpp]; simp), same_reflb]
        rfl
  · have hf : (isProper t && distB l) = false := by simpa using hpt
    refine binds_walk_6 t zeroT 2 l0.length l base cap v w hv hl hn hmin hcap hla0 (fun W bb cap' hb hs => ?_) (.inl ⟨hf, same_reflb _, rfl⟩)
    have hbad : Calls Try.prog 49 #[v, .int .i64 6, .slice bb l.length cap'] W (BadP 2 W) := by
      cases hp : isProper t with
      | false => exact bind_bad t 6 l v bb cap' W (hv.next hb) (by omega) (.inl hp)
      | true =>
        have hd : distB l = false := by rw [hp] at hf; simpa using hf
        by_cases h6 : 600 < l.length
        · exact bind_bad t 6 l v bb cap' W (hv.next hb) (by omega) (.inr (.inr h6))
        · exact (bind_ok6 t l v bb cap' W (hv.next hb) hs hr hp (by omega)).mono fun e w' h => by
            unfold BindE at h
            rwa [if_neg (by rw [hd]; simp)] at h
    refine hbad.mono ?_
    rintro e w' ⟨h1, h3⟩
    exact ⟨zeroV, h1, vo_zerob _ w', h3⟩

theorem law_binds_7 (t : Ty) (l0 : List Int) (base : Option Addr) (cap : Nat) (v : Value) (w : World) (hv : V w t v) (hl0 : ISl w base l0) (hr0 : ∀ y ∈ l0, -9223372036854775808 ≤ y ∧ y ≤ 9223372036854775807) (hcap : l0.length ≤ cap) :
    Calls Try.prog 9 #[v, .int .i64 7, .slice base l0.length cap] w fun e w' => e = .returned (.bool true) ∧ Below w.heap.size w w' := by
  have hla0 : l0.length ≤ 9223372036854775807 := by have := hl0.1; unfold maxLen at this; omega
  have hl := isl_take hl0 601
  have hr : ∀ y ∈ l0.take 601, -9223372036854775808 ≤ y ∧ y ≤ 9223372036854775807 := fun y hy => hr0 y (List.mem_of_mem_take hy)
  have hn : (l0.take 601).length ≤ 601 := by rw [List.length_take]; omega
  have hmin : min (l0.length : Int) 601 = ((l0.take 601).length : Int) := by rw [List.length_take]; omega
  generalize l0.take 601 = l at *
  by_cases hpt : (isProper t && distB l) = true
  · rw [Bool.and_eq_true] at hpt
    obtain ⟨hp, hd⟩ := hpt
    have hl6 := (dist_parts hd).1
    have hnt := proper_nodes t hp
    have hrp := fun (W : World) (hb : Below w.heap.size w W) => rbind_any (cap := cap) 7 (by omega) l hl6 t (Good.of hp) (by omega) v W (hv.next hb) (hl.next hb)
    have hbp : ∀ (W : World) (bb : Option Addr) (cap' : Nat), Below w.heap.size w W → ISl W bb l → Calls Try.prog 49 #[v, .int .i64 7, .slice bb l.length cap'] W (BindP 7 l t W) := fun W bb cap' hb hs => (bind_ok7 t l v bb cap' W (hv.next hb) hs hr hp hl6).mono fun e w' h => by
      unfold BindE at h
      rwa [if_pos hd] at h
    cases hpp : isProper (bindT 7 l t) with
    | true =>
      refine binds_walk_7 t (bindT 7 l t) 0 l0.length l base cap v w hv hl hn hmin hcap hla0 (fun W bb cap' hb hs => (hbp W bb cap' hb hs).mono ?_) (.inr ⟨hp, hd, bindT 7 l t, ?_, hrp⟩)
      · rintro e w' ⟨v', h1, h2, h3⟩
        exact ⟨v', by rw [h1, fullV_ok hpp], h2, h3⟩
      · unfold wholeT
        rw [if_pos hpp, same_reflb]
        rfl
    | false =>
      refine binds_walk_7 t zeroT 5 l0.length l base cap v w hv hl hn hmin hcap hla0 (fun W bb cap' hb hs => (hbp W bb cap' hb hs).mono ?_) (.inr ⟨hp, hd, bindT 7 l t, ?_, hrp⟩)
      · rintro e w' ⟨v', h1, h2, h3⟩
        exact ⟨zeroV, by rw [h1, fullV_bad hpp], vo_zerob _ w', h3⟩
      · unfold wholeT
        rw [if_neg (by rw [hpp]; simp), same_reflb]
        rfl
  · have hf : (isProper t && distB l) = false := by simpa using hpt
    refine binds_walk_7 t zeroT 2 l0.length l base cap v w hv hl hn hmin hcap hla0 (fun W bb cap' hb hs => ?_) (.inl ⟨hf, same_reflb _, rfl⟩)
    have hbad : Calls Try.prog 49 #[v, .int .i64 7, .slice bb l.length cap'] W (BadP 2 W) := by
      cases hp : isProper t with
      | false => exact bind_bad t 7 l v bb cap' W (hv.next hb) (by omega) (.inl hp)
      | true =>
        have hd : distB l = false := by rw [hp] at hf; simpa using hf
        by_cases h6 : 600 < l.length
        · exact bind_bad t 7 l v bb cap' W (hv.next hb) (by omega) (.inr (.inr h6))
        · exact (bind_ok7 t l v bb cap' W (hv.next hb) hs hr hp (by omega)).mono fun e w' h => by
            unfold BindE at h
            rwa [if_neg (by rw [hd]; simp)] at h
    refine hbad.mono ?_
    rintro e w' ⟨h1, h3⟩
    exact ⟨zeroV, h1, vo_zerob _ w', h3⟩

theorem law_binds (t : Ty) (op : Int) (l0 : List Int) (base : Option Addr) (cap : Nat) (v : Value) (w : World) (hv : V w t v) (hl0 : ISl w base l0) (hr0 : ∀ y ∈ l0, -9223372036854775808 ≤ y ∧ y ≤ 9223372036854775807) (hcap : l0.length ≤ cap) :
    Calls Try.prog 9 #[v, .int .i64 op, .slice base l0.length cap] w fun e w' => e = .returned (.bool true) ∧ Below w.heap.size w w' := by
  by_cases h6 : op = 6
  · subst h6
    exact law_binds_6 t l0 base cap v w hv hl0 hr0 hcap
  · by_cases h7 : op = 7
    · subst h7
      exact law_binds_7 t l0 base cap v w hv hl0 hr0 hcap
    · have hla0 : l0.length ≤ 9223372036854775807 := by have := hl0.1; unfold maxLen at this; omega
      have hl := isl_take hl0 601
      have hn : (l0.take 601).length ≤ 601 := by rw [List.length_take]; omega
      have hmin : min (l0.length : Int) 601 = ((l0.take 601).length : Int) := by rw [List.length_take]; omega
      generalize l0.take 601 = l at *
      refine binds_walk_bad t zeroT 2 op l0.length l base cap v w hv hl hn hmin hcap hla0 h6 h7 (fun W bb cap' hb hs => (bind_bad t op l v bb cap' W (hv.next hb) (by omega) (.inr (.inl ⟨h6, h7⟩))).mono ?_) ⟨same_reflb _, rfl⟩
      rintro e w' ⟨h1, h3⟩
      exact ⟨zeroV, h1, vo_zerob _ w', h3⟩
end Ty
end Go.Proofs.Ytkedhnahgpmkaaa
