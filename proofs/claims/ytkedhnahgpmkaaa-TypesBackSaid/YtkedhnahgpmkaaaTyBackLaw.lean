/- The law TypesBack: true. Conditions: the type and the list lie in memory. -/
import Derived.Test.YtkedhnahgpmkaaaTyBackW
import Derived.Deep.Slices
namespace Go.Proofs.Ytkedhnahgpmkaaa
open Go.RowKit

namespace Ty
theorem vo_zerok (ok : Nat → Prop) (w : World) : VO ok w zeroT zeroV := ⟨none, 0, rfl, by decide, by decide, .inl rfl⟩
theorem isl_takek {w : World} {base : Option Addr} {l : List Int} (h : ISl w base l) (n : Nat) : ISl w base (l.take n) := by
  have hle : (l.take n).length ≤ l.length := by rw [List.length_take]; omega
  refine ⟨Nat.le_trans hle h.1, ?_⟩
  rcases h.2 with h0 | ⟨g, o, e, hr⟩
  · left; rw [h0]; simp
  · refine .inr ⟨g, o, e, fun i hi => ?_⟩
    have := hr i (Nat.lt_of_lt_of_le hi hle)
    rw [List.getElem_take]
    exact this
theorem argB_ok {t : Ty} {d : Int} (hp : isProper t = true) (h1 : -39 ≤ d) (h2 : d ≤ 39) : argB t d 0 = true := by
  unfold argB numB
  rw [hp, decide_eq_true (show -9999 ≤ d by omega), decide_eq_true (show d ≤ 9999 by omega)]
  rfl
/-- what Bind gives -/
theorem bind_ok67 (op : Int) (hop : op = 6 ∨ op = 7) (t : Ty) (l : List Int) (v : Value) (base : Option Addr) (cap : Nat) (w : World) (hv : V w t v) (hl : ISl w base l) (hr : ∀ x ∈ l, -9223372036854775808 ≤ x ∧ x ≤ 9223372036854775807) (hpt : isProper t = true) (hd : distB l = true) :
    Calls Try.prog 49 #[v, .int .i64 op, .slice base l.length cap] w (BindP op l t w) := by
  have h6 := (dist_parts hd).1
  rcases hop with e | e
  · subst e
    exact (bind_ok6 t l v base cap w hv hl hr hpt h6).mono fun e w' h => by
      unfold BindE at h
      rwa [if_pos hd] at h
  · subst e
    exact (bind_ok7 t l v base cap w hv hl hr hpt h6).mono fun e w' h => by
      unfold BindE at h
      rwa [if_pos hd] at h
/-- Put of the variables themselves into what Bind made -/
theorem back_bind (t : Ty) (op : Int) (hop : op = 6 ∨ op = 7) (l : List Int) (base : Option Addr) (cap : Nat) (v : Value) (w : World) (hv : V w t v) (hl : ISl w base l) (hr : ∀ x ∈ l, -9223372036854775808 ≤ x ∧ x ≤ 9223372036854775807) (hp : isProper t = true) (hd : distB l = true) :
    ∃ (r2 : Ty) (n2 : Int), (∀ W, Below w.heap.size w W → Calls Try.prog 49 #[v, .int .i64 op, .slice base l.length cap] W (TnP r2 n2 W)) ∧ ((n2 = 0 ∧ ∀ W v' bb cap', V W r2 v' → Sl W bb (ownT op l) → Calls Try.prog 29 #[v', .slice bb l.length cap'] W (BkP t W)) ∨ n2 = 5) := by
  have hb := fun (W : World) (hb : Below w.heap.size w W) => bind_ok67 op hop t l v base cap W (hv.next hb) (hl.next hb) hr hp hd
  cases hq : isProper (bindT op l t) with
  | false =>
    refine ⟨zeroT, 5, fun W h => (hb W h).mono ?_, .inr rfl⟩
    rintro e w' ⟨v', h1, _, h3⟩
    exact ⟨zeroV, by rw [h1, fullV_bad hq], vo_zerok _ _, h3⟩
  | true =>
    refine ⟨bindT op l t, 0, fun W h => (hb W h).mono ?_, .inl ⟨rfl, fun W v' bb cap' hv' hs => ?_⟩⟩
    · rintro e w' ⟨v', h1, h2, h3⟩
      exact ⟨v', by rw [h1, fullV_ok hq], h2, h3⟩
    · have hput := put_ok (bindT op l t) (ownT op l) v' bb cap' W hv' hs hq (own_proper hop hd)
      rw [ownT_len] at hput
      refine hput.mono ?_
      rintro e w' ⟨v2, h1, h2, h3⟩
      rw [bind_back op hop l (Good.of hp)] at h1 h2
      exact ⟨v2, by rw [h1, fullV_ok hp], h2, h3⟩

theorem law_back (t : Ty) (d : Int) (l0 : List Int) (base : Option Addr) (cap : Nat) (v : Value) (w : World) (hv : V w t v) (hl0 : ISl w base l0) (hr0 : ∀ y ∈ l0, -9223372036854775808 ≤ y ∧ y ≤ 9223372036854775807) (hcap : l0.length ≤ cap) :
    Calls Try.prog 10 #[v, .int .i64 d, .slice base l0.length cap] w fun e w' => e = .returned (.bool true) ∧ Below w.heap.size w w' := by
  cases hp : isProper t with
  | false => exact back_no t d l0.length base cap v w hv hp
  | true =>
    have hla0 : l0.length ≤ 9223372036854775807 := by have := hl0.1; unfold maxLen at this; omega
    have hl := isl_takek hl0 20
    have hr : ∀ y ∈ l0.take 20, -9223372036854775808 ≤ y ∧ y ≤ 9223372036854775807 := fun y hy => hr0 y (List.mem_of_mem_take hy)
    have hn : (l0.take 20).length ≤ 20 := by rw [List.length_take]; omega
    have hmin : min (l0.length : Int) 20 = ((l0.take 20).length : Int) := by rw [List.length_take]; omega
    generalize l0.take 20 = l at *
    obtain ⟨D, hD, ed⟩ := d_small d
    have hg := Good.of hp
    obtain ⟨hk, hk2⟩ := shift_back (D : Int) (by omega) hg
    have hsh := fun (W : World) (hb : Below w.heap.size w W) => pshift_full t D 0 v W (hv.next hb) (argB_ok hp (by omega) (by omega)) hk
    have hbd := fun (hd : distB l = true) (op : Int) (hop : op = 6 ∨ op = 7) => back_bind t op hop l base cap v w hv hl hr hp hd
    cases hq : isProper (shiftT D 0 t).1 with
    | false =>
      refine back_walk t zeroT 5 d D l0.length l base cap v w hv hp hl hn hmin hcap hla0 hD ed (fun W hb => (hsh W hb).mono ?_) (.inr (by decide)) hbd
      rintro e w' ⟨v', h1, _, h3⟩
      exact ⟨zeroV, by rw [h1, fullV_bad hq], vo_zerok _ _, h3⟩
    | true =>
      refine back_walk t (shiftT D 0 t).1 0 d D l0.length l base cap v w hv hp hl hn hmin hcap hla0 hD ed (fun W hb => (hsh W hb).mono ?_) (.inl ⟨rfl, fun W v' hv' => ?_, fun W v' bb cap' hv' hs => ?_⟩) hbd
      · rintro e w' ⟨v', h1, h2, h3⟩
        exact ⟨v', by rw [h1, fullV_ok hq], h2, h3⟩
      · refine (pshift_full (shiftT D 0 t).1 (-D) 0 v' W hv' (argB_ok hq (by omega) (by omega)) (by rw [hk2])).mono ?_
        rintro e w' ⟨v2, h1, h2, h3⟩
        rw [hk2] at h1 h2
        exact ⟨v2, by rw [h1, fullV_ok hp], h2, h3⟩
      · have hput := put_ok (shiftT D 0 t).1 (List.replicate D intT) v' bb cap' W hv' hs hq (ints_proper (by omega))
        rw [List.length_replicate] at hput
        have hpb := put_back (List.replicate D intT) hg
        rw [List.length_replicate] at hpb
        refine hput.mono ?_
        rintro e w' ⟨v2, h1, h2, h3⟩
        rw [hpb] at h1 h2
        exact ⟨v2, by rw [h1, fullV_ok hp], h2, h3⟩
section
variable {H : Type} {enc : TypeId × Value → H} {P : Program} {w : World} {base : Nat} {spare : Nat → Bool} {held : Bool}
/-- a list of numbers that comes in -/
theorem open_islk {S I : TypeId} (hS : P.underlying S = some (.slice I)) (hI : P.underlying I = some (.int .i64)) (cI : P.cellsOf I = 1) {fuel : Nat} {v3 : Value} {x : DataW H × List MemPlace} (g3 : DataW.trod enc P w base spare held fuel S [v3] = some x) :
    ∃ l b cap, v3 = .slice b (List.length l) cap ∧ ISl w b l ∧ (∀ y ∈ l, -9223372036854775808 ≤ y ∧ y ≤ 9223372036854775807) ∧ l.length ≤ cap := by
  rcases Go.Deep.open_slice1 hS cI g3 with ⟨h3, _⟩ | ⟨a, len, cap, m, n, V, D, Pl, h3, _, hlc, hcm, hm, _, hel⟩
  · exact ⟨[], none, 0, by injection h3, ⟨Nat.zero_le _, .inl rfl⟩, (fun y hy => by cases hy), Nat.le_refl _⟩
  · have h3' : v3 = .slice (some a) len cap := by injection h3
    have hlm : len ≤ m := by rw [hm]; split <;> omega
    have each : ∀ i, i < len → ∃ y : Int, w.cell? (a.add i) = some (.int .i64 y) ∧ -9223372036854775808 ≤ y ∧ y ≤ 9223372036854775807 := fun i hi => by
      obtain ⟨c1, c2⟩ := hel i (by omega)
      obtain ⟨y, e1, _, hwf⟩ := DataW.trod_int hI c2
      have e1' : V i = .int .i64 y := by injection e1
      rw [e1'] at c1
      have hwf' : (decide ((IntKind.i64).min ≤ y) && decide (y ≤ (IntKind.i64).max)) = true := hwf
      rw [Bool.and_eq_true, decide_eq_true_eq, decide_eq_true_eq, show (IntKind.i64).min = -9223372036854775808 from by decide, show (IntKind.i64).max = 9223372036854775807 from by decide] at hwf'
      exact ⟨y, c1, hwf'⟩
    have hin : Inhabited Int := ⟨0⟩
    obtain ⟨f, hfi⟩ := Go.Deep.choose_lt each
    refine ⟨(List.range len).map f, some a, cap, by rw [h3', List.length_map, List.length_range], ⟨by rw [List.length_map, List.length_range]; omega, ?_⟩, ?_, by rw [List.length_map, List.length_range]; exact hlc⟩
    · by_cases hz : len = 0
      · left
        rw [hz]; rfl
      · right
        have ha0 := (hfi 0 (by omega)).1
        have e : a.add 0 = a := by unfold Addr.add; rw [if_pos rfl]
        rw [e] at ha0
        have hsp := spot_none ha0
        obtain ⟨g, o, sp⟩ := a
        have hsp' : sp = none := hsp
        subst hsp'
        refine ⟨g, o, rfl, fun i hi => ?_⟩
        have hi' : i < len := by rwa [List.length_map, List.length_range] at hi
        have := (hfi i hi').1
        rw [add_none] at this
        rw [this]
        simp
    · intro y hy
      obtain ⟨i, hi, rfl⟩ := List.mem_map.mp hy
      exact (hfi i (List.mem_range.mp hi)).2
end
end Ty
end Go.Proofs.Ytkedhnahgpmkaaa
