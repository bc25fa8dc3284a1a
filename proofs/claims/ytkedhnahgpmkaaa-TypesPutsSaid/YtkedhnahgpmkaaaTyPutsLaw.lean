/- The law TypesPuts returns true for every type and every list of types. Conditions: the list has at most 2513169434843 elements. -/
import Derived.Test.YtkedhnahgpmkaaaTyPutsW
import Derived.Test.YtkedhnahgpmkaaaTyRPutTop
namespace Go.Proofs.Ytkedhnahgpmkaaa
open Go.RowKit

namespace Ty
theorem vo_zero (ok : Nat → Prop) (w : World) : VO ok w zeroT zeroV := ⟨none, 0, rfl, by decide, by decide, .inl rfl⟩

theorem law_puts (t : Ty) (l : List Ty) (base : Option Addr) (cap : Nat) (v : Value) (w : World) (hv : V w t v) (hl : Sl w base l) (hn : l.length ≤ 2513169434843) :
    Calls Try.prog 5 #[v, .slice base l.length cap] w fun e w' => e = .returned (.bool true) ∧ Below w.heap.size w w' := by
  by_cases hpt : (isProper t && propersT l) = true
  · rw [Bool.and_eq_true] at hpt
    obtain ⟨hp, hp2⟩ := hpt
    have hpl := hp2
    rw [← propersB_eq] at hpl
    unfold propersB at hpl
    rw [Bool.and_eq_true, decide_eq_true_eq] at hpl
    obtain ⟨hl6, hall⟩ := hpl
    have hgl : ∀ x ∈ l, Good x ∧ nodes x ≤ 1000000 := fun x hx => by
      obtain ⟨i, hi, rfl⟩ := List.getElem_of_mem hx
      have h := allB_true.mp hall i hi
      exact ⟨Good.of h, by have := proper_nodes _ h; omega⟩
    have hnt := proper_nodes t hp
    have hrp := fun (W : World) (hb : Below w.heap.size w W) => rputtop_any t (Good.of hp) (by omega) l hl6 hgl base cap v W (hv.next hb) (hl.next hb)
    cases hpp : isProper (putT l t) with
    | true =>
      refine puts_walk t (putT l t) 0 l base cap v w hv hl hn (fun W bb cap' hb hs => (put_ok t l v bb cap' W (hv.next hb) hs hp hp2).mono ?_) (.inr ⟨hp, hp2, putT l t, ?_, hrp⟩)
      · rintro e w' ⟨v', h1, h2, h3⟩
        exact ⟨v', by rw [h1, fullV_ok hpp], h2, h3⟩
      · unfold wholeT
        rw [if_pos hpp, same_refl]
        rfl
    | false =>
      refine puts_walk t zeroT 5 l base cap v w hv hl hn (fun W bb cap' hb hs => (put_ok t l v bb cap' W (hv.next hb) hs hp hp2).mono ?_) (.inr ⟨hp, hp2, putT l t, ?_, hrp⟩)
      · rintro e w' ⟨v', h1, h2, h3⟩
        exact ⟨zeroV, by rw [h1, fullV_bad hpp], vo_zero _ w', h3⟩
      · unfold wholeT
        rw [if_neg (by rw [hpp]; simp), same_refl]
        rfl
  · have hf : (isProper t && propersT l) = false := by simpa using hpt
    refine puts_walk t zeroT 2 l base cap v w hv hl hn (fun W bb cap' hb hs => (put_bad t l v bb cap' W (hv.next hb) hs ?_).mono ?_) (.inl ⟨hf, same_refl _, rfl⟩)
    · cases h1 : isProper t with
      | false => exact .inl rfl
      | true => rw [h1] at hf; exact .inr (by simpa using hf)
    · rintro e w' ⟨h1, h3⟩
      exact ⟨zeroV, h1, vo_zero _ w', h3⟩

section
variable {H : Type} {enc : TypeId × Value → H} {P : Program} {w : World} {base : Nat} {spare : Nat → Bool} {held : Bool}
/-- a list of types that comes in -/
theorem open_sl {T S I St : TypeId} {f0 f1 f2 f3 : Field} (L : Laid P T S I St f0 f1 f2 f3) {fuel : Nat} {v3 : Value} {x : DataW H × List MemPlace} (g3 : DataW.trod enc P w base spare held fuel S [v3] = some x) : ∃ l b cap, v3 = .slice b (List.length l) cap ∧ Sl w b l := by
  rcases DataW.trod_slice L.hS g3 with ⟨h3, _⟩ | ⟨a, len, cap, elems, rest, m, hm, h3, _, _, hlc, hcm, hel, hE, _, _⟩
  · exact ⟨[], none, 0, by injection h3, Nat.zero_le _, .inl rfl⟩
  · have h3' : v3 = .slice (some a) len cap := by injection h3
    have each : ∀ i, i < len → ∃ t, ∃ cs', w.cells? base (a.add (i * 4)) 4 = some cs' ∧ Cells w t cs' := fun i hi => by
      have hi2 := hE i hi
      rw [L.cT] at hi2
      rw [List.getElem?_eq_getElem (by omega)] at hi2
      obtain ⟨cs', c1, c2⟩ := Option.bind_eq_some_iff.1 hi2
      obtain ⟨t, ht⟩ := open_cells L m cs' _ c2
      exact ⟨t, cs', c1, ht⟩
    have hin : Inhabited Ty := ⟨.mk 0 0 [] []⟩
    obtain ⟨f, hfi⟩ := Go.Deep.choose_lt each
    refine ⟨(List.range len).map f, some a, cap, by rw [h3', List.length_map, List.length_range], by rw [List.length_map, List.length_range]; omega, ?_⟩
    by_cases hz : len = 0
    · left
      rw [hz]; rfl
    · right
      obtain ⟨cs0, c0, _⟩ := hfi 0 (by omega)
      obtain ⟨_, hl0, hc0⟩ := World.cells?_some c0
      have ha0 : w.cell? a = cs0[0]? := by
        have := hc0 0 (by omega)
        rw [Go.Deep.add_add] at this
        have e : a.add (0 * 4 + 0) = a := by unfold Addr.add; rw [if_pos (by omega)]
        rw [e] at this
        exact this
      rw [List.getElem?_eq_getElem (by omega)] at ha0
      have hsp := spot_none ha0
      obtain ⟨g, o, sp⟩ := a
      have hsp' : sp = none := hsp
      subst hsp'
      refine ⟨g, o, rfl, row_of (fun i hi => ?_)⟩
      have hi' : i < len := by
        have : i < ((List.range len).map f).length := hi
        rwa [List.length_map, List.length_range] at this
      obtain ⟨cs', c1, c2⟩ := hfi i hi'
      obtain ⟨_, hl', hc'⟩ := World.cells?_some c1
      have ef : ((List.range len).map f)[i]'hi = f i := (List.getElem_map (f := f) (l := List.range len) (i := i) (h := hi)).trans (congrArg f (List.getElem_range ..))
      show At w g (o + i * 4) (((List.range len).map f)[i]'hi)
      rw [ef]
      refine at_of_cells c2 (fun j hj => ?_)
      have := hc' j hj
      rw [add_none, add_none] at this
      exact this
end

end Ty
end Go.Proofs.Ytkedhnahgpmkaaa
