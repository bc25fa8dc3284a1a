/- What an argument that is read holds: environments, metavariables, rigid variables; and how much it is at least. Conditions: none. -/
import Derived.Test.YtfjgebdpbmnicaaRows
import Derived.Test.YtfjgebdpbmnicaaJ49
import Derived.Deep.Slices
import Derived.Carry
import Derived.WideShapes
import Derived.Test.YtfjgebdpbmnicaaJ48
import Derived.Test.YtfjgebdpbmnicaaJ07
import Derived.Test.YtfjgebdpbmnicaaJ22
import Derived.Deep.RegionHeld3
import Derived.Deep.DeepCutAuto
namespace Go.Proofs.Ytfjgebdpbmnicaa
open Go.ChangeShapes Go.WideShapes Go.ChangeAt Go.RowKit

namespace Ty
section
variable {H : Type} {enc : TypeId × Value → H} {w : World} {base : Nat} {spare : Nat → Bool} {held : Bool}
theorem laid : ∃ f0 f1 f2 f3, Ty.Laid Try.prog 36 32 3 9 f0 f1 f2 f3 :=
  ⟨_, _, _, _, { hT := Try.underlying36, hS := Try.underlying32, hI := Try.underlying3, hSt := Try.underlying9, t0 := by kernel_rfl, t1 := by kernel_rfl, t2 := by kernel_rfl, t3 := by kernel_rfl, o0 := by kernel_rfl, o1 := by kernel_rfl, o2 := by kernel_rfl, o3 := by kernel_rfl, cT := by kernel_rfl, cI := by kernel_rfl, cSt := by kernel_rfl, cS := by kernel_rfl }⟩
theorem bulk_one (d : DataW H) : 1 ≤ Rows.uptoBulk d := by
  cases d with
  | lit l => cases l <;> simp [Rows.uptoBulk]
  | nil => simp [Rows.uptoBulk]
  | ptr d => simp [Rows.uptoBulk]
  | slice elems spare => simp [Rows.uptoBulk]
  | agg parts => simp [Rows.uptoBulk]
  | iface t d => simp [Rows.uptoBulk]
  | map entries => simp [Rows.uptoBulk]
  | held h => simp [Rows.uptoBulk]
theorem bulk_part {d : DataW H} {l : List (DataW H)} (h : d ∈ l) : Rows.uptoBulk d ≤ Rows.uptoBulkAll l := by
  induction l with
  | nil => cases h
  | cons x r ih =>
    simp only [Rows.uptoBulkAll]
    cases List.mem_cons.1 h with
    | inl e => subst e; omega
    | inr e => have := ih e; omega
theorem bulk_len (c : Nat) (l : List (DataW H)) (h : ∀ d ∈ l, c ≤ Rows.uptoBulk d) : c * l.length ≤ Rows.uptoBulkAll l := by
  induction l with
  | nil => simp [Rows.uptoBulkAll]
  | cons x r ih =>
    have h1 := h x (List.mem_cons_self ..)
    have h2 := ih (fun d hd => h d (List.mem_cons_of_mem _ hd))
    simp only [Rows.uptoBulkAll, List.length_cons, Nat.mul_add, Nat.mul_one]
    omega
theorem sl_form {e S : TypeId} (hS : Try.prog.underlying S = some (.slice e)) {fuel : Nat} {v : Value} {x : DataW H × List MemPlace} (h : DataW.trod enc Try.prog w base spare held fuel S [v] = some x) : ∃ b n c, v = .slice b n c ∧ n ≤ maxLen := by
  rcases DataW.trod_slice hS h with ⟨h3, _⟩ | ⟨a, len, cap, elems, rest, m, hm, h3, _, _, hlc, hcm, _⟩
  · exact ⟨none, 0, 0, by injection h3, Nat.zero_le _⟩
  · exact ⟨some a, len, cap, by injection h3, by omega⟩
theorem open_slG {e S : TypeId} {sz : Nat} (hS : Try.prog.underlying S = some (.slice e)) (hc : Try.prog.cellsOf e = sz) (hsz : 0 < sz) {α : Type} {R : World → Nat → Nat → α → Prop} (B : α → Nat)
    (each : ∀ fuel cs (y : DataW H × List MemPlace), DataW.trod enc Try.prog w base spare held fuel e cs = some y → ∃ d : α, B d ≤ Rows.uptoBulk y.1 ∧ cs.length = sz ∧ (∀ u ∈ cs, u.oneCell' = true) ∧ ∀ g o, (∀ j, j < sz → w.cell? ⟨g, o + j, none⟩ = cs[j]?) → R w g o d)
    {fuel : Nat} {v : Value} {x : DataW H × List MemPlace} (h : DataW.trod enc Try.prog w base spare held fuel S [v] = some x) :
    ∃ (l : List α) (b : Option Addr) (cap : Nat) (vals : List Value), v = .slice b l.length cap ∧ SlG sz R w b l ∧ RawAt w b l.length sz vals ∧ l.length ≤ cap ∧ (∀ c, (∀ fuel cs (y : DataW H × List MemPlace), DataW.trod enc Try.prog w base spare held fuel e cs = some y → c ≤ Rows.uptoBulk y.1) → c * l.length ≤ Rows.uptoBulk x.1) ∧ ∀ d ∈ l, B d ≤ Rows.uptoBulk x.1 := by
  rcases DataW.trod_slice hS h with ⟨h3, hx⟩ | ⟨a, len, cap, elems, rest, m, hm, h3, hx, _, hlc, hcm, hel, hE, _, _⟩
  · refine ⟨[], none, 0, [], by injection h3, ⟨Nat.zero_le _, .inl rfl⟩, ⟨by simp, by simp, fun _ => rfl, fun _ h => by cases h⟩, Nat.zero_le _, fun c _ => by simp, fun _ h => by cases h⟩
  · have h3' : v = .slice (some a) len cap := by injection h3
    have hlen : ∀ i, i < len → ∃ d : α, ∃ cs' y, w.cells? base (a.add (i * sz)) sz = some cs' ∧ elems[i]? = some y ∧ DataW.trod enc Try.prog w base spare held m e cs' = some y ∧ B d ≤ Rows.uptoBulk y.1 ∧ cs'.length = sz ∧ (∀ u ∈ cs', u.oneCell' = true) ∧ ∀ g o, (∀ j, j < sz → w.cell? ⟨g, o + j, none⟩ = cs'[j]?) → R w g o d := fun i hi => by
      have hi2 := hE i hi
      rw [hc] at hi2
      rw [List.getElem?_eq_getElem (by omega)] at hi2
      obtain ⟨cs', c1, c2⟩ := Option.bind_eq_some_iff.1 hi2
      obtain ⟨d, d1, d2, d3, d4⟩ := each m cs' _ c2
      exact ⟨d, cs', _, c1, List.getElem?_eq_getElem (by omega), c2, d1, d2, d3, d4⟩
    have hbk : ∀ c, (∀ fuel cs (y : DataW H × List MemPlace), DataW.trod enc Try.prog w base spare held fuel e cs = some y → c ≤ Rows.uptoBulk y.1) → c * len ≤ Rows.uptoBulk x.1 := fun c hcc => by
      rw [hx]
      simp only [Rows.uptoBulk]
      have h1 := bulk_len c (elems.map (·.1)) (fun d hd => by
        obtain ⟨y, hy, rfl⟩ := List.mem_map.1 hd
        obtain ⟨i, hi, rfl⟩ := List.getElem_of_mem hy
        obtain ⟨_, cs', y', _, e2, e3, _⟩ := hlen i (by omega)
        rw [List.getElem?_eq_getElem hi] at e2
        injection e2 with e2
        rw [e2]
        exact hcc _ _ _ e3)
      rw [List.length_map, hel] at h1
      omega
    by_cases hz : len = 0
    · subst hz
      refine ⟨[], some a, cap, [], h3', ⟨Nat.zero_le _, .inl rfl⟩, ⟨by simp, by simp, (by simp), fun ad _ j u hu => by simp at hu⟩, Nat.zero_le _, fun c _ => by simp, fun _ h => by cases h⟩
    · have hin : Nonempty α := ⟨(hlen 0 (by omega)).choose⟩
      have hin : Inhabited α := ⟨Classical.choice hin⟩
      obtain ⟨f, hf⟩ := Go.Deep.choose_lt hlen
      have hin2 : Inhabited (List Value) := ⟨[]⟩
      obtain ⟨cf, hcf⟩ := Go.Deep.choose_lt hf
      obtain ⟨cs0, y0, c0⟩ : ∃ cs0 y0, w.cells? base (a.add (0 * sz)) sz = some cs0 ∧ cs0.length = sz ∧ elems[0]? = some y0 := by
        obtain ⟨y, k1, k2, _, _, k3, _⟩ := hcf 0 (by omega)
        exact ⟨_, y, k1, k3, k2⟩
      obtain ⟨_, hl0, hc0⟩ := World.cells?_some c0.1
      have ha0 : w.cell? a = cs0[0]? := by
        have := hc0 0 (by omega)
        rw [Go.Deep.add_add] at this
        have e : a.add (0 * sz + 0) = a := by unfold Addr.add; rw [if_pos (by omega)]
        rw [e] at this
        exact this
      rw [List.getElem?_eq_getElem (by have := c0.2.1; omega)] at ha0
      have hsp := spot_none ha0
      obtain ⟨g, oo, sp⟩ := a
      have hsp' : sp = none := hsp
      subst hsp'
      have hcell : ∀ i, i < len → ∀ j, j < sz → w.cell? ⟨g, oo + i * sz + j, none⟩ = (cf i)[j]? := fun i hi j hj => by
        obtain ⟨y, k1, _⟩ := hcf i hi
        obtain ⟨_, hl', hc'⟩ := World.cells?_some k1
        have := hc' j hj
        rw [add_none, add_none] at this
        exact this
      have hcl : ∀ i, i < len → (cf i).length = sz := fun i hi => by
        obtain ⟨y, _, _, _, _, k, _⟩ := hcf i hi
        exact k
      have hone : ∀ i, i < len → ∀ u ∈ cf i, u.oneCell' = true := fun i hi => by
        obtain ⟨y, _, _, _, _, _, k, _⟩ := hcf i hi
        exact k
      have key : ∀ n, n ≤ len → ((List.range n).flatMap cf).length = n * sz ∧ (∀ u ∈ (List.range n).flatMap cf, u.oneCell' = true) ∧ ∀ j u, ((List.range n).flatMap cf)[j]? = some u → w.cell? ⟨g, oo + j, none⟩ = some u := by
        intro n
        induction n with
        | zero => intro _; exact ⟨by simp, by simp, fun j u hu => by simp at hu⟩
        | succ n ih =>
          intro hn
          obtain ⟨i1, i2, i3⟩ := ih (by omega)
          rw [List.range_succ, List.flatMap_append, show [n].flatMap cf = cf n from by simp]
          refine ⟨by rw [List.length_append, i1, hcl n (by omega), Nat.add_mul, Nat.one_mul], fun u hu => ?_, fun j u hu => ?_⟩
          · rcases List.mem_append.1 hu with hu | hu
            · exact i2 u hu
            · exact hone n (by omega) u hu
          · by_cases hj : j < n * sz
            · rw [List.getElem?_append_left (by rw [i1]; exact hj)] at hu
              exact i3 j u hu
            · rw [List.getElem?_append_right (by rw [i1]; omega), i1] at hu
              have hjs : j - n * sz < sz := by
                have := (List.getElem?_eq_some_iff.1 hu).1
                rw [hcl n (by omega)] at this
                exact this
              have := hcell n (by omega) (j - n * sz) hjs
              rw [hu, show oo + n * sz + (j - n * sz) = oo + j from by omega] at this
              exact this
      obtain ⟨v1, v2, v3⟩ := key len (Nat.le_refl _)
      have hll : ((List.range len).map f).length = len := by rw [List.length_map, List.length_range]
      have hraw : ∀ ad, (some ⟨g, oo, none⟩ : Option Addr) = some ad → ∀ j u, ((List.range len).flatMap cf)[j]? = some u → w.cell? (ad.add j) = some u := fun ad e j u hu => by
        have e' := Option.some.inj e
        rw [← e', Addr.add_lit]
        exact v3 j u hu
      refine ⟨(List.range len).map f, some ⟨g, oo, none⟩, cap, (List.range len).flatMap cf, by rw [h3', hll], ⟨by rw [hll]; exact Nat.le_trans hlc hcm, .inr ⟨g, oo, rfl, fun i hi => ?_⟩⟩, ⟨by rw [hll, v1], v2, (fun e => by cases e), fun ad e j u hu => hraw ad e j u hu⟩, by rw [hll]; exact hlc, fun c hcc => by rw [hll]; exact hbk c hcc, fun d hd => ?_⟩
      · have hi' : i < len := by rw [hll] at hi; exact hi
        have ef : ((List.range len).map f)[i]'hi = f i := (List.getElem_map (f := f) (l := List.range len) (i := i) (h := hi)).trans (congrArg f (List.getElem_range ..))
        rw [ef]
        obtain ⟨y, _, _, _, _, _, _, k⟩ := hcf i hi'
        exact k g _ (fun j hj => hcell i hi' j hj)
      · obtain ⟨i, hi, rfl⟩ := List.mem_map.1 hd
        have hi' : i < len := List.mem_range.1 hi
        obtain ⟨y, _, k2, _, k3, _⟩ := hcf i hi'
        refine Nat.le_trans k3 ?_
        rw [hx]
        simp only [Rows.uptoBulk]
        have := bulk_part (d := y.1) (l := elems.map (·.1)) (List.mem_map.2 ⟨y, List.mem_of_getElem? k2, rfl⟩)
        omega

end
end Ty
end Go.Proofs.Ytfjgebdpbmnicaa

/- What the structs that come in hold. Conditions: none. -/
namespace Go.Proofs.Ytfjgebdpbmnicaa
open Go.ChangeShapes Go.WideShapes Go.ChangeAt Go.RowKit

namespace Ty
section
variable {H : Type} {enc : TypeId × Value → H} {w : World} {base : Nat} {spare : Nat → Bool} {held : Bool}
theorem cells3 : Try.prog.cellsOf 3 = 1 := by kernel_rfl
theorem cells4 : Try.prog.cellsOf 4 = 1 := by kernel_rfl
theorem cells9 : Try.prog.cellsOf 9 = 1 := by kernel_rfl
theorem cells22 : Try.prog.cellsOf 22 = 1 := by kernel_rfl
theorem cells23 : Try.prog.cellsOf 23 = 1 := by kernel_rfl
theorem cells24 : Try.prog.cellsOf 24 = 1 := by kernel_rfl
theorem cells25 : Try.prog.cellsOf 25 = 1 := by kernel_rfl
theorem cells26 : Try.prog.cellsOf 26 = 1 := by kernel_rfl
theorem cells27 : Try.prog.cellsOf 27 = 1 := by kernel_rfl
theorem cells29 : Try.prog.cellsOf 29 = 6 := by kernel_rfl
theorem cells30 : Try.prog.cellsOf 30 = 1 := by kernel_rfl
theorem cells31 : Try.prog.cellsOf 31 = 1 := by kernel_rfl
theorem cells32 : Try.prog.cellsOf 32 = 1 := by kernel_rfl
theorem cells36 : Try.prog.cellsOf 36 = 4 := by kernel_rfl
theorem cells37 : Try.prog.cellsOf 37 = 1 := by kernel_rfl
theorem cells44 : Try.prog.cellsOf 44 = 1 := by kernel_rfl
theorem cells79 : Try.prog.cellsOf 79 = 1 := by kernel_rfl
theorem cells86 : Try.prog.cellsOf 86 = 1 := by kernel_rfl
theorem cells46 : Try.prog.cellsOf 46 = 7 := by kernel_rfl
set_option maxRecDepth 100000 in
theorem parts46 {fuel : Nat} {cs : List Value} {x : DataW H × List MemPlace} (h : DataW.trod enc Try.prog w base spare held fuel 46 cs = some x) :
    ∃ (v0 v1 v2 v3 v4 v5 v6 : Value) (y0 y1 y2 y3 : DataW H × List MemPlace) (n : Nat), cs = [v0, v1, v2, v3, v4, v5, v6] ∧ x.1 = .agg [y0.1, y1.1, y2.1, y3.1] ∧ DataW.trod enc Try.prog w base spare held n 9 [v0] = some y0 ∧ DataW.trod enc Try.prog w base spare held n 36 [v1, v2, v3, v4] = some y1 ∧ DataW.trod enc Try.prog w base spare held n 44 [v5] = some y2 ∧ DataW.trod enc Try.prog w base spare held n 4 [v6] = some y3 := by
  obtain ⟨xs, n, _, hx, hlen, hxs, hf⟩ := DataW.trod_struct Try.underlying46 h
  rw [cells46] at hlen
  match cs, hlen with
  | [v0, v1, v2, v3, v4, v5, v6], _ =>
    match xs, hxs with
    | [y0, y1, y2, y3], _ =>
      have g0 := hf 0 _ rfl
      have g0 : DataW.trod enc Try.prog w base spare held n 9 (([v0, v1, v2, v3, v4, v5, v6].drop 0).take (Try.prog.cellsOf 9)) = [y0, y1, y2, y3][0]? := g0
      rw [cells9] at g0
      have g1 := hf 1 _ rfl
      have g1 : DataW.trod enc Try.prog w base spare held n 36 (([v0, v1, v2, v3, v4, v5, v6].drop 1).take (Try.prog.cellsOf 36)) = [y0, y1, y2, y3][1]? := g1
      rw [cells36] at g1
      have g2 := hf 2 _ rfl
      have g2 : DataW.trod enc Try.prog w base spare held n 44 (([v0, v1, v2, v3, v4, v5, v6].drop 5).take (Try.prog.cellsOf 44)) = [y0, y1, y2, y3][2]? := g2
      rw [cells44] at g2
      have g3 := hf 3 _ rfl
      have g3 : DataW.trod enc Try.prog w base spare held n 4 (([v0, v1, v2, v3, v4, v5, v6].drop 6).take (Try.prog.cellsOf 4)) = [y0, y1, y2, y3][3]? := g3
      rw [cells4] at g3
      exact ⟨v0, v1, v2, v3, v4, v5, v6, y0, y1, y2, y3, n, rfl, by rw [hx]; rfl, g0, g1, g2, g3⟩
theorem cells88 : Try.prog.cellsOf 88 = 8 := by kernel_rfl
set_option maxRecDepth 100000 in
theorem parts88 {fuel : Nat} {cs : List Value} {x : DataW H × List MemPlace} (h : DataW.trod enc Try.prog w base spare held fuel 88 cs = some x) :
    ∃ (v0 v1 v2 v3 v4 v5 v6 v7 : Value) (y0 y1 y2 y3 y4 y5 y6 y7 : DataW H × List MemPlace) (n : Nat), cs = [v0, v1, v2, v3, v4, v5, v6, v7] ∧ x.1 = .agg [y0.1, y1.1, y2.1, y3.1, y4.1, y5.1, y6.1, y7.1] ∧ DataW.trod enc Try.prog w base spare held n 9 [v0] = some y0 ∧ DataW.trod enc Try.prog w base spare held n 9 [v1] = some y1 ∧ DataW.trod enc Try.prog w base spare held n 32 [v2] = some y2 ∧ DataW.trod enc Try.prog w base spare held n 32 [v3] = some y3 ∧ DataW.trod enc Try.prog w base spare held n 86 [v4] = some y4 ∧ DataW.trod enc Try.prog w base spare held n 32 [v5] = some y5 ∧ DataW.trod enc Try.prog w base spare held n 32 [v6] = some y6 ∧ DataW.trod enc Try.prog w base spare held n 44 [v7] = some y7 := by
  obtain ⟨xs, n, _, hx, hlen, hxs, hf⟩ := DataW.trod_struct Try.underlying88 h
  rw [cells88] at hlen
  match cs, hlen with
  | [v0, v1, v2, v3, v4, v5, v6, v7], _ =>
    match xs, hxs with
    | [y0, y1, y2, y3, y4, y5, y6, y7], _ =>
      have g0 := hf 0 _ rfl
      have g0 : DataW.trod enc Try.prog w base spare held n 9 (([v0, v1, v2, v3, v4, v5, v6, v7].drop 0).take (Try.prog.cellsOf 9)) = [y0, y1, y2, y3, y4, y5, y6, y7][0]? := g0
      rw [cells9] at g0
      have g1 := hf 1 _ rfl
      have g1 : DataW.trod enc Try.prog w base spare held n 9 (([v0, v1, v2, v3, v4, v5, v6, v7].drop 1).take (Try.prog.cellsOf 9)) = [y0, y1, y2, y3, y4, y5, y6, y7][1]? := g1
      rw [cells9] at g1
      have g2 := hf 2 _ rfl
      have g2 : DataW.trod enc Try.prog w base spare held n 32 (([v0, v1, v2, v3, v4, v5, v6, v7].drop 2).take (Try.prog.cellsOf 32)) = [y0, y1, y2, y3, y4, y5, y6, y7][2]? := g2
      rw [cells32] at g2
      have g3 := hf 3 _ rfl
      have g3 : DataW.trod enc Try.prog w base spare held n 32 (([v0, v1, v2, v3, v4, v5, v6, v7].drop 3).take (Try.prog.cellsOf 32)) = [y0, y1, y2, y3, y4, y5, y6, y7][3]? := g3
      rw [cells32] at g3
      have g4 := hf 4 _ rfl
      have g4 : DataW.trod enc Try.prog w base spare held n 86 (([v0, v1, v2, v3, v4, v5, v6, v7].drop 4).take (Try.prog.cellsOf 86)) = [y0, y1, y2, y3, y4, y5, y6, y7][4]? := g4
      rw [cells86] at g4
      have g5 := hf 5 _ rfl
      have g5 : DataW.trod enc Try.prog w base spare held n 32 (([v0, v1, v2, v3, v4, v5, v6, v7].drop 5).take (Try.prog.cellsOf 32)) = [y0, y1, y2, y3, y4, y5, y6, y7][5]? := g5
      rw [cells32] at g5
      have g6 := hf 6 _ rfl
      have g6 : DataW.trod enc Try.prog w base spare held n 32 (([v0, v1, v2, v3, v4, v5, v6, v7].drop 6).take (Try.prog.cellsOf 32)) = [y0, y1, y2, y3, y4, y5, y6, y7][6]? := g6
      rw [cells32] at g6
      have g7 := hf 7 _ rfl
      have g7 : DataW.trod enc Try.prog w base spare held n 44 (([v0, v1, v2, v3, v4, v5, v6, v7].drop 7).take (Try.prog.cellsOf 44)) = [y0, y1, y2, y3, y4, y5, y6, y7][7]? := g7
      rw [cells44] at g7
      exact ⟨v0, v1, v2, v3, v4, v5, v6, v7, y0, y1, y2, y3, y4, y5, y6, y7, n, rfl, by rw [hx]; rfl, g0, g1, g2, g3, g4, g5, g6, g7⟩
theorem cells39 : Try.prog.cellsOf 39 = 7 := by kernel_rfl
set_option maxRecDepth 100000 in
theorem parts39 {fuel : Nat} {cs : List Value} {x : DataW H × List MemPlace} (h : DataW.trod enc Try.prog w base spare held fuel 39 cs = some x) :
    ∃ (v0 v1 v2 v3 v4 v5 v6 : Value) (y0 y1 y2 y3 : DataW H × List MemPlace) (n : Nat), cs = [v0, v1, v2, v3, v4, v5, v6] ∧ x.1 = .agg [y0.1, y1.1, y2.1, y3.1] ∧ DataW.trod enc Try.prog w base spare held n 9 [v0] = some y0 ∧ DataW.trod enc Try.prog w base spare held n 36 [v1, v2, v3, v4] = some y1 ∧ DataW.trod enc Try.prog w base spare held n 3 [v5] = some y2 ∧ DataW.trod enc Try.prog w base spare held n 37 [v6] = some y3 := by
  obtain ⟨xs, n, _, hx, hlen, hxs, hf⟩ := DataW.trod_struct Try.underlying39 h
  rw [cells39] at hlen
  match cs, hlen with
  | [v0, v1, v2, v3, v4, v5, v6], _ =>
    match xs, hxs with
    | [y0, y1, y2, y3], _ =>
      have g0 := hf 0 _ rfl
      have g0 : DataW.trod enc Try.prog w base spare held n 9 (([v0, v1, v2, v3, v4, v5, v6].drop 0).take (Try.prog.cellsOf 9)) = [y0, y1, y2, y3][0]? := g0
      rw [cells9] at g0
      have g1 := hf 1 _ rfl
      have g1 : DataW.trod enc Try.prog w base spare held n 36 (([v0, v1, v2, v3, v4, v5, v6].drop 1).take (Try.prog.cellsOf 36)) = [y0, y1, y2, y3][1]? := g1
      rw [cells36] at g1
      have g2 := hf 2 _ rfl
      have g2 : DataW.trod enc Try.prog w base spare held n 3 (([v0, v1, v2, v3, v4, v5, v6].drop 5).take (Try.prog.cellsOf 3)) = [y0, y1, y2, y3][2]? := g2
      rw [cells3] at g2
      have g3 := hf 3 _ rfl
      have g3 : DataW.trod enc Try.prog w base spare held n 37 (([v0, v1, v2, v3, v4, v5, v6].drop 6).take (Try.prog.cellsOf 37)) = [y0, y1, y2, y3][3]? := g3
      rw [cells37] at g3
      exact ⟨v0, v1, v2, v3, v4, v5, v6, y0, y1, y2, y3, n, rfl, by rw [hx]; rfl, g0, g1, g2, g3⟩
theorem cells81 : Try.prog.cellsOf 81 = 5 := by kernel_rfl
set_option maxRecDepth 100000 in
theorem parts81 {fuel : Nat} {cs : List Value} {x : DataW H × List MemPlace} (h : DataW.trod enc Try.prog w base spare held fuel 81 cs = some x) :
    ∃ (v0 v1 v2 v3 v4 : Value) (y0 y1 y2 y3 y4 : DataW H × List MemPlace) (n : Nat), cs = [v0, v1, v2, v3, v4] ∧ x.1 = .agg [y0.1, y1.1, y2.1, y3.1, y4.1] ∧ DataW.trod enc Try.prog w base spare held n 9 [v0] = some y0 ∧ DataW.trod enc Try.prog w base spare held n 32 [v1] = some y1 ∧ DataW.trod enc Try.prog w base spare held n 32 [v2] = some y2 ∧ DataW.trod enc Try.prog w base spare held n 79 [v3] = some y3 ∧ DataW.trod enc Try.prog w base spare held n 27 [v4] = some y4 := by
  obtain ⟨xs, n, _, hx, hlen, hxs, hf⟩ := DataW.trod_struct Try.underlying81 h
  rw [cells81] at hlen
  match cs, hlen with
  | [v0, v1, v2, v3, v4], _ =>
    match xs, hxs with
    | [y0, y1, y2, y3, y4], _ =>
      have g0 := hf 0 _ rfl
      have g0 : DataW.trod enc Try.prog w base spare held n 9 (([v0, v1, v2, v3, v4].drop 0).take (Try.prog.cellsOf 9)) = [y0, y1, y2, y3, y4][0]? := g0
      rw [cells9] at g0
      have g1 := hf 1 _ rfl
      have g1 : DataW.trod enc Try.prog w base spare held n 32 (([v0, v1, v2, v3, v4].drop 1).take (Try.prog.cellsOf 32)) = [y0, y1, y2, y3, y4][1]? := g1
      rw [cells32] at g1
      have g2 := hf 2 _ rfl
      have g2 : DataW.trod enc Try.prog w base spare held n 32 (([v0, v1, v2, v3, v4].drop 2).take (Try.prog.cellsOf 32)) = [y0, y1, y2, y3, y4][2]? := g2
      rw [cells32] at g2
      have g3 := hf 3 _ rfl
      have g3 : DataW.trod enc Try.prog w base spare held n 79 (([v0, v1, v2, v3, v4].drop 3).take (Try.prog.cellsOf 79)) = [y0, y1, y2, y3, y4][3]? := g3
      rw [cells79] at g3
      have g4 := hf 4 _ rfl
      have g4 : DataW.trod enc Try.prog w base spare held n 27 (([v0, v1, v2, v3, v4].drop 4).take (Try.prog.cellsOf 27)) = [y0, y1, y2, y3, y4][4]? := g4
      rw [cells27] at g4
      exact ⟨v0, v1, v2, v3, v4, y0, y1, y2, y3, y4, n, rfl, by rw [hx]; rfl, g0, g1, g2, g3, g4⟩
theorem cells92 : Try.prog.cellsOf 92 = 10 := by kernel_rfl
set_option maxRecDepth 100000 in
theorem parts92 {fuel : Nat} {cs : List Value} {x : DataW H × List MemPlace} (h : DataW.trod enc Try.prog w base spare held fuel 92 cs = some x) :
    ∃ (v0 v1 v2 v3 v4 v5 v6 v7 v8 v9 : Value) (y0 y1 y2 y3 : DataW H × List MemPlace) (n : Nat), cs = [v0, v1, v2, v3, v4, v5, v6, v7, v8, v9] ∧ x.1 = .agg [y0.1, y1.1, y2.1, y3.1] ∧ DataW.trod enc Try.prog w base spare held n 36 [v0, v1, v2, v3] = some y0 ∧ DataW.trod enc Try.prog w base spare held n 3 [v4] = some y1 ∧ DataW.trod enc Try.prog w base spare held n 4 [v5] = some y2 ∧ DataW.trod enc Try.prog w base spare held n 36 [v6, v7, v8, v9] = some y3 := by
  obtain ⟨xs, n, _, hx, hlen, hxs, hf⟩ := DataW.trod_struct Try.underlying92 h
  rw [cells92] at hlen
  match cs, hlen with
  | [v0, v1, v2, v3, v4, v5, v6, v7, v8, v9], _ =>
    match xs, hxs with
    | [y0, y1, y2, y3], _ =>
      have g0 := hf 0 _ rfl
      have g0 : DataW.trod enc Try.prog w base spare held n 36 (([v0, v1, v2, v3, v4, v5, v6, v7, v8, v9].drop 0).take (Try.prog.cellsOf 36)) = [y0, y1, y2, y3][0]? := g0
      rw [cells36] at g0
      have g1 := hf 1 _ rfl
      have g1 : DataW.trod enc Try.prog w base spare held n 3 (([v0, v1, v2, v3, v4, v5, v6, v7, v8, v9].drop 4).take (Try.prog.cellsOf 3)) = [y0, y1, y2, y3][1]? := g1
      rw [cells3] at g1
      have g2 := hf 2 _ rfl
      have g2 : DataW.trod enc Try.prog w base spare held n 4 (([v0, v1, v2, v3, v4, v5, v6, v7, v8, v9].drop 5).take (Try.prog.cellsOf 4)) = [y0, y1, y2, y3][2]? := g2
      rw [cells4] at g2
      have g3 := hf 3 _ rfl
      have g3 : DataW.trod enc Try.prog w base spare held n 36 (([v0, v1, v2, v3, v4, v5, v6, v7, v8, v9].drop 6).take (Try.prog.cellsOf 36)) = [y0, y1, y2, y3][3]? := g3
      rw [cells36] at g3
      exact ⟨v0, v1, v2, v3, v4, v5, v6, v7, v8, v9, y0, y1, y2, y3, n, rfl, by rw [hx]; rfl, g0, g1, g2, g3⟩
theorem cells96 : Try.prog.cellsOf 96 = 5 := by kernel_rfl
set_option maxRecDepth 100000 in
theorem parts96 {fuel : Nat} {cs : List Value} {x : DataW H × List MemPlace} (h : DataW.trod enc Try.prog w base spare held fuel 96 cs = some x) :
    ∃ (v0 v1 v2 v3 v4 : Value) (y0 y1 : DataW H × List MemPlace) (n : Nat), cs = [v0, v1, v2, v3, v4] ∧ x.1 = .agg [y0.1, y1.1] ∧ DataW.trod enc Try.prog w base spare held n 36 [v0, v1, v2, v3] = some y0 ∧ DataW.trod enc Try.prog w base spare held n 3 [v4] = some y1 := by
  obtain ⟨xs, n, _, hx, hlen, hxs, hf⟩ := DataW.trod_struct Try.underlying96 h
  rw [cells96] at hlen
  match cs, hlen with
  | [v0, v1, v2, v3, v4], _ =>
    match xs, hxs with
    | [y0, y1], _ =>
      have g0 := hf 0 _ rfl
      have g0 : DataW.trod enc Try.prog w base spare held n 36 (([v0, v1, v2, v3, v4].drop 0).take (Try.prog.cellsOf 36)) = [y0, y1][0]? := g0
      rw [cells36] at g0
      have g1 := hf 1 _ rfl
      have g1 : DataW.trod enc Try.prog w base spare held n 3 (([v0, v1, v2, v3, v4].drop 4).take (Try.prog.cellsOf 3)) = [y0, y1][1]? := g1
      rw [cells3] at g1
      exact ⟨v0, v1, v2, v3, v4, y0, y1, n, rfl, by rw [hx]; rfl, g0, g1⟩
set_option maxRecDepth 100000 in
theorem parts29 {fuel : Nat} {cs : List Value} {x : DataW H × List MemPlace} (h : DataW.trod enc Try.prog w base spare held fuel 29 cs = some x) :
    ∃ (v0 v1 v2 v3 v4 v5 : Value) (y0 y1 y2 y3 y4 y5 : DataW H × List MemPlace) (n : Nat), cs = [v0, v1, v2, v3, v4, v5] ∧ x.1 = .agg [y0.1, y1.1, y2.1, y3.1, y4.1, y5.1] ∧ DataW.trod enc Try.prog w base spare held n 22 [v0] = some y0 ∧ DataW.trod enc Try.prog w base spare held n 23 [v1] = some y1 ∧ DataW.trod enc Try.prog w base spare held n 24 [v2] = some y2 ∧ DataW.trod enc Try.prog w base spare held n 25 [v3] = some y3 ∧ DataW.trod enc Try.prog w base spare held n 26 [v4] = some y4 ∧ DataW.trod enc Try.prog w base spare held n 27 [v5] = some y5 := by
  obtain ⟨xs, n, _, hx, hlen, hxs, hf⟩ := DataW.trod_struct Try.underlying29 h
  rw [cells29] at hlen
  match cs, hlen with
  | [v0, v1, v2, v3, v4, v5], _ =>
    match xs, hxs with
    | [y0, y1, y2, y3, y4, y5], _ =>
      have g0 := hf 0 _ rfl
      have g0 : DataW.trod enc Try.prog w base spare held n 22 (([v0, v1, v2, v3, v4, v5].drop 0).take (Try.prog.cellsOf 22)) = [y0, y1, y2, y3, y4, y5][0]? := g0
      rw [cells22] at g0
      have g1 := hf 1 _ rfl
      have g1 : DataW.trod enc Try.prog w base spare held n 23 (([v0, v1, v2, v3, v4, v5].drop 1).take (Try.prog.cellsOf 23)) = [y0, y1, y2, y3, y4, y5][1]? := g1
      rw [cells23] at g1
      have g2 := hf 2 _ rfl
      have g2 : DataW.trod enc Try.prog w base spare held n 24 (([v0, v1, v2, v3, v4, v5].drop 2).take (Try.prog.cellsOf 24)) = [y0, y1, y2, y3, y4, y5][2]? := g2
      rw [cells24] at g2
      have g3 := hf 3 _ rfl
      have g3 : DataW.trod enc Try.prog w base spare held n 25 (([v0, v1, v2, v3, v4, v5].drop 3).take (Try.prog.cellsOf 25)) = [y0, y1, y2, y3, y4, y5][3]? := g3
      rw [cells25] at g3
      have g4 := hf 4 _ rfl
      have g4 : DataW.trod enc Try.prog w base spare held n 26 (([v0, v1, v2, v3, v4, v5].drop 4).take (Try.prog.cellsOf 26)) = [y0, y1, y2, y3, y4, y5][4]? := g4
      rw [cells26] at g4
      have g5 := hf 5 _ rfl
      have g5 : DataW.trod enc Try.prog w base spare held n 27 (([v0, v1, v2, v3, v4, v5].drop 5).take (Try.prog.cellsOf 27)) = [y0, y1, y2, y3, y4, y5][5]? := g5
      rw [cells27] at g5
      exact ⟨v0, v1, v2, v3, v4, v5, y0, y1, y2, y3, y4, y5, n, rfl, by rw [hx]; rfl, g0, g1, g2, g3, g4, g5⟩
theorem cells34 : Try.prog.cellsOf 34 = 9 := by kernel_rfl
set_option maxRecDepth 100000 in
theorem parts34 {fuel : Nat} {cs : List Value} {x : DataW H × List MemPlace} (h : DataW.trod enc Try.prog w base spare held fuel 34 cs = some x) :
    ∃ (v0 v1 v2 v3 v4 v5 v6 v7 v8 : Value) (y0 y1 y2 y3 : DataW H × List MemPlace) (n : Nat), cs = [v0, v1, v2, v3, v4, v5, v6, v7, v8] ∧ x.1 = .agg [y0.1, y1.1, y2.1, y3.1] ∧ DataW.trod enc Try.prog w base spare held n 29 [v0, v1, v2, v3, v4, v5] = some y0 ∧ DataW.trod enc Try.prog w base spare held n 30 [v6] = some y1 ∧ DataW.trod enc Try.prog w base spare held n 31 [v7] = some y2 ∧ DataW.trod enc Try.prog w base spare held n 32 [v8] = some y3 := by
  obtain ⟨xs, n, _, hx, hlen, hxs, hf⟩ := DataW.trod_struct Try.underlying34 h
  rw [cells34] at hlen
  match cs, hlen with
  | [v0, v1, v2, v3, v4, v5, v6, v7, v8], _ =>
    match xs, hxs with
    | [y0, y1, y2, y3], _ =>
      have g0 := hf 0 _ rfl
      have g0 : DataW.trod enc Try.prog w base spare held n 29 (([v0, v1, v2, v3, v4, v5, v6, v7, v8].drop 0).take (Try.prog.cellsOf 29)) = [y0, y1, y2, y3][0]? := g0
      rw [cells29] at g0
      have g1 := hf 1 _ rfl
      have g1 : DataW.trod enc Try.prog w base spare held n 30 (([v0, v1, v2, v3, v4, v5, v6, v7, v8].drop 6).take (Try.prog.cellsOf 30)) = [y0, y1, y2, y3][1]? := g1
      rw [cells30] at g1
      have g2 := hf 2 _ rfl
      have g2 : DataW.trod enc Try.prog w base spare held n 31 (([v0, v1, v2, v3, v4, v5, v6, v7, v8].drop 7).take (Try.prog.cellsOf 31)) = [y0, y1, y2, y3][2]? := g2
      rw [cells31] at g2
      have g3 := hf 3 _ rfl
      have g3 : DataW.trod enc Try.prog w base spare held n 32 (([v0, v1, v2, v3, v4, v5, v6, v7, v8].drop 8).take (Try.prog.cellsOf 32)) = [y0, y1, y2, y3][3]? := g3
      rw [cells32] at g3
      exact ⟨v0, v1, v2, v3, v4, v5, v6, v7, v8, y0, y1, y2, y3, n, rfl, by rw [hx]; rfl, g0, g1, g2, g3⟩
theorem str_eq (s : ByteArray) : (⟨s.data.toList.toArray⟩ : ByteArray) = s := by simp
theorem str_len (s : ByteArray) : s.data.toList.length = s.size := by rw [Array.length_toList]; rfl
theorem bulk36 {fuel : Nat} {cs : List Value} {x : DataW H × List MemPlace} (h : DataW.trod enc Try.prog w base spare held fuel 36 cs = some x) : 2 ≤ Rows.uptoBulk x.1 := by
  obtain ⟨xs, n, _, hx, _, hxs, _⟩ := DataW.trod_struct Try.underlying36 h
  rw [hx]
  have h1 := bulk_len 1 (xs.map (·.1)) (fun d _ => bulk_one d)
  rw [List.length_map, hxs, show (#[_, _, _, _] : Array Field).size = 4 from rfl] at h1
  simp only [Rows.uptoBulk]
  omega
theorem open_types {fuel : Nat} {v : Value} {x : DataW H × List MemPlace} (h : DataW.trod enc Try.prog w base spare held fuel 32 [v] = some x) :
    ∃ (l : List Ty) (b : Option Addr) (cap : Nat), v = .slice b l.length cap ∧ Sl w b l ∧ l.length ≤ cap ∧ 2 * l.length ≤ Rows.uptoBulk x.1 := by
  obtain ⟨f0, f1, f2, f3, L⟩ := laid
  obtain ⟨l, b, cap, _, hv, hs, _, hc, hb, _⟩ := open_slG (R := At) Try.underlying32 cells36 (by omega) (fun _ => 0) (fun fuel cs y hy => by
    obtain ⟨t, ht⟩ := open_cells L fuel cs y hy
    have ht2 := ht
    obtain ⟨b, c, rfl, _, _⟩ := ht
    exact ⟨t, Nat.zero_le _, rfl, by intro u hu; simp only [List.mem_cons, List.not_mem_nil, or_false] at hu; rcases hu with rfl | rfl | rfl | rfl <;> rfl, fun g o hc => at_of_cells ht2 hc⟩) h
  refine ⟨l, b, cap, hv, ⟨hs.1, ?_⟩, hc, hb 2 (fun _ _ _ hy => bulk36 hy)⟩
  rcases hs.2 with h0 | ⟨g, o, e, hr⟩
  · exact .inl h0
  · exact .inr ⟨g, o, e, row_of hr⟩

set_option maxRecDepth 100000 in
theorem each46 {fuel : Nat} {cs : List Value} {y : DataW H × List MemPlace} (h : DataW.trod enc Try.prog w base spare held fuel 46 cs = some y) : ∃ d : PData, 0 ≤ Rows.uptoBulk y.1 ∧ cs.length = 7 ∧ (∀ u ∈ cs, u.oneCell' = true) ∧ ∀ g o, (∀ j, j < 7 → w.cell? ⟨g, o + j, none⟩ = cs[j]?) → DataX w g o d := by
  obtain ⟨f0, f1, f2, f3, L⟩ := laid
  obtain ⟨v0, v1, v2, v3, v4, v5, v6, y0, y1, y2, y3, n, rfl, _, g0, g1, g2, g3⟩ := parts46 h
  obtain ⟨s, h0, _, hs⟩ := DataW.trod_string Try.underlying9 g0
  obtain ⟨t, bt, ct, ht, st, lt⟩ := open_cells L n _ _ g1
  obtain ⟨xb, xn, xc, rfl, _⟩ := sl_form Try.underlying44 g2
  obtain ⟨bl, h3, _⟩ := DataW.trod_bool Try.underlying4 g3
  simp only [List.cons.injEq, and_true] at h0 ht h3
  obtain ⟨rfl, rfl, rfl, rfl⟩ := ht
  subst h0 h3
  refine ⟨⟨s.data.toList, t⟩, Nat.zero_le _, rfl, by intro u hu; simp only [List.mem_cons, List.not_mem_nil, or_false] at hu; rcases hu with rfl | rfl | rfl | rfl | rfl | rfl | rfl <;> rfl, fun g o hc => ⟨⟨?_, by rw [str_len]; exact hs, at_iff.mpr ⟨hc 1 (by omega), hc 2 (by omega), hc 3 (by omega), st, bt, ct, hc 4 (by omega), lt⟩⟩, xb, xn, xc, bl, hc 5 (by omega), hc 6 (by omega)⟩⟩
  rw [str_eq]
  exact hc 0 (by omega)
set_option maxRecDepth 100000 in
theorem each39 {fuel : Nat} {cs : List Value} {y : DataW H × List MemPlace} (h : DataW.trod enc Try.prog w base spare held fuel 39 cs = some y) : ∃ d : PFam, 0 ≤ Rows.uptoBulk y.1 ∧ cs.length = 7 ∧ (∀ u ∈ cs, u.oneCell' = true) ∧ ∀ g o, (∀ j, j < 7 → w.cell? ⟨g, o + j, none⟩ = cs[j]?) → FamX w g o d := by
  obtain ⟨f0, f1, f2, f3, L⟩ := laid
  obtain ⟨v0, v1, v2, v3, v4, v5, v6, y0, y1, y2, y3, n, rfl, _, g0, g1, g2, g3⟩ := parts39 h
  obtain ⟨s, h0, _, hs⟩ := DataW.trod_string Try.underlying9 g0
  obtain ⟨t, bt, ct, ht, st, lt⟩ := open_cells L n _ _ g1
  obtain ⟨ar, h2, _⟩ := DataW.trod_int Try.underlying3 g2
  obtain ⟨xb, xn, xc, rfl, _⟩ := sl_form Try.underlying37 g3
  simp only [List.cons.injEq, and_true] at h0 ht h2
  obtain ⟨rfl, rfl, rfl, rfl⟩ := ht
  subst h0 h2
  refine ⟨⟨s.data.toList, t, ar⟩, Nat.zero_le _, rfl, by intro u hu; simp only [List.mem_cons, List.not_mem_nil, or_false] at hu; rcases hu with rfl | rfl | rfl | rfl | rfl | rfl | rfl <;> rfl, fun g o hc => ⟨⟨?_, by rw [str_len]; exact hs, at_iff.mpr ⟨hc 1 (by omega), hc 2 (by omega), hc 3 (by omega), st, bt, ct, hc 4 (by omega), lt⟩, hc 5 (by omega)⟩, xb, xn, xc, hc 6 (by omega)⟩⟩
  rw [str_eq]
  exact hc 0 (by omega)
set_option maxRecDepth 100000 in
theorem each81 {fuel : Nat} {cs : List Value} {y : DataW H × List MemPlace} (h : DataW.trod enc Try.prog w base spare held fuel 81 cs = some y) : ∃ d : PCls, 0 ≤ Rows.uptoBulk y.1 ∧ cs.length = 5 ∧ (∀ u ∈ cs, u.oneCell' = true) ∧ ∀ g o, (∀ j, j < 5 → w.cell? ⟨g, o + j, none⟩ = cs[j]?) → ClsAt w g o d := by
  obtain ⟨v0, v1, v2, v3, v4, y0, y1, y2, y3, y4, n, rfl, _, g0, g1, g2, g3, g4⟩ := parts81 h
  obtain ⟨s, h0, _, hs⟩ := DataW.trod_string Try.underlying9 g0
  obtain ⟨l, vb, vc, rfl, hl, _, _⟩ := open_types g1
  obtain ⟨_, _, _, rfl, _⟩ := sl_form Try.underlying32 g2
  obtain ⟨_, _, _, rfl, _⟩ := sl_form Try.underlying79 g3
  obtain ⟨_, _, _, rfl, _⟩ := sl_form Try.underlying27 g4
  simp only [List.cons.injEq, and_true] at h0
  subst h0
  refine ⟨⟨s.data.toList, l⟩, Nat.zero_le _, rfl, by intro u hu; simp only [List.mem_cons, List.not_mem_nil, or_false] at hu; rcases hu with rfl | rfl | rfl | rfl | rfl <;> rfl, fun g o hc => ⟨?_, by rw [str_len]; exact hs, vb, vc, hc 1 (by omega), hl⟩⟩
  rw [str_eq]
  exact hc 0 (by omega)
set_option maxRecDepth 100000 in
theorem each88 {fuel : Nat} {cs : List Value} {y : DataW H × List MemPlace} (h : DataW.trod enc Try.prog w base spare held fuel 88 cs = some y) : ∃ d : PCon, 2 * (d.univ.length + d.exis.length) ≤ Rows.uptoBulk y.1 ∧ cs.length = 8 ∧ (∀ u ∈ cs, u.oneCell' = true) ∧ ∀ g o, (∀ j, j < 8 → w.cell? ⟨g, o + j, none⟩ = cs[j]?) → ConAt w g o d := by
  obtain ⟨v0, v1, v2, v3, v4, v5, v6, v7, y0, y1, y2, y3, y4, y5, y6, y7, n, rfl, hx, g0, g1, g2, g3, g4, g5, g6, g7⟩ := parts88 h
  obtain ⟨s, h0, _, hs⟩ := DataW.trod_string Try.underlying9 g0
  obtain ⟨r, h1, _, hr⟩ := DataW.trod_string Try.underlying9 g1
  obtain ⟨lu, ub, uc, rfl, hu, _, ku⟩ := open_types g2
  obtain ⟨le, eb, ec, rfl, he, _, ke⟩ := open_types g3
  obtain ⟨qb, qn, qc, rfl, kq⟩ := sl_form Try.underlying86 g4
  obtain ⟨gb, gn, gc, rfl, kg⟩ := sl_form Try.underlying32 g5
  obtain ⟨la, ab, ac, rfl, ha, _, _⟩ := open_types g6
  obtain ⟨_, _, _, rfl, _⟩ := sl_form Try.underlying44 g7
  simp only [List.cons.injEq, and_true] at h0 h1
  subst h0 h1
  refine ⟨⟨s.data.toList, r.data.toList, lu, le, qn, gn, la⟩, ?_, rfl, by intro u hu; simp only [List.mem_cons, List.not_mem_nil, or_false] at hu; rcases hu with rfl | rfl | rfl | rfl | rfl | rfl | rfl | rfl <;> rfl, fun g o hc => ⟨?_, by rw [str_len]; exact hs, ?_, by rw [str_len]; exact hr, ⟨ub, uc, hc 2 (by omega), hu⟩, ⟨eb, ec, hc 3 (by omega), he⟩, ⟨qb, qc, hc 4 (by omega), kq⟩, ⟨gb, gc, hc 5 (by omega), kg⟩, ab, ac, hc 6 (by omega), ha⟩⟩
  · rw [hx]
    simp only [Rows.uptoBulk, Rows.uptoBulkAll]
    omega
  · rw [str_eq]
    exact hc 0 (by omega)
  · rw [str_eq]
    exact hc 1 (by omega)
set_option maxRecDepth 100000 in
theorem each92 {fuel : Nat} {cs : List Value} {y : DataW H × List MemPlace} (h : DataW.trod enc Try.prog w base spare held fuel 92 cs = some y) : ∃ d : Ty, 0 ≤ Rows.uptoBulk y.1 ∧ cs.length = 10 ∧ (∀ u ∈ cs, u.oneCell' = true) ∧ ∀ g o, (∀ j, j < 10 → w.cell? ⟨g, o + j, none⟩ = cs[j]?) → MetAt w g o d := by
  obtain ⟨f0, f1, f2, f3, L⟩ := laid
  obtain ⟨v0, v1, v2, v3, v4, v5, v6, v7, v8, v9, y0, y1, y2, y3, n, rfl, _, g0, g1, g2, g3⟩ := parts92 h
  obtain ⟨t, bt, ct, ht, st, lt⟩ := open_cells L n _ _ g0
  obtain ⟨lv, h1, _⟩ := DataW.trod_int Try.underlying3 g1
  obtain ⟨bl, h2, _⟩ := DataW.trod_bool Try.underlying4 g2
  obtain ⟨q, bq, cq, hq, sq, lq⟩ := open_cells L n _ _ g3
  simp only [List.cons.injEq, and_true] at ht h1 h2 hq
  obtain ⟨rfl, rfl, rfl, rfl⟩ := ht
  obtain ⟨rfl, rfl, rfl, rfl⟩ := hq
  subst h1 h2
  exact ⟨t, Nat.zero_le _, rfl, by intro u hu; simp only [List.mem_cons, List.not_mem_nil, or_false] at hu; rcases hu with rfl | rfl | rfl | rfl | rfl | rfl | rfl | rfl | rfl | rfl <;> rfl, fun g o hc => ⟨at_iff.mpr ⟨hc 0 (by omega), hc 1 (by omega), hc 2 (by omega), st, bt, ct, hc 3 (by omega), lt⟩, lv, bl, _, _, _, ⟨bq, q.args.length, cq⟩, hc 4 (by omega), hc 5 (by omega), hc 6 (by omega), hc 7 (by omega), hc 8 (by omega), hc 9 (by omega)⟩⟩
set_option maxRecDepth 100000 in
theorem each96 {fuel : Nat} {cs : List Value} {y : DataW H × List MemPlace} (h : DataW.trod enc Try.prog w base spare held fuel 96 cs = some y) : ∃ d : Ty, 0 ≤ Rows.uptoBulk y.1 ∧ cs.length = 5 ∧ (∀ u ∈ cs, u.oneCell' = true) ∧ ∀ g o, (∀ j, j < 5 → w.cell? ⟨g, o + j, none⟩ = cs[j]?) → RigAt w g o d := by
  obtain ⟨f0, f1, f2, f3, L⟩ := laid
  obtain ⟨v0, v1, v2, v3, v4, y0, y1, n, rfl, _, g0, g1⟩ := parts96 h
  obtain ⟨t, bt, ct, ht, st, lt⟩ := open_cells L n _ _ g0
  obtain ⟨lv, h1, _⟩ := DataW.trod_int Try.underlying3 g1
  simp only [List.cons.injEq, and_true] at ht h1
  obtain ⟨rfl, rfl, rfl, rfl⟩ := ht
  subst h1
  exact ⟨t, Nat.zero_le _, rfl, by intro u hu; simp only [List.mem_cons, List.not_mem_nil, or_false] at hu; rcases hu with rfl | rfl | rfl | rfl | rfl <;> rfl, fun g o hc => ⟨at_iff.mpr ⟨hc 0 (by omega), hc 1 (by omega), hc 2 (by omega), st, bt, ct, hc 3 (by omega), lt⟩, lv, hc 4 (by omega)⟩⟩
/-- an environment that comes in -/
structure EnvIn (w : World) (N : Nat) (vs : List Value) (env : PEnv) : Prop where
  ex : ∃ (b0 b1 b2 b3 b4 b5 : Option Addr) (c0 c1 c2 c3 c4 c5 n4 n5 : Nat) (u0 u1 u2 u3 : List Value), vs = [.slice b0 env.data.length c0, .slice b1 env.cons.length c1, .slice b2 env.fams.length c2, .slice b3 env.clss.length c3, .slice b4 n4 c4, .slice b5 n5 c5] ∧
    EnvS w b0 b1 b2 b3 env ∧ SlG 7 FamX w b2 env.fams ∧ SlG 7 DataX w b0 env.data ∧ RawAt w b0 env.data.length 7 u0 ∧ RawAt w b1 env.cons.length 8 u1 ∧ RawAt w b2 env.fams.length 7 u2 ∧ RawAt w b3 env.clss.length 5 u3 ∧
    env.data.length ≤ N ∧ env.cons.length ≤ N ∧ env.fams.length ≤ N ∧ env.clss.length ≤ N ∧ ∀ c ∈ env.cons, 2 * (c.univ.length + c.exis.length) ≤ N
set_option maxRecDepth 100000 in
theorem open_env {fuel : Nat} {cs : List Value} {x : DataW H × List MemPlace} (h : DataW.trod enc Try.prog w base spare held fuel 29 cs = some x) : ∃ env, EnvIn w (Rows.uptoBulk x.1) cs env := by
  obtain ⟨v0, v1, v2, v3, v4, v5, y0, y1, y2, y3, y4, y5, n, rfl, hx, g0, g1, g2, g3, g4, g5⟩ := parts29 h
  obtain ⟨l0, b0, c0, u0, rfl, s0, r0, _, k0, _⟩ := open_slG (R := DataX) Try.underlying22 cells46 (by omega) (fun _ => 0) (fun _ _ _ hy => each46 hy) g0
  obtain ⟨l1, b1, c1, u1, rfl, s1, r1, _, k1, q1⟩ := open_slG (R := ConAt) Try.underlying23 cells88 (by omega) (fun d => 2 * (d.univ.length + d.exis.length)) (fun _ _ _ hy => each88 hy) g1
  obtain ⟨l2, b2, c2, u2, rfl, s2, r2, _, k2, _⟩ := open_slG (R := FamX) Try.underlying24 cells39 (by omega) (fun _ => 0) (fun _ _ _ hy => each39 hy) g2
  obtain ⟨l3, b3, c3, u3, rfl, s3, r3, _, k3, _⟩ := open_slG (R := ClsAt) Try.underlying25 cells81 (by omega) (fun _ => 0) (fun _ _ _ hy => each81 hy) g3
  obtain ⟨b4, n4, c4, rfl, _⟩ := sl_form Try.underlying26 g4
  obtain ⟨b5, n5, c5, rfl, _⟩ := sl_form Try.underlying27 g5
  have k0 := k0 1 (fun _ _ y _ => bulk_one y.1)
  have k1 := k1 1 (fun _ _ y _ => bulk_one y.1)
  have k2 := k2 1 (fun _ _ y _ => bulk_one y.1)
  have k3 := k3 1 (fun _ _ y _ => bulk_one y.1)
  have hN : Rows.uptoBulk y0.1 ≤ Rows.uptoBulk x.1 ∧ Rows.uptoBulk y1.1 ≤ Rows.uptoBulk x.1 ∧ Rows.uptoBulk y2.1 ≤ Rows.uptoBulk x.1 ∧ Rows.uptoBulk y3.1 ≤ Rows.uptoBulk x.1 := by
    rw [hx]
    simp only [Rows.uptoBulk, Rows.uptoBulkAll]
    omega
  obtain ⟨n0, n1, n2, n3⟩ := hN
  exact ⟨⟨l0, l1, l2, l3⟩, ⟨b0, b1, b2, b3, b4, b5, c0, c1, c2, c3, c4, c5, n4, n5, u0, u1, u2, u3, rfl, ⟨slG_weak (fun _ _ _ _ h => h.1) s0, s1, slG_weak (fun _ _ _ _ h => h.1) s2, s3⟩, s2, s0, r0, r1, r2, r3, (by show l0.length ≤ _; omega), (by show l1.length ≤ _; omega), (by show l2.length ≤ _; omega), (by show l3.length ≤ _; omega), fun c hc => Nat.le_trans (q1 c hc) n1⟩⟩

end
end Ty
end Go.Proofs.Ytfjgebdpbmnicaa

/- What vec returns: the environment of Nat and Vec. Conditions: none. -/
namespace Go.Proofs.Ytfjgebdpbmnicaa
open Go.RowKit

namespace Ty
set_option maxHeartbeats 2000000 in
theorem rcon (s : ByteArray) (w : World) : Calls Try.prog 11 #[.string s] w fun e w' => e = .returned (.agg #[.int .i64 2, .int .i64 0, .string s, .slice none 0 0]) ∧ Below w.heap.size w w' := by
  have hb1 : Below w.heap.size w (w.alloc (Obj.cells #[.int .i64 0, .int .i64 0, .string ⟨#[]⟩, .slice none 0 0] 36)) := (Below.refl _ _).alloc (Nat.le_refl _) _
  have ht2 : B4 (w.alloc (Obj.cells #[.int .i64 0, .int .i64 0, .string ⟨#[]⟩, .slice none 0 0] 36)) w.heap.size (.int .i64 0) (.int .i64 0) (.string ⟨#[]⟩) (.slice none 0 0) := heap_alloc_new _ _
  have HB1 := Lib.hid hb1
  have HT2 := Lib.hid ht2
  clear hb1 ht2
  go_enter Try.func11, Try.ntmps11
  go_wp2_with fail
  refine (con_o s _).mono ?_
  rintro e w2 ⟨rfl, hb⟩
  have HB2 := Lib.hid (HB1.out.trans (hb.mono HB1.out.size))
  have HT := Lib.hid (HT2.out.next hb)
  clear hb HB1 HT2
  obtain ⟨z0, z1, z2, z3⟩ := HT.out.cells
  have f0 := HT.out.frozen 0
  have f1 := HT.out.frozen 1
  have f2 := HT.out.frozen 2
  have f3 := HT.out.frozen 3
  go_wp2_with fail
  refine bodyPost_ret (results_ty (a := 2) (by kernel_rfl) (B := w.heap.size) (by rfl) (put4_cells HT.out _ _ _ _).cells.1 (put4_cells HT.out _ _ _ _).cells.2.1 (put4_cells HT.out _ _ _ _).cells.2.2.1 (put4_cells HT.out _ _ _ _).cells.2.2.2) rfl ?_
  exact ⟨rfl, below_put4 HB2.out (by omega) _ _ _ _⟩


def bNat : List UInt8 := [78, 97, 116]
def tNat : Ty := conT bNat
/-- the environment of the example -/
def vecE : PEnv := { data := [⟨bNat, tType⟩, ⟨[86, 101, 99], funT tType [tType, tNat]⟩], cons := [⟨[90], bNat, [], [], 0, 0, []⟩, ⟨[83], bNat, [], [], 0, 0, [tNat]⟩], fams := [], clss := [] }
abbrev vT : Value := .agg #[.int .i64 2, .int .i64 0, .string ⟨#[84, 121, 112, 101]⟩, .slice none 0 0]
abbrev vN : Value := .agg #[.int .i64 2, .int .i64 0, .string ⟨#[78, 97, 116]⟩, .slice none 0 0]
theorem sl_tn {ok : Nat → Prop} {W : World} {B : Nat} (h : W.heap[B]? = some (Obj.cells #[.int .i64 2, .int .i64 0, .string ⟨#[84, 121, 112, 101]⟩, .slice none 0 0, .int .i64 2, .int .i64 0, .string ⟨#[78, 97, 116]⟩, .slice none 0 0] 36)) : ok B → SlO ok W (some ⟨B, 0, none⟩) [tType, tNat] := fun hok => by
  have c := fun i => cell_of_row _ B i _ 36 (0, 0) h
  refine ⟨by show 2 ≤ maxLen; unfold maxLen; omega, .inr ⟨B, 0, rfl, hok, ?_, ?_, trivial⟩⟩
  · exact atO_iff.mpr ⟨c 0, c 1, c 2, by decide, none, 0, c 3, Nat.zero_le _, .inl rfl⟩
  · exact atO_iff.mpr ⟨c 4, c 5, c 6, by decide, none, 0, c 7, Nat.zero_le _, .inl rfl⟩
def set6 (W : World) (R : Nat) (v0 v1 v2 v3 v4 v5 : Value) : World := (((((W.setCell ⟨R, 0, none⟩ v0).setCell ⟨R, 1, none⟩ v1).setCell ⟨R, 2, none⟩ v2).setCell ⟨R, 3, none⟩ v3).setCell ⟨R, 4, none⟩ v4).setCell ⟨R, 5, none⟩ v5
theorem step_store6 {ops : Array Oper} {o : Oper} {a : Act} {w : World} {K : Act → World → Prop} {Q : Exit → Act → World → Prop} {E : Prop} (hgd : o.guard = none) (s x : Nat) (ho : o.op = .store 29 (.tmp s) (.tmp x)) {R : Nat} {z0 z1 z2 z3 z4 z5 : Value}
    (hs : a.tmps[s]?.getD undef = .pointer (some ⟨R, 0, none⟩)) {n0 n1 n2 n3 n4 n5 c0 c1 c2 c3 c4 c5 : Nat} {b0 b1 b2 b3 b4 b5 : Option Addr} (hx : a.tmps[x]?.getD undef = .agg #[.slice b0 n0 c0, .slice b1 n1 c1, .slice b2 n2 c2, .slice b3 n3 c3, .slice b4 n4 c4, .slice b5 n5 c5]) (hR : B6 w R z0 z1 z2 z3 z4 z5)
    (h : K (a.put o.dst undef) (set6 w R (.slice b0 n0 c0) (.slice b1 n1 c1) (.slice b2 n2 c2) (.slice b3 n3 c3) (.slice b4 n4 c4) (.slice b5 n5 c5))) :
    if Region.wanted o (yielded ops a.tmps) = true then Oper.wp Try.prog o a w K Q else E := by
  have hw : Region.wanted o (yielded ops a.tmps) = true := by simp [Region.wanted, hgd]
  rw [if_pos hw]
  have e0 := hR.cell 0
  have e1 := hR.cell 1
  have e2 := hR.cell 2
  have e3 := hR.cell 3
  have e4 := hR.cell 4
  have e5 := hR.cell 5
  have f0 := hR.frozen 0
  have f1 := hR.frozen 1
  have f2 := hR.frozen 2
  have f3 := hR.frozen 3
  have f4 := hR.frozen 4
  have f5 := hR.frozen 5
  unfold set6 at h
  unfold Oper.wp execOp
  simp [ho, hs, hx, go_sem, e0, e1, e2, e3, e4, e5, f0, f1, f2, f3, f4, f5]
  exact h
theorem set6_box {W : World} {R : Nat} {z0 z1 z2 z3 z4 z5 : Value} (h : B6 W R z0 z1 z2 z3 z4 z5) (v0 v1 v2 v3 v4 v5 : Value) : B6 (set6 W R v0 v1 v2 v3 v4 v5) R v0 v1 v2 v3 v4 v5 := by
  unfold B6 set6 at *
  simp [World.setCell, Array.getElem?_modify, h]
theorem step_store6' {ops : Array Oper} {o : Oper} {a : Act} {w : World} {K : Act → World → Prop} {Q : Exit → Act → World → Prop} {E : Prop} (hgd : o.guard = none) (s x : Nat) (ho : o.op = .store 29 (.tmp s) (.tmp x)) {R : Nat}
    (hs : a.tmps[s]?.getD undef = .pointer (some ⟨R, 0, none⟩)) {n0 n1 n2 n3 n4 n5 c0 c1 c2 c3 c4 c5 : Nat} {b0 b1 b2 b3 b4 b5 : Option Addr} (hx : a.tmps[x]?.getD undef = .agg #[.slice b0 n0 c0, .slice b1 n1 c1, .slice b2 n2 c2, .slice b3 n3 c3, .slice b4 n4 c4, .slice b5 n5 c5]) (hR : ∃ z0 z1 z2 z3 z4 z5, B6 w R z0 z1 z2 z3 z4 z5)
    (h : B6 (set6 w R (.slice b0 n0 c0) (.slice b1 n1 c1) (.slice b2 n2 c2) (.slice b3 n3 c3) (.slice b4 n4 c4) (.slice b5 n5 c5)) R (.slice b0 n0 c0) (.slice b1 n1 c1) (.slice b2 n2 c2) (.slice b3 n3 c3) (.slice b4 n4 c4) (.slice b5 n5 c5) → K (a.put o.dst undef) (set6 w R (.slice b0 n0 c0) (.slice b1 n1 c1) (.slice b2 n2 c2) (.slice b3 n3 c3) (.slice b4 n4 c4) (.slice b5 n5 c5))) :
    if Region.wanted o (yielded ops a.tmps) = true then Oper.wp Try.prog o a w K Q else E := by
  obtain ⟨z0, z1, z2, z3, z4, z5, hz⟩ := hR
  exact step_store6 hgd s x ho hs hx hz (h (set6_box hz _ _ _ _ _ _))
theorem set6_other {W : World} {R B : Nat} (hne : B ≠ R) (v0 v1 v2 v3 v4 v5 : Value) : (set6 W R v0 v1 v2 v3 v4 v5).heap[B]? = W.heap[B]? := by
  unfold set6
  simp [Below.heap_setCell, hne]
theorem below_set6 {w W : World} {R : Nat} (h : Below w.heap.size w W) (hR : w.heap.size ≤ R) (v0 v1 v2 v3 v4 v5 : Value) : Below w.heap.size w (set6 W R v0 v1 v2 v3 v4 v5) :=
  ((((((h.setCell (by exact hR) _).setCell (by exact hR) _).setCell (by exact hR) _).setCell (by exact hR) _).setCell (by exact hR) _).setCell (by exact hR) _)
theorem blk_new {W : World} {o : Obj} {B : Nat} (h : W.heap.size = B) : (W.alloc o).heap[B]? = some o := by rw [← h]; exact heap_alloc_new _ _
theorem blk_old {W : World} {o x : Obj} {B : Nat} (h : W.heap[B]? = some x) : (W.alloc o).heap[B]? = some x := (Below.heap_alloc _ _ _ (lt_of_block h)).trans h
theorem blk_next {W W' : World} {x : Obj} {B : Nat} (hb : Below W.heap.size W W') (h : W.heap[B]? = some x) : W'.heap[B]? = some x := (hb.block _ (lt_of_block h)).trans h
theorem blk_drew {W : World} {x : Obj} {B : Nat} (h : W.heap[B]? = some x) : W.drew.heap[B]? = some x := h
theorem blk_set {W : World} {R B : Nat} {x : Obj} {v0 v1 v2 v3 v4 v5 : Value} (h : W.heap[B]? = some x) (hne : B ≠ R) : (set6 W R v0 v1 v2 v3 v4 v5).heap[B]? = some x := (set6_other hne _ _ _ _ _ _).trans h
theorem below_al {W0 W : World} {o : Obj} (h : Below W0.heap.size W0 W) : Below W0.heap.size W0 (W.alloc o) := h.alloc h.size _
theorem below_nx {W0 W W' : World} (hb : Below W.heap.size W W') (h : Below W0.heap.size W0 W) : Below W0.heap.size W0 W' := h.trans (hb.mono h.size)
theorem vo_set6 {W : World} {R : Nat} {t : Ty} {v : Value} (v0 v1 v2 v3 v4 v5 : Value) (h : VO (· ≠ R) W t v) : VO (· ≠ R) (set6 W R v0 v1 v2 v3 v4 v5) t v :=
  h.keep (fun _ h => h) (fun p _ hp hc => by
    have hb := set6_other (W := W) (R := R) (B := p.block) hp v0 v1 v2 v3 v4 v5
    rw [World.cell?_of_block hb]
    exact hc)
abbrev S7 (w : World) (R T : Nat) (W : World) : Prop := Hid (Below w.heap.size w W) ∧ (W.cell? ⟨T, 0, none⟩ = some (.int .i64 2) ∧ W.cell? ⟨T, 1, none⟩ = some (.int .i64 0) ∧ W.cell? ⟨T, 2, none⟩ = some (.string ⟨#[84, 121, 112, 101]⟩) ∧ W.cell? ⟨T, 3, none⟩ = some (.slice none 0 0)) ∧ ∃ z0 z1 z2 z3 z4 z5, B6 W R z0 z1 z2 z3 z4 z5
theorem s7_next {w W W' : World} {R T : Nat} (h : S7 w R T W) (hb : Below W.heap.size W W') : S7 w R T W' := by
  obtain ⟨h1, ⟨h2, h3, h4, h5⟩, z0, z1, z2, z3, z4, z5, h6⟩ := h
  exact ⟨Lib.hid (h1.out.trans (hb.mono h1.out.size)), ⟨keeps hb _ _ h2, keeps hb _ _ h3, keeps hb _ _ h4, keeps hb _ _ h5⟩, z0, z1, z2, z3, z4, z5, h6.next hb⟩
theorem s7_set {w W : World} {R T : Nat} {v0 v1 v2 v3 v4 v5 : Value} (h : S7 w R T W) (hR : w.heap.size ≤ R) (hT : T ≠ R) : S7 w R T (set6 W R v0 v1 v2 v3 v4 v5) := by
  obtain ⟨h1, ⟨h2, h3, h4, h5⟩, z0, z1, z2, z3, z4, z5, h6⟩ := h
  have hb := set6_other (W := W) (R := R) (B := T) hT v0 v1 v2 v3 v4 v5
  have k : ∀ i x, W.cell? ⟨T, i, none⟩ = some x → (set6 W R v0 v1 v2 v3 v4 v5).cell? ⟨T, i, none⟩ = some x := fun i x h => by
    rw [World.cell?_of_block (a := ⟨T, i, none⟩) hb]
    exact h
  exact ⟨Lib.hid (below_set6 h1.out hR _ _ _ _ _ _), ⟨k _ _ h2, k _ _ h3, k _ _ h4, k _ _ h5⟩, v0, v1, v2, v3, v4, v5, set6_box h6 _ _ _ _ _ _⟩
theorem fun_call {w W : World} {R T B : Nat} (hS : S7 w R T W) (h : W.heap[B]? = some (Obj.cells #[.int .i64 2, .int .i64 0, .string ⟨#[84, 121, 112, 101]⟩, .slice none 0 0, .int .i64 2, .int .i64 0, .string ⟨#[78, 97, 116]⟩, .slice none 0 0] 36)) :
    Calls Try.prog 35 #[.slice (some ⟨B, 0, none⟩) 2 2, .agg #[.int .i64 2, .int .i64 0, .string ⟨#[84, 121, 112, 101]⟩, .slice none 0 0]] W fun e w' => ∃ bf cf, e = .returned (.agg #[.int .i64 (funT tType [tType, tNat]).op, .int .i64 (funT tType [tType, tNat]).n, .string (funT tType [tType, tNat]).name, .slice bf (funT tType [tType, tNat]).args.length cf]) ∧
      VO (· ≠ R) w' (funT tType [tType, tNat]) (.agg #[.int .i64 (funT tType [tType, tNat]).op, .int .i64 (funT tType [tType, tNat]).n, .string (funT tType [tType, tNat]).name, .slice bf (funT tType [tType, tNat]).args.length cf]) ∧ Below W.heap.size W w' := by
  obtain ⟨_, _, z0, z1, z2, z3, z4, z5, hz⟩ := hS
  have hlt := lt_of_block hz
  have hne : B ≠ R := fun e => by
    rw [e, show W.heap[R]? = _ from hz] at h
    injection h with h
    injection h with _ h
    exact absurd h (by decide)
  refine (rfun_o (ok := (· ≠ R)) tType [tType, tNat] _ _ _ _ (fun g hg => by show g ≠ R; omega) ⟨none, 0, rfl, by decide, Nat.zero_le _, .inl rfl⟩ (sl_tn h hne)).mono ?_
  rintro e w' ⟨v, rfl, hvo, hb⟩
  have hv := hvo
  obtain ⟨bf, cf, rfl, _, _⟩ := hv
  exact ⟨bf, cf, rfl, hvo, hb⟩
theorem con_call {w W : World} {R T : Nat} (hS : S7 w R T W) (s : ByteArray) : Calls Try.prog 11 #[.string s] W fun e w' => e = .returned (.agg #[.int .i64 2, .int .i64 0, .string s, .slice none 0 0]) ∧ Below W.heap.size W w' ∧ ∃ z0 z1 z2 z3 z4 z5, B6 w' R z0 z1 z2 z3 z4 z5 := by
  obtain ⟨_, _, z0, z1, z2, z3, z4, z5, hz⟩ := hS
  exact (rcon s W).mono fun e w' ⟨h1, h2⟩ => ⟨h1, h2, z0, z1, z2, z3, z4, z5, hz.next h2⟩
theorem s7_setn {w W : World} {R T : Nat} (v0 v1 v2 v3 v4 v5 : Value) (h : S7 w R T W) (hR : w.heap.size ≤ R) (hT : T ≠ R) : S7 w R T ((((((W.setCell ⟨R, 0, none⟩ v0).setCell ⟨R, 1, none⟩ v1).setCell ⟨R, 2, none⟩ v2).setCell ⟨R, 3, none⟩ v3).setCell ⟨R, 4, none⟩ v4).setCell ⟨R, 5, none⟩ v5) := s7_set h hR hT
theorem boxn {W : World} {R : Nat} {z0 z1 z2 z3 z4 z5 : Value} (h : B6 W R z0 z1 z2 z3 z4 z5) (v0 v1 v2 v3 v4 v5 : Value) : B6 ((((((W.setCell ⟨R, 0, none⟩ v0).setCell ⟨R, 1, none⟩ v1).setCell ⟨R, 2, none⟩ v2).setCell ⟨R, 3, none⟩ v3).setCell ⟨R, 4, none⟩ v4).setCell ⟨R, 5, none⟩ v5) R v0 v1 v2 v3 v4 v5 := set6_box h _ _ _ _ _ _
theorem blkn {W : World} {R B : Nat} {c : Array Value} {ty : TypeId} {z0 z1 z2 z3 z4 z5 : Value} (v0 v1 v2 v3 v4 v5 : Value) (hz : B6 W R z0 z1 z2 z3 z4 z5) (hty : ty ≠ 29) (h : W.heap[B]? = some (Obj.cells c ty)) : ((((((W.setCell ⟨R, 0, none⟩ v0).setCell ⟨R, 1, none⟩ v1).setCell ⟨R, 2, none⟩ v2).setCell ⟨R, 3, none⟩ v3).setCell ⟨R, 4, none⟩ v4).setCell ⟨R, 5, none⟩ v5).heap[B]? = some (Obj.cells c ty) := by
  have hne : B ≠ R := fun e => by
    rw [e, show W.heap[R]? = _ from hz] at h
    injection h with h
    injection h with _ h
    exact hty h.symm
  exact (set6_other hne v0 v1 v2 v3 v4 v5).trans h
theorem von {W : World} {R : Nat} {t : Ty} {v : Value} (v0 v1 v2 v3 v4 v5 : Value) (h : VO (· ≠ R) W t v) : VO (· ≠ R) ((((((W.setCell ⟨R, 0, none⟩ v0).setCell ⟨R, 1, none⟩ v1).setCell ⟨R, 2, none⟩ v2).setCell ⟨R, 3, none⟩ v3).setCell ⟨R, 4, none⟩ v4).setCell ⟨R, 5, none⟩ v5) t v := vo_set6 v0 v1 v2 v3 v4 v5 h
theorem vo_al {ok : Nat → Prop} {W : World} {o : Obj} {t : Ty} {v : Value} (h : VO ok W t v) : VO ok (W.alloc o) t v := h.next ((Below.refl _ _).alloc (Nat.le_refl _) _)
theorem vo_nx {ok : Nat → Prop} {W W' : World} {t : Ty} {v : Value} (hb : Below W.heap.size W W') (h : VO ok W t v) : VO ok W' t v := h.next hb
end Ty
end Go.Proofs.Ytfjgebdpbmnicaa

/- The environment of Nat and Vec, as it lies in memory. Conditions: none. -/
namespace Go.Proofs.Ytfjgebdpbmnicaa
open Go.RowKit

namespace Ty
theorem results_e6 {fn : Func} {a : Tmp} (hfn : fn.results = #[.cell a 29]) {tmps : Array Value} {w : World} {B : Nat} {v0 v1 v2 v3 v4 v5 : Value} (h : tmps.getD a undef = .pointer (some ⟨B, 0, none⟩)) (hB : B6 w B v0 v1 v2 v3 v4 v5) :
    (results fn tmps).run Try.prog w = .ok (.agg #[v0, v1, v2, v3, v4, v5]) w := by
  have h' : tmps[a]?.getD undef = .pointer (some ⟨B, 0, none⟩) := by rw [← h]; simp
  have c0 : w.cell? ⟨B, 0, none⟩ = some v0 := hB.cell 0
  have c1 : w.cell? ⟨B, 1, none⟩ = some v1 := hB.cell 1
  have c2 : w.cell? ⟨B, 2, none⟩ = some v2 := hB.cell 2
  have c3 : w.cell? ⟨B, 3, none⟩ = some v3 := hB.cell 3
  have c4 : w.cell? ⟨B, 4, none⟩ = some v4 := hB.cell 4
  have c5 : w.cell? ⟨B, 5, none⟩ = some v5 := hB.cell 5
  simp [results, hfn, h', c0, c1, c2, c3, c4, c5, go_sem]
theorem sl_nil (w : World) (b : Option Addr) : Sl w b [] := ⟨Nat.zero_le _, .inl rfl⟩
theorem vec_envS {w : World} {R B12 B17 B15 cf : Nat} {bf zb : Option Addr}
    (h12 : w.heap[B12]? = some (Obj.cells #[.string ⟨#[78, 97, 116]⟩, .int .i64 2, .int .i64 0, .string ⟨#[84, 121, 112, 101]⟩, .slice none 0 0, .slice zb 2 2, .bool false, .string ⟨#[86, 101, 99]⟩, .int .i64 (funT tType [tType, tNat]).op, .int .i64 (funT tType [tType, tNat]).n, .string (funT tType [tType, tNat]).name, .slice bf (funT tType [tType, tNat]).args.length cf, .slice none 0 0, .bool false] 46))
    (h17 : w.heap[B17]? = some (Obj.cells #[.string ⟨#[90]⟩, .string ⟨#[78, 97, 116]⟩, .slice none 0 0, .slice none 0 0, .slice none 0 0, .slice none 0 0, .slice none 0 0, .slice none 0 0, .string ⟨#[83]⟩, .string ⟨#[78, 97, 116]⟩, .slice none 0 0, .slice none 0 0, .slice none 0 0, .slice none 0 0, .slice (some ⟨B15, 0, none⟩) 1 1, .slice none 0 0] 88))
    (h15 : w.heap[B15]? = some (Obj.cells #[.int .i64 2, .int .i64 0, .string ⟨#[78, 97, 116]⟩, .slice none 0 0] 36))
    (hv : VO (· ≠ R) w (funT tType [tType, tNat]) (.agg #[.int .i64 (funT tType [tType, tNat]).op, .int .i64 (funT tType [tType, tNat]).n, .string (funT tType [tType, tNat]).name, .slice bf (funT tType [tType, tNat]).args.length cf])) :
    EnvS w (some ⟨B12, 0, none⟩) (some ⟨B17, 0, none⟩) none none vecE := by
  have c := fun i => cell_of_row w B12 i _ 46 (0, 0) h12
  have d := fun i => cell_of_row w B17 i _ 88 (0, 0) h17
  have f := fun i => cell_of_row w B15 i _ 36 (0, 0) h15
  have hm : 2 ≤ maxLen := by unfold maxLen; omega
  have hm1 : 1 ≤ maxLen := by unfold maxLen; omega
  have hm3 : 3 ≤ maxLen := by unfold maxLen; omega
  have hm4 : 4 ≤ maxLen := by unfold maxLen; omega
  obtain ⟨b, k, e, hs, hl⟩ := hv.weak
  have hb : bf = b := by
    injection e with e
    simp only [Array.mk.injEq, List.cons.injEq, Value.slice.injEq] at e
    exact e.2.2.2.1.1
  subst hb
  have hsn : Sl w (some ⟨B15, 0, none⟩) [tNat] := ⟨hm1, .inr ⟨B15, 0, rfl, at_iff.mpr ⟨f 0, f 1, f 2, by decide, none, 0, f 3, sl_nil _ _⟩, trivial⟩⟩
  refine ⟨⟨hm, .inr ⟨B12, 0, rfl, fun i hi => ?_⟩⟩, ⟨hm, .inr ⟨B17, 0, rfl, fun i hi => ?_⟩⟩, ⟨Nat.zero_le _, .inl rfl⟩, ⟨Nat.zero_le _, .inl rfl⟩⟩
  · match i, hi with
    | 0, _ => exact ⟨c 0, hm3, at_iff.mpr ⟨c 1, c 2, c 3, hm4, none, 0, c 4, sl_nil _ _⟩⟩
    | 1, _ => exact ⟨c 7, hm3, at_iff.mpr ⟨c 8, c 9, c 10, hs, bf, cf, c 11, hl⟩⟩
    | n + 2, h => exact absurd h (by simp [vecE])
  · match i, hi with
    | 0, _ => exact ⟨d 0, hm1, d 1, hm3, ⟨none, 0, d 2, sl_nil _ _⟩, ⟨none, 0, d 3, sl_nil _ _⟩, ⟨none, 0, d 4, Nat.zero_le _⟩, ⟨none, 0, d 5, Nat.zero_le _⟩, none, 0, d 6, sl_nil _ _⟩
    | 1, _ => exact ⟨d 8, hm1, d 9, hm3, ⟨none, 0, d 10, sl_nil _ _⟩, ⟨none, 0, d 11, sl_nil _ _⟩, ⟨none, 0, d 12, Nat.zero_le _⟩, ⟨none, 0, d 13, Nat.zero_le _⟩, _, 1, d 14, hsn⟩
    | n + 2, h => exact absurd h (by simp [vecE])
end Ty
end Go.Proofs.Ytfjgebdpbmnicaa

/- The two examples' kinds, plainly. Conditions: none. No program stands in this text. -/
namespace Go.Proofs.Ytfjgebdpbmnicaa
open Go.RowKit

namespace Ty
def bVec : List UInt8 := [86, 101, 99]
def tSZ : Ty := .mk 3 0 [] [conT (39 :: [83]), conT (39 :: [90])]
def ex1T : Ty := applyT (conT bVec) [conT bInt, tSZ]
def ex2T : Ty := .mk 3 0 [] [conT bVec, conT (39 :: [90])]
def okType (r : Res) : Bool := match r with | .ok k => same k tType | .bad _ => false
def isBad23 (r : Res) : Bool := match r with | .ok _ => false | .bad c => c == 23
theorem ex1_ok : okType (kindTopT vecE [] [] [] ex1T) = true := by decide +kernel
theorem ex2_bad : isBad23 (kindTopT vecE [] [] [] ex2T) = true := by decide +kernel
theorem okType_is {r : Res} (h : okType r = true) {k : Ty} {n : Int} (hi : r.is k n) : n = 0 ∧ same k tType = true := by
  cases r with
  | ok k' => obtain ⟨rfl, rfl⟩ := hi; exact ⟨rfl, h⟩
  | bad c => cases h
theorem bad23_is {r : Res} (h : isBad23 r = true) {k : Ty} {n : Int} (hi : r.is k n) : n = 23 := by
  cases r with
  | ok k' => cases h
  | bad c =>
    obtain ⟨_, rfl, _⟩ := hi
    simpa [isBad23] using h
end Ty
end Go.Proofs.Ytfjgebdpbmnicaa
