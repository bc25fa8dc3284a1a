/- What the reference's function for one token returns at a name. Conditions: the place lies in the source. -/
import Derived.Test.YtcedigkknjioeaaOneD
import Derived.Test.YtcedigkknjioeaaOneK
namespace Go.Proofs.Ytcedigkknjioeaa
open Go.RowKit Go.WideMaps Go.Maps

def kAt (j : Nat) : Int := match j with | 0 => 1 | 1 => 2 | 2 => 6 | _ => 4
def isK (j : Nat) (l : List UInt8) : Bool := match j with | 0 => smallL l | 1 => Lx.isCap l | 2 => hasL Lx.words l | _ => Lx.isNum l
def kB (j : Nat) : Int := match j with | 0 => 5 | i + 1 => kAt i

theorem nameK_at (l : List UInt8) (j : Nat) (hj : j < 4) (hno : ∀ i, i < j → isK i l = false) (h : isK j l = true) : nameK l = kAt j := by
  unfold nameK
  rcases (by omega : j = 0 ∨ j = 1 ∨ j = 2 ∨ j = 3) with rfl | rfl | rfl | rfl
  · rw [if_pos (show smallL l = true from h)]; rfl
  · have h0 : smallL l = false := hno 0 (by omega)
    rw [h0, if_neg (by simp), if_pos (show Lx.isCap l = true from h)]; rfl
  · have h0 : smallL l = false := hno 0 (by omega)
    have h1 : Lx.isCap l = false := hno 1 (by omega)
    rw [h0, if_neg (by simp), h1, if_neg (by simp), if_pos (show hasL Lx.words l = true from h)]; rfl
  · have h0 : smallL l = false := hno 0 (by omega)
    have h1 : Lx.isCap l = false := hno 1 (by omega)
    have h2 : hasL Lx.words l = false := hno 2 (by omega)
    rw [h0, if_neg (by simp), h1, if_neg (by simp), h2, if_neg (by simp), if_pos (show Lx.isNum l = true from h)]; rfl
theorem nameK_none (l : List UInt8) (hno : ∀ i, i < 4 → isK i l = false) : nameK l = 0 := by
  unfold nameK
  have h0 : smallL l = false := hno 0 (by omega)
  have h1 : Lx.isCap l = false := hno 1 (by omega)
  have h2 : hasL Lx.words l = false := hno 2 (by omega)
  have h3 : Lx.isNum l = false := hno 3 (by omega)
  simp [h0, h1, h2, h3]
theorem kAt_pos (j : Nat) : kAt j ≠ 0 := by
  unfold kAt
  split <;> decide

theorem risK (j : Nat) (v : Bool) (x : ByteArray) (hs : x.size ≤ maxLen) (h : isK j x.data.toList = v) (p : Int) (w : World) :
    Calls Try.prog 51 #[.agg #[.int .i64 (kAt j), .string x, .int .i64 p]] w fun e w' => e = .returned (.bool v) ∧ Below w.heap.size w w' := by
  subst h
  match j with
  | 0 => exact ris1 x p w hs
  | 1 => exact ris2 x p w hs
  | 2 => exact ris6 x p w
  | _ + 3 => exact ris4 x p w hs

theorem rkinds (w : World) : Calls Try.prog 57 #[] w fun e w' => e = .returned (.slice (some ⟨w.heap.size, 0, none⟩) 4 4) ∧ (∀ j, j < 4 → w'.cell? ⟨w.heap.size, j, none⟩ = some (.int .i64 (kAt j))) ∧ w.heap.size < w'.heap.size ∧ Below w.heap.size w w' := by
  go_enter Try.func57, Try.ntmps57
  go_wp2_with fail
  go_ret
  refine ⟨rfl, fun j hj => ?_, by simp, (Below.refl _ _).alloc (Nat.le_refl _) _⟩
  rw [cell_of_row (w.alloc _) w.heap.size j _ 3 (0, 0) (heap_alloc_new w _)]
  rcases (by omega : j = 0 ∨ j = 1 ∨ j = 2 ∨ j = 3) with rfl | rfl | rfl | rfl <;> rfl

structure NL (w : World) (g : Nat) (x : ByteArray) (a : Int) (j : Nat) (wr : World) : Prop where
  box : Boxes w wr (kB j) x a
  far : w.heap.size + 1 < g
  size : g < wr.heap.size
  cells : ∀ i, i < 4 → wr.cell? ⟨g, i, none⟩ = some (.int .i64 (kAt i))
  gone : ∀ i, i < j → isK i x.data.toList = false

theorem NL.next {w wr w6 : World} {g : Nat} {x : ByteArray} {a : Int} {j : Nat} (h : NL w g x a j wr) (hb : Below (wr.setCell ⟨w.heap.size + 1, 0, none⟩ (.int .i64 (kAt j))).heap.size (wr.setCell ⟨w.heap.size + 1, 0, none⟩ (.int .i64 (kAt j))) w6) (hf : isK j x.data.toList = false) : NL w g x a (j + 1) w6 := by
  have hfar := h.far
  have hsz : g < (wr.setCell ⟨w.heap.size + 1, 0, none⟩ (.int .i64 (kAt j))).heap.size := by simpa using h.size
  refine ⟨(h.box.kind (kAt j)).next hb, h.far, Nat.lt_of_lt_of_le hsz hb.size, fun i hi => ?_, fun i hi => ?_⟩
  · refine (hb.cell (p := ⟨g, i, none⟩) hsz).trans ?_
    rw [World.cell?_setCell_other _ _ _ _ (by intro e; injection e with e _ _; omega)]
    exact h.cells i hi
  · by_cases hij : i = j
    · subst hij; exact hf
    · exact h.gone i (by omega)

/-- what the function returns at a name -/
def NameP (w : World) (x : ByteArray) (a : Nat) (e : Ending) (w' : World) : Prop :=
  e = .returned (.tuple #[.agg #[.int .i64 (if nameK x.data.toList = 0 then 4 else nameK x.data.toList), .string x, .int .i64 a], .bool (decide (nameK x.data.toList ≠ 0))]) ∧ Below w.heap.size w w'
theorem nameP_some {w : World} {x : ByteArray} {a j : Nat} {e : Ending} {w' : World} (h : nameK x.data.toList = kAt j) (he : e = .returned (.tuple #[.agg #[.int .i64 (kAt j), .string x, .int .i64 a], .bool true])) (hb : Below w.heap.size w w') : NameP w x a e w' := by
  refine ⟨?_, hb⟩
  rw [he, h, if_neg (kAt_pos j), decide_eq_true (kAt_pos j)]
theorem nameP_some2 {w : World} {x : ByteArray} {a : Nat} {k : Int} {e : Ending} {w' : World} (h : nameK x.data.toList = k) (hk : k ≠ 0) (he : e = .returned (.tuple #[.agg #[.int .i64 k, .string x, .int .i64 a], .bool true])) (hb : Below w.heap.size w w') : NameP w x a e w' := by
  refine ⟨?_, hb⟩
  rw [he, h, if_neg hk, decide_eq_true hk]
theorem nameP_none {w : World} {x : ByteArray} {a : Nat} {e : Ending} {w' : World} (h : nameK x.data.toList = 0) (he : e = .returned (.tuple #[.agg #[.int .i64 4, .string x, .int .i64 a], .bool false])) (hb : Below w.heap.size w w') : NameP w x a e w' := by
  refine ⟨?_, hb⟩
  rw [he, h]
  rfl

set_option maxHeartbeats 8000000 in
theorem one_name (s : ByteArray) (a : Nat) (w : World) (hs : s.size ≤ maxLen) (ha : a < s.size) (hc1 : Lx.opB (s[a]'ha) = false) (hc2 : Lx.nmB (s[a]'ha) = true) (h95 : s[a]'ha ≠ 95) (h39 : s[a]'ha ≠ 39) (n : Nat) (hn : n = Lx.st 4 (s.data.toList.drop a)) :
    Calls Try.prog 33 #[.string s, .int .i64 a] w (NameP w (s.extract a (a + n)) a) := by
  have HR0 := fun w => runN s a w hs (by omega)
  rw [← hn] at HR0
  have HR := Lib.hid HR0
  have hns : a + n ≤ s.size := by
    have h := Lx.st_le 4 (s.data.toList.drop a)
    rw [← hn, List.length_drop, Lx.size_list] at h
    omega
  have hxs : (s.extract a (a + n)).size ≤ maxLen := by rw [ByteArray.size_extract]; omega
  have HOP := Lib.hid (ropB _ false hc1)
  have HNM := Lib.hid (rnameB _ true hc2)
  have q95 : (((s[a]'ha).toNat : Int) == 95) = false := (Lx.byte_beq _ 95).trans (decide_eq_false h95)
  have q39 : (((s[a]'ha).toNat : Int) == 39) = false := (Lx.byte_beq _ 39).trans (decide_eq_false h39)
  have HXS := Lib.hid hxs
  clear hc1 hc2 h95 h39 HR0 hn hxs
  unfold maxLen at hs
  have hw : IntKind.i64.wrap ((a : Int) + 1) = (a : Int) + 1 := by rw [IntKind.wrap_i64]; omega
  go_enter Try.func33, Try.ntmps33
  go_wp2_with fail
  refine (HOP.out _).mono ?_
  rintro e w1 ⟨rfl, hb⟩
  have HX := Lib.hid ((Boxes.new w 5 (s.extract a (a + 1)) a).next hb)
  clear hb
  have z0 := HX.out.r0; have z1 := HX.out.r1; have z2 := HX.out.r2; have y0 := HX.out.t0; have y1 := HX.out.t1; have y2 := HX.out.t2; have g0 := HX.out.fr 0 (by omega); have g1 := HX.out.fr 1 (by omega); have g2 := HX.out.fr 2 (by omega); have h0 := HX.out.ft 0 (by omega); have h1 := HX.out.ft 1 (by omega)
  go_wp2_with fail
  refine (HNM.out _).mono ?_
  rintro e w2 ⟨rfl, rfl⟩
  go_wp2_with fail
  refine (HR.out _).mono ?_
  rintro e w2 ⟨rfl, rfl⟩
  go_wp2_with fail
  clear z0 z1 z2 y0 y1 y2 g0 g1 g2 h0 h1
  replace HX := Lib.hid (HX.out.text (s.extract a (a + n)))
  obtain ⟨w3, hw3⟩ : ∃ w3, w3 = w1.setCell ⟨w.heap.size + 1, 1, none⟩ (.string (s.extract a (a + n))) := ⟨_, rfl⟩
  rw [← hw3] at HX ⊢
  clear hw3
  generalize s.extract a (a + n) = x at *
  refine (rkinds _).mono ?_
  rintro e w4 ⟨rfl, hcells, hsz4, hb⟩
  have HN0 : Hid (NL w w3.heap.size x a 0 w4) := Lib.hid ⟨HX.out.next hb, HX.out.size, hsz4, hcells, fun i hi => absurd hi (Nat.not_lt_zero _)⟩
  clear hsz4
  clear hcells hb HX
  go_wp2_with fail
  go_loopw [77] (fun i wr => ∃ j : Nat, j ≤ 4 ∧ i = .int .i64 j ∧ NL w w3.heap.size x a j wr) (fun i _ => 4 - (intOf i).toNat)
  case atStart => exact ⟨0, Nat.zero_le _, rfl, HN0.out⟩
  case round =>
    obtain ⟨j, hj, rfl, hnl⟩ := hrel
    have HNL := Lib.hid hnl
    clear hnl
    have z0 := HNL.out.box.r0; have z1 := HNL.out.box.r1; have z2 := HNL.out.box.r2; have y0 := HNL.out.box.t0; have y1 := HNL.out.box.t1; have y2 := HNL.out.box.t2; have g0 := HNL.out.box.fr 0 (by omega); have g1 := HNL.out.box.fr 1 (by omega); have g2 := HNL.out.box.fr 2 (by omega); have h0 := HNL.out.box.ft 0 (by omega); have h1 := HNL.out.box.ft 1 (by omega)
    by_cases hlt : j < 4
    · have ck := HNL.out.cells j hlt
      cases hv : isK j x.data.toList with
      | true =>
        have HIS := Lib.hid (fun p w => risK j true x HXS.out hv p w)
        have HK := Lib.hid (nameK_at _ j hlt HNL.out.gone hv)
        have HB2 := Lib.hid (HNL.out.box.kind (kAt j))
        have HKP := Lib.hid (kAt_pos j)
        clear hv
        generalize kAt j = kk at *
        generalize kB j = kb at *
        go_wp2_with fail
        refine (HIS.out _ _).mono ?_
        rintro e w6 ⟨rfl, hb⟩
        have HX := Lib.hid (HB2.out.next hb)
        clear z0 z1 z2 y0 y1 y2 g0 g1 g2 h0 h1 ck hb
        have z0 := HX.out.r0; have z1 := HX.out.r1; have z2 := HX.out.r2; have y0 := HX.out.t0; have y1 := HX.out.t1; have y2 := HX.out.t2; have g0 := HX.out.fr 0 (by omega); have g1 := HX.out.fr 1 (by omega); have g2 := HX.out.fr 2 (by omega); have h0 := HX.out.ft 0 (by omega); have h1 := HX.out.ft 1 (by omega)
        go_wp2_with fail
        (try simp only [Exit.inBlock, Exit.then])
        refine bodyPost_ret (results_one (B := w.heap.size) (k := kk) (x := x) (a := a) (v := .bool true) (by rfl) (by rfl) (stored3 _ _ _ z0 z1 z2).1 (stored3 _ _ _ z0 z1 z2).2.1 (stored3 _ _ _ z0 z1 z2).2.2) rfl ?_
        exact nameP_some2 HK.out HKP.out rfl (below_put3 HX.out.below _ _ _)
      | false =>
        have HIS := Lib.hid (fun p w => risK j false x HXS.out hv p w)
        have HV := Lib.hid hv
        clear hv
        go_wp2_with fail
        refine (HIS.out _ _).mono ?_
        rintro e w6 ⟨rfl, hb⟩
        have HX := Lib.hid (HNL.out.next hb HV.out)
        clear z0 z1 z2 y0 y1 y2 g0 g1 g2 h0 h1 ck hb
        go_wp2_with fail
        go_roundw
        case rel => exact ⟨j + 1, by omega, by go_num, HX.out⟩
        case measure => simp [intOf]; omega
    · have h4 : j = 4 := by omega
      subst h4
      have HK := Lib.hid (nameK_none _ HNL.out.gone)
      go_wp2_with fail
      (try simp only [Exit.inBlock, Exit.then])
      refine bodyPost_ret (results_one (B := w.heap.size) (k := 4) (x := x) (a := a) (v := .bool false) (by rfl) (by rfl) (stored3 _ _ _ z0 z1 z2).1 (stored3 _ _ _ z0 z1 z2).2.1 (stored3 _ _ _ z0 z1 z2).2.2) rfl ?_
      exact nameP_none HK.out rfl (below_put3 HNL.out.box.below _ _ _)

end Go.Proofs.Ytcedigkknjioeaa
