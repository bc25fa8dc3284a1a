/- What Join returns. Conditions: the tokens lie in memory; there are no more of them than a list can have. -/
import Derived.Test.YtcedigkknjioeaaIsTok
import Derived.Test.YtcedigkknjioeaaBuild
import Derived.Test.YtcedigkknjioeaaBuild2
import Derived.Test.YtcedigkknjioeaaToks
namespace Go.Proofs.Ytcedigkknjioeaa
open Go.RowKit Go.WideMaps Go.Maps

/-- what is joined of the first tokens, and whether a blank comes next -/
def jst (k : Nat → Int) (q : Nat → ByteArray) : Nat → List UInt8 × Bool
  | 0 => ([], false)
  | j + 1 => if k j = 7 then jst k q j else ((jst k q j).1 ++ (if (jst k q j).2 then [32] else []) ++ (q j).data.toList, !decide ((q j).data.toList = [39]))
def sepB (b : Bool) : ByteArray := if b then ⟨#[32]⟩ else ⟨#[]⟩
theorem sepB_list (b : Bool) : (sepB b).data.toList = if b then [32] else [] := by cases b <;> rfl
theorem sepB_size (b : Bool) : (sepB b).size ≤ 1 := by cases b <;> decide

theorem kind_len (l : List UInt8) (h : Lx.kind l ≠ 0) : l.length ≤ 19 := by
  have hnm : Lx.isNm l = true → l.length ≤ 19 := fun h => by
    cases l with
    | nil => simp
    | cons b y => simp [Lx.isNm] at h; simp; omega
  unfold Lx.kind at h
  split at h
  · rename_i hw
    have : ∀ x ∈ Lx.words, x.length ≤ 19 := by decide
    exact this l (by simpa using hw)
  · split at h
    · rename_i hc
      refine hnm ?_
      cases l with
      | nil => cases hc
      | cons b y => simp [Lx.isCap] at hc; exact hc.1
    · split at h
      · rename_i hn
        exact hnm hn
      · split at h
        · rename_i hn
          simp [Lx.isNum] at hn
          omega
        · split at h
          · rename_i hs
            have h1 : ∀ x ∈ Lx.runSigns, x.length ≤ 19 := by decide
            have h2 : ∀ x ∈ Lx.byteSigns, x.length ≤ 19 := by decide
            simp [Lx.isSg] at hs
            rcases hs with hs | hs
            · exact h1 l hs
            · exact h2 l hs
          · split at h
            · rename_i ho
              simp [Lx.isOpL] at ho
              omega
            · exact absurd rfl h

theorem okT_len (k : Int) (l : List UInt8) (h : okT k l = true) : l.length ≤ 19 := by
  unfold okT at h
  split at h
  · have : l = [] := by simpa using h
    rw [this]; simp
  · simp at h
    exact kind_len l (by rw [← h.2]; exact h.1)

theorem jst_len (k : Nat → Int) (q : Nat → ByteArray) : ∀ j, (∀ i, i < j → okT (k i) (q i).data.toList = true) → (jst k q j).1.length ≤ 20 * j
  | 0, _ => by simp [jst]
  | j + 1, h => by
    have ih := jst_len k q j (fun i hi => h i (by omega))
    have h1 := okT_len _ _ (h j (by omega))
    unfold jst
    split
    · omega
    · rw [Lx.size_list] at h1
      simp only [List.length_append, Lx.size_list]
      split <;> simp only [List.length_cons, List.length_nil] <;> omega

theorem BuilderF.next {T e : TypeId} {B b : Nat} {bs : List Value} {w w' : World} (h : Lib.IsBuilderF T e B b bs w) (hb : Below w.heap.size w w') : Lib.IsBuilderF T e B b bs w' := by
  have hg : w.grownBy w' none := ⟨hb.os, hb.tape, hb.output, hb.size, fun j hj _ => hb.block j hj⟩
  rcases h with ⟨h1, v, h2, h3, h4⟩ | ⟨h1, v, h2, h3, h4⟩
  · refine .inl ⟨h1, v, ?_, h3.kept hg (by cases hv : v.ownBlock <;> simp), h4⟩
    rw [hb.block b (lt_of_block h2)]; exact h2
  · refine .inr ⟨h1, v, ?_, h3.kept hg (by cases hv : v.ownBlock <;> simp), h4⟩
    rw [hb.block b (lt_of_block h2)]; exact h2

/-- the loop's invariant -/
structure JI (w : World) (bm b : Nat) (k : Nat → Int) (q : Nat → ByteArray) (j : Nat) (wr : World) : Prop where
  below : Below w.heap.size w wr
  map : WMap wr bm
  bld : Lib.IsBuilderF 66 5 b b (Lib.byteCells (jst k q j).1) wr
  lt : bm < b
  ge : w.heap.size ≤ b
  ok : ∀ i, i < j → okT (k i) (q i).data.toList = true

theorem JI.bsz {w wr : World} {bm b j : Nat} {k : Nat → Int} {q : Nat → ByteArray} (h : JI w bm b k q j wr) : b < wr.heap.size := by
  rcases h.bld with ⟨_, v, h2, _⟩ | ⟨_, v, h2, _⟩ <;> exact lt_of_block h2

theorem JI.next {w wr w' : World} {bm b j : Nat} {k : Nat → Int} {q : Nat → ByteArray} (h : JI w bm b k q j wr) (hb : Below wr.heap.size wr w') : JI w bm b k q j w' :=
  ⟨h.below.trans (hb.mono h.below.size), h.map.next hb, BuilderF.next h.bld hb, h.lt, h.ge, h.ok⟩

theorem JI.start {w w1 : World} {bm : Nat} {k : Nat → Int} {q : Nat → ByteArray} (hb : Below w.heap.size w w1) (hm : WMap w1 bm) : JI w bm w1.heap.size k q 0 (w1.alloc (Obj.cells #[.pointer none, .slice none 0 0] 66)) :=
  ⟨hb.alloc hb.size _, hm.alloc _, Lib.IsBuilderF.of (Lib.fresh_isBuilder 66 5 w1), hm.lt, hb.size, fun _ hi => absurd hi (Nat.not_lt_zero _)⟩

/-- what Join leaves -/
def JoinP (w : World) (k : Nat → Int) (q : Nat → ByteArray) (n : Nat) (e : Ending) (w' : World) : Prop := Below w.heap.size w w' ∧
  ((∀ j, j < n → okT (k j) (q j).data.toList = true) → e = .returned (.tuple #[.string ⟨(jst k q n).1.toArray⟩, .int .i64 0])) ∧
  ((∃ j, j < n ∧ okT (k j) (q j).data.toList = false) → e = .returned (.tuple #[.string ⟨#[]⟩, .int .i64 2]))
theorem joinP_bad {w w' : World} {k : Nat → Int} {q : Nat → ByteArray} {n j : Nat} (hb : Below w.heap.size w w') (hj : j < n) (hv : okT (k j) (q j).data.toList = false) : JoinP w k q n (.returned (.tuple #[.string ⟨#[]⟩, .int .i64 2])) w' :=
  ⟨hb, fun h => (by rw [h j hj] at hv; cases hv), fun _ => rfl⟩
theorem joinP_good {w w' : World} {k : Nat → Int} {q : Nat → ByteArray} {n : Nat} (hb : Below w.heap.size w w') (hv : ∀ i, i < n → okT (k i) (q i).data.toList = true) : JoinP w k q n (.returned (.tuple #[.string ⟨(jst k q n).1.toArray⟩, .int .i64 0])) w' :=
  ⟨hb, fun _ => rfl, fun ⟨j, hj, h⟩ => (by rw [hv j hj] at h; cases h)⟩
theorem WMap.below {B bm : Nat} {w w' : World} (h : WMap w bm) (hb : Below B w w') (hlt : bm < B) : WMap w' bm := by
  obtain ⟨es, clock, h1, F, hs, hD⟩ := h
  exact ⟨es, clock, (hb.block bm hlt).trans h1, F, hs, hD⟩
theorem box_kept {w w' : World} {b m : Nat} {c : Array Value} (h : w.heap[m]? = some (Obj.cells c 45)) (hk : Lib.OthersKept 5 (some b) w w') (hm : m ≠ b) : w'.heap[m]? = some (Obj.cells c 45) :=
  hk m _ h (by simpa using hm) (fun c' fz e => by injection e with _ e2 _; exact absurd e2 (by decide))
theorem box_two {w : World} {m : Nat} {k p : Int} {q : ByteArray} (h : w.heap[m]? = some (Obj.cells #[.int .i64 k, .string q, .int .i64 p] 45)) : w.cell? ⟨m, 0, none⟩ = some (.int .i64 k) ∧ w.cell? ⟨m, 1, none⟩ = some (.string q) :=
  ⟨cell_of_row w m 0 _ 45 (0, 0) h, cell_of_row w m 1 _ 45 (0, 0) h⟩

set_option maxRecDepth 100000 in
set_option maxHeartbeats 8000000 in
theorem join_any (k : Nat → Int) (q : Nat → ByteArray) (p : Nat → Int) (g n cap : Nat) (w : World) (hn : n ≤ 4398046511104) (hg : g < w.heap.size) (hq : ∀ j, j < n → (q j).size ≤ maxLen)
    (hc : ∀ j, j < n → w.cell? ⟨g, j * 3, none⟩ = some (.int .i64 (k j)) ∧ w.cell? ⟨g, j * 3 + 1, none⟩ = some (.string (q j)) ∧ w.cell? ⟨g, j * 3 + 2, none⟩ = some (.int .i64 (p j))) :
    Calls Try.prog 24 #[.slice (some ⟨g, 0, none⟩) n cap] w (JoinP w k q n) := by
  have HC := Lib.hid hc
  have HQ := Lib.hid hq
  clear hc hq
  go_enter Try.func24, Try.ntmps24
  go_wp2_with fail
  refine (wordSet_any _).mono ?_
  rintro e w1 ⟨rfl, hws⟩
  have HJ0 : Hid (JI w w.heap.size w1.heap.size k q 0 (w1.alloc (Obj.cells #[.pointer none, .slice none 0 0] 66))) := Lib.hid (JI.start hws.2.1 hws.1)
  clear hws
  go_wp2_with fail
  go_loopw [6, 12] (fun s i wr => ∃ j : Nat, j ≤ n ∧ i = .int .i64 j ∧ s = .string (sepB (jst k q j).2) ∧ JI w w.heap.size w1.heap.size k q j wr) (fun _ i _ => n - (intOf i).toNat)
  case atStart => exact ⟨0, Nat.zero_le _, rfl, rfl, HJ0.out⟩
  case round =>
    obtain ⟨j, hj, rfl, rfl, hji⟩ := hrel
    have HJ := Lib.hid hji
    clear hji
    by_cases hlt : j < n
    · have c0 := (HJ.out.below.cell (p := ⟨g, j * 3, none⟩) hg).trans (HC.out j hlt).1
      have c1 := (HJ.out.below.cell (p := ⟨g, j * 3 + 1, none⟩) hg).trans (HC.out j hlt).2.1
      have c2 := (HJ.out.below.cell (p := ⟨g, j * 3 + 2, none⟩) hg).trans (HC.out j hlt).2.2
      have hq := HQ.out j hlt
      have hrow : (wr.alloc (Obj.cells #[Value.int IntKind.i64 (k j), Value.string (q j), Value.int IntKind.i64 (p j)] 45)).heap[wr.heap.size]? = some (Obj.cells #[Value.int IntKind.i64 (k j), Value.string (q j), Value.int IntKind.i64 (p j)] 45) := heap_alloc_new wr _
      have hb1 : Below wr.heap.size wr (wr.alloc (Obj.cells #[Value.int IntKind.i64 (k j), Value.string (q j), Value.int IntKind.i64 (p j)] 45)) := (Below.refl _ _).alloc (Nat.le_refl _) _
      have HJ1 := Lib.hid (HJ.out.next hb1)
      have HROW := Lib.hid hrow
      clear hrow hb1
      cases hv : okT (k j) (q j).data.toList with
      | false =>
        go_wp2_with fail
        refine (istok (k j) (q j) (p j) _ w.heap.size HJ1.out.map hq false hv).mono ?_
        rintro e w2 ⟨rfl, hb2⟩
        have HJ2 := Lib.hid (HJ1.out.next hb2)
        clear hb2
        go_wp2_with fail
        go_ret2
        exact joinP_bad HJ2.out.below hlt hv
      | true =>
        have HOK : Hid (∀ i, i < j + 1 → okT (k i) (q i).data.toList = true) := Lib.hid (fun i hi => by
          by_cases hij : i = j
          · subst hij; exact hv
          · exact HJ.out.ok i (by omega))
        go_wp2_with fail
        refine (istok (k j) (q j) (p j) _ w.heap.size HJ1.out.map hq true hv).mono ?_
        rintro e w2 ⟨rfl, hb2⟩
        have HJ2 := Lib.hid (HJ1.out.next hb2)
        have HR2 := Lib.hid ((hb2.block wr.heap.size (by simp)).trans HROW.out)
        clear hb2 hv
        obtain ⟨d0, d1⟩ := box_two HR2.out
        by_cases h7 : k j = 7
        · have q7 : (k j == 7) = true := by rw [h7]; rfl
          have HJST : Hid (jst k q (j + 1) = jst k q j) := Lib.hid (by
            show (if k j = 7 then _ else _) = _
            rw [if_pos h7])
          have HJ3 : Hid (JI w w.heap.size w1.heap.size k q (j + 1) w2) := Lib.hid ⟨HJ2.out.below, HJ2.out.map, by rw [HJST.out]; exact HJ2.out.bld, HJ2.out.lt, HJ2.out.ge, HOK.out⟩
          clear h7
          go_wp2_with fail
          go_roundw
          case rel => exact ⟨j + 1, by omega, by go_num, by rw [HJST.out], HJ3.out⟩
          case measure => simp [intOf]; omega
        · have q7 : (k j == 7) = false := by simpa using h7
          have HJST : Hid (jst k q (j + 1) = ((jst k q j).1 ++ (if (jst k q j).2 then [32] else []) ++ (q j).data.toList, !decide ((q j).data.toList = [39]))) := Lib.hid (by
            show (if k j = 7 then _ else _) = _
            rw [if_neg h7])
          have hl1 := jst_len k q j HJ.out.ok
          have hl2 := okT_len _ _ (HOK.out j (by omega))
          rw [Lx.size_list] at hl2
          have hbz := HJ2.out.bsz
          clear h7
          go_wp2_with fail
          refine (Try.Builder_WriteString_k w1.heap.size w1.heap.size _ (sepB (jst k q j).2) w2 HJ2.out.bld ?_ (by omega)).mono ?_
          · have h1 := sepB_size (jst k q j).2
            unfold Lib.byteCells
            rw [List.length_map]
            omega
          rintro e w3 ⟨rfl, hbd3, hb3, hk3⟩
          have hm3 := HJ2.out.map.below hb3 HJ2.out.lt
          have HR3 := Lib.hid (box_kept HR2.out hk3 (by have := HJ.out.bsz; omega))
          have hbl3 := HJ2.out.below.trans (hb3.mono HJ2.out.ge)
          have hbz3 := hb3.size
          have HB3 := Lib.hid hbd3
          have HBL3 := Lib.hid hbl3
          have HM3 := Lib.hid hm3
          clear hb3 hk3 hbd3 hbl3 hm3 d0 d1
          obtain ⟨d0, d1⟩ := box_two HR3.out
          go_wp2_with fail
          refine (Try.Builder_WriteString_k w1.heap.size w1.heap.size _ (q j) w3 (.inr HB3.out) ?_ (by omega)).mono ?_
          · have h1 := sepB_size (jst k q j).2
            unfold Lib.byteCells
            rw [List.length_append, List.length_map, Lib.strCells_length]
            omega
          rintro e w4 ⟨rfl, hbd4, hb4, hk4⟩
          have HR4 := Lib.hid (box_kept HR3.out hk4 (by have := HJ.out.bsz; omega))
          have HJ4 : Hid (JI w w.heap.size w1.heap.size k q (j + 1) w4) := Lib.hid ⟨HBL3.out.trans (hb4.mono HJ2.out.ge), HM3.out.below hb4 HJ2.out.lt, by
            rw [HJST.out]
            have e : Lib.byteCells ((jst k q j).1 ++ (if (jst k q j).2 then [32] else []) ++ (q j).data.toList) = Lib.byteCells (jst k q j).1 ++ Lib.strCells (sepB (jst k q j).2) ++ Lib.strCells (q j) := by
              unfold Lib.byteCells Lib.strCells
              rw [List.map_append, List.map_append, sepB_list]
            rw [e]
            exact .inr hbd4, HJ2.out.lt, HJ2.out.ge, HOK.out⟩
          clear hb4 hk4 hbd4 d0 d1
          obtain ⟨d0, d1⟩ := box_two HR4.out
          by_cases h39 : (q j).data.toList = [39]
          · have q39 : ((q j).toList == [39]) = true := by rw [Lib.toList_data, h39]; rfl
            have HS : Hid ((jst k q (j + 1)).2 = false) := Lib.hid (by rw [HJST.out]; simp [h39])
            clear h39
            go_wp2_with fail
            go_roundw
            case rel => exact ⟨j + 1, by omega, by go_num, by rw [HS.out]; rfl, HJ4.out⟩
            case measure => simp [intOf]; omega
          · have q39 : ((q j).toList == [39]) = false := by rw [Lib.toList_data]; simpa using h39
            have HS : Hid ((jst k q (j + 1)).2 = true) := Lib.hid (by rw [HJST.out]; simp [h39])
            clear h39
            go_wp2_with fail
            go_roundw
            case rel => exact ⟨j + 1, by omega, by go_num, by rw [HS.out]; rfl, HJ4.out⟩
            case measure => simp [intOf]; omega
    · have e : j = n := by omega
      subst e
      have hbz := HJ.out.bsz
      go_wp2_with fail
      refine (Try.Builder_String_any_k w1.heap.size w1.heap.size _ wr HJ.out.bld (by omega)).mono ?_
      rintro e w2 ⟨rfl, _, hb2, _⟩
      have hbl := Lib.hid (HJ.out.below.trans (hb2.mono HJ.out.ge))
      clear hb2
      go_wp2_with fail
      go_ret2
      exact joinP_good hbl.out HJ.out.ok

end Go.Proofs.Ytcedigkknjioeaa
