/- What the reference's Join returns. Conditions: the tokens lie in memory; there are no more of them than a list can have. -/
import Derived.Test.YtcedigkknjioeaaIsAll
import Derived.Test.YtcedigkknjioeaaJoin
namespace Go.Proofs.Ytcedigkknjioeaa
open Go.RowKit Go.WideMaps Go.Maps

/-- what the reference's Join leaves -/
def RJoinP (w : World) (k : Nat → Int) (q : Nat → ByteArray) (n : Nat) (e : Ending) (w' : World) : Prop := Below w.heap.size w w' ∧
  ((∀ j, j < n → okT (k j) (q j).data.toList = true) → e = .returned (.tuple #[.string ⟨(jst k q n).1.toArray⟩, .bool true])) ∧
  ((∃ j, j < n ∧ okT (k j) (q j).data.toList = false) → e = .returned (.tuple #[.string ⟨#[]⟩, .bool false]))
theorem rjoinP_bad {w w' : World} {k : Nat → Int} {q : Nat → ByteArray} {n j : Nat} (hb : Below w.heap.size w w') (hj : j < n) (hv : okT (k j) (q j).data.toList = false) : RJoinP w k q n (.returned (.tuple #[.string ⟨#[]⟩, .bool false])) w' :=
  ⟨hb, fun h => (by rw [h j hj] at hv; cases hv), fun _ => rfl⟩
theorem rjoinP_good {w w' : World} {k : Nat → Int} {q : Nat → ByteArray} {n : Nat} (hb : Below w.heap.size w w') (hv : ∀ i, i < n → okT (k i) (q i).data.toList = true) : RJoinP w k q n (.returned (.tuple #[.string ⟨(jst k q n).1.toArray⟩, .bool true])) w' :=
  ⟨hb, fun _ => rfl, fun ⟨j, hj, h⟩ => (by rw [hv j hj] at h; cases h)⟩

def accB (k : Nat → Int) (q : Nat → ByteArray) (j : Nat) : ByteArray := ⟨(jst k q j).1.toArray⟩
theorem accB_size (k : Nat → Int) (q : Nat → ByteArray) (j : Nat) : (accB k q j).size = (jst k q j).1.length := by rw [← Lx.size_list]; rfl
theorem accB_same {k : Nat → Int} {q : Nat → ByteArray} {j : Nat} (h : jst k q (j + 1) = jst k q j) : accB k q (j + 1) = accB k q j := by unfold accB; rw [h]
theorem accB_blank {k : Nat → Int} {q : Nat → ByteArray} {j : Nat} (h : jst k q (j + 1) = ((jst k q j).1 ++ (if (jst k q j).2 then [32] else []) ++ (q j).data.toList, !decide ((q j).data.toList = [39]))) (hb : (jst k q j).2 = true) :
    accB k q j ++ ⟨#[32]⟩ ++ q j = accB k q (j + 1) := by
  unfold accB
  rw [h, hb]
  apply ByteArray.ext
  simp
theorem accB_none {k : Nat → Int} {q : Nat → ByteArray} {j : Nat} (h : jst k q (j + 1) = ((jst k q j).1 ++ (if (jst k q j).2 then [32] else []) ++ (q j).data.toList, !decide ((q j).data.toList = [39]))) (hb : (jst k q j).2 = false) :
    accB k q j ++ q j = accB k q (j + 1) := by
  unfold accB
  rw [h, hb]
  apply ByteArray.ext
  simp

set_option maxRecDepth 100000 in
set_option maxHeartbeats 8000000 in
theorem rjoin_any (k : Nat → Int) (q : Nat → ByteArray) (p : Nat → Int) (g o n cap : Nat) (w : World) (hn : n ≤ 4398046511104) (hg : g < w.heap.size) (hq : ∀ j, j < n → (q j).size ≤ maxLen)
    (hc : ∀ j, j < n → w.cell? ⟨g, o + j * 3, none⟩ = some (.int .i64 (k j)) ∧ w.cell? ⟨g, o + j * 3 + 1, none⟩ = some (.string (q j)) ∧ w.cell? ⟨g, o + j * 3 + 2, none⟩ = some (.int .i64 (p j))) :
    Calls Try.prog 25 #[.slice (some ⟨g, o, none⟩) n cap] w (RJoinP w k q n) := by
  have HC := Lib.hid hc
  have HQ := Lib.hid hq
  clear hc hq
  go_enter Try.func25, Try.ntmps25
  go_wp2_with fail
  go_loopw [4, 5, 10] (fun s b i wr => ∃ j : Nat, j ≤ n ∧ i = .int .i64 j ∧ s = .string (accB k q j) ∧ b = .bool (jst k q j).2 ∧ Below w.heap.size w wr ∧ Hid (∀ i, i < j → okT (k i) (q i).data.toList = true)) (fun _ _ i _ => n - (intOf i).toNat)
  case atStart => exact ⟨0, Nat.zero_le _, rfl, rfl, rfl, Below.refl _ _, Lib.hid (fun i hi => absurd hi (Nat.not_lt_zero _))⟩
  case round =>
    obtain ⟨j, hj, rfl, rfl, rfl, hb, HOKJ⟩ := hrel
    by_cases hlt : j < n
    · have c0 := (hb.cell (p := ⟨g, o + j * 3, none⟩) hg).trans (HC.out j hlt).1
      have c1 := (hb.cell (p := ⟨g, o + j * 3 + 1, none⟩) hg).trans (HC.out j hlt).2.1
      have c2 := (hb.cell (p := ⟨g, o + j * 3 + 2, none⟩) hg).trans (HC.out j hlt).2.2
      have hq := HQ.out j hlt
      have hrow : (wr.alloc (Obj.cells #[Value.int IntKind.i64 (k j), Value.string (q j), Value.int IntKind.i64 (p j)] 45)).heap[wr.heap.size]? = some (Obj.cells #[Value.int IntKind.i64 (k j), Value.string (q j), Value.int IntKind.i64 (p j)] 45) := heap_alloc_new wr _
      have HB1 : Hid (Below w.heap.size w (wr.alloc (Obj.cells #[Value.int IntKind.i64 (k j), Value.string (q j), Value.int IntKind.i64 (p j)] 45))) := Lib.hid (hb.alloc hb.size _)
      have HROW := Lib.hid hrow
      clear hrow hb
      cases hv : okT (k j) (q j).data.toList with
      | false =>
        have HIT := Lib.hid (fun w => risAll (k j) (q j) (p j) w hq false hv)
        go_wp2_with fail
        refine (HIT.out _).mono ?_
        rintro e w2 ⟨rfl, hb2⟩
        have HB2 := Lib.hid (HB1.out.trans (hb2.mono HB1.out.size))
        clear hb2
        go_wp2_with fail
        go_ret2
        exact rjoinP_bad HB2.out hlt hv
      | true =>
        have HOK : Hid (∀ i, i < j + 1 → okT (k i) (q i).data.toList = true) := Lib.hid (fun i hi => by
          by_cases hij : i = j
          · subst hij; exact hv
          · exact HOKJ.out i (by omega))
        have HIT := Lib.hid (fun w => risAll (k j) (q j) (p j) w hq true hv)
        have hl1 := jst_len k q j HOKJ.out
        have hl2 := okT_len _ _ hv
        rw [Lx.size_list] at hl2
        rw [← accB_size] at hl1
        clear hv
        go_wp2_with fail
        refine (HIT.out _).mono ?_
        rintro e w2 ⟨rfl, hb2⟩
        have HB2 := Lib.hid (HB1.out.trans (hb2.mono HB1.out.size))
        have HR2 := Lib.hid ((hb2.block wr.heap.size (by simp)).trans HROW.out)
        clear hb2
        obtain ⟨d0, d1⟩ := box_two HR2.out
        by_cases h7 : k j = 7
        · have q7 : (k j == 7) = true := by rw [h7]; rfl
          have HJST : Hid (jst k q (j + 1) = jst k q j) := Lib.hid (by
            show (if k j = 7 then _ else _) = _
            rw [if_pos h7])
          have HA := Lib.hid (accB_same HJST.out)
          clear h7
          go_wp2_with fail
          go_roundw
          case rel => exact ⟨j + 1, by omega, by go_num, by rw [HA.out], by rw [HJST.out], HB2.out, HOK⟩
          case measure => simp [intOf]; omega
        · have q7 : (k j == 7) = false := by simpa using h7
          have HJST : Hid (jst k q (j + 1) = ((jst k q j).1 ++ (if (jst k q j).2 then [32] else []) ++ (q j).data.toList, !decide ((q j).data.toList = [39]))) := Lib.hid (by
            show (if k j = 7 then _ else _) = _
            rw [if_neg h7])
          have HS : Hid ((jst k q (j + 1)).2 = !((q j).toList == [39])) := Lib.hid (by
            rw [HJST.out, Lib.toList_data]
            show (!decide ((q j).data.toList = [39])) = !((q j).data.toList == [39])
            congr 1
            rw [Bool.eq_iff_iff]
            simp)
          clear h7
          cases hbl : (jst k q j).2 with
          | true =>
            have HA := Lib.hid (accB_blank HJST.out hbl)
            clear hbl
            go_wp2_with fail
            go_roundw
            case rel => exact ⟨j + 1, by omega, by go_num, by rw [← HA.out], by rw [HS.out], HB2.out, HOK⟩
            case measure => simp [intOf]; omega
          | false =>
            have HA := Lib.hid (accB_none HJST.out hbl)
            clear hbl
            go_wp2_with fail
            go_roundw
            case rel => exact ⟨j + 1, by omega, by go_num, by rw [← HA.out], by rw [HS.out], HB2.out, HOK⟩
            case measure => simp [intOf]; omega
    · have e : j = n := by omega
      subst e
      have HB := Lib.hid hb
      clear hb
      go_wp2_with fail
      go_ret2
      exact rjoinP_good HB.out HOKJ.out

set_option maxHeartbeats 2000000 in
theorem rjoin_nil (base : Option Addr) (cap : Nat) (w : World) :
    Calls Try.prog 25 #[.slice base 0 cap] w fun e w' => e = .returned (.tuple #[.string ⟨#[]⟩, .bool true]) ∧ Below w.heap.size w w' := by
  go_enter Try.func25, Try.ntmps25
  go_wp2_with fail
  go_loopw [4, 5, 10] (fun s b i wr => i = .int .i64 0 ∧ s = .string ⟨#[]⟩ ∧ b = .bool false ∧ Below w.heap.size w wr) (fun _ _ i _ => 0)
  case atStart => exact ⟨rfl, rfl, rfl, Below.refl _ _⟩
  case round =>
    obtain ⟨rfl, rfl, rfl, hb⟩ := hrel
    go_wp2_with fail
    go_ret2
    exact ⟨rfl, hb⟩

set_option maxHeartbeats 2000000 in
theorem join_nil (base : Option Addr) (cap : Nat) (w : World) :
    Calls Try.prog 24 #[.slice base 0 cap] w fun e w' => e = .returned (.tuple #[.string ⟨#[]⟩, .int .i64 0]) ∧ Below w.heap.size w w' := by
  go_enter Try.func24, Try.ntmps24
  go_wp2_with fail
  refine (wordSet_any _).mono ?_
  rintro e w1 ⟨rfl, hws⟩
  have HJ0 : Hid (JI w w.heap.size w1.heap.size (fun _ => 0) (fun _ => ⟨#[]⟩) 0 (w1.alloc (Obj.cells #[.pointer none, .slice none 0 0] 66))) := Lib.hid (JI.start hws.2.1 hws.1)
  clear hws
  go_wp2_with fail
  go_loopw [6, 12] (fun s i wr => i = .int .i64 0 ∧ s = .string ⟨#[]⟩ ∧ JI w w.heap.size w1.heap.size (fun _ => 0) (fun _ => ⟨#[]⟩) 0 wr) (fun _ i _ => 0)
  case atStart => exact ⟨rfl, rfl, HJ0.out⟩
  case round =>
    obtain ⟨rfl, rfl, hji⟩ := hrel
    have HJ := Lib.hid hji
    have hbz := hji.bsz
    clear hji
    go_wp2_with fail
    refine (Try.Builder_String_any_k w1.heap.size w1.heap.size [] wr HJ.out.bld (by omega)).mono ?_
    rintro e w2 ⟨rfl, _, hb2, _⟩
    have hbl := Lib.hid (HJ.out.below.trans (hb2.mono HJ.out.ge))
    clear hb2
    go_wp2_with fail
    go_ret2
    exact ⟨rfl, hbl.out⟩

end Go.Proofs.Ytcedigkknjioeaa
