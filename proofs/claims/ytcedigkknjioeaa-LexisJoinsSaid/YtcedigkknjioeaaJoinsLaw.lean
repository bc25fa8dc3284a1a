/- The walk of the law LexisJoins. Conditions: the tokens lie in memory; there are no more of them than a list can have. -/
import Derived.Test.YtcedigkknjioeaaRJoin
import Derived.Test.YtcedigkknjioeaaAwake
import Derived.Test.YtcedigkknjioeaaTokens
namespace Go.Proofs.Ytcedigkknjioeaa
open Go.RowKit Go.WideMaps Go.Maps

theorem at_awake2 {w0 w : World} (h : Below w0.heap.size w0 w) : Calls Try.prog 12 #[] w fun e w' => e = .returned (.bool true) ∧ Below w0.heap.size w0 w' :=
  (awake_any w).mono fun _ _ ⟨h1, h2⟩ => ⟨h1, h.trans (h2.mono h.size)⟩

/-- the cells of tokens -/
def news3 (k : Nat → Int) (q : Nat → ByteArray) (p : Nat → Int) : Nat → List Value
  | 0 => []
  | n + 1 => news3 k q p n ++ [.int .i64 (k n), .string (q n), .int .i64 (p n)]
theorem news3_len (k : Nat → Int) (q : Nat → ByteArray) (p : Nat → Int) : ∀ n, (news3 k q p n).length = n * 3
  | 0 => rfl
  | n + 1 => by
    show (news3 k q p n ++ [_, _, _]).length = _
    rw [List.length_append, news3_len k q p n]
    simp
    omega
theorem news3_at (k : Nat → Int) (q : Nat → ByteArray) (p : Nat → Int) : ∀ n j, j < n →
    (news3 k q p n)[j * 3]? = some (.int .i64 (k j)) ∧ (news3 k q p n)[j * 3 + 1]? = some (.string (q j)) ∧ (news3 k q p n)[j * 3 + 2]? = some (.int .i64 (p j))
  | n + 1, j, h => by
    have hl := news3_len k q p n
    by_cases hj : j < n
    · have ih := news3_at k q p n j hj
      refine ⟨?_, ?_, ?_⟩
      · show (news3 k q p n ++ [_, _, _])[_]? = _
        rw [List.getElem?_append_left (by omega)]; exact ih.1
      · show (news3 k q p n ++ [_, _, _])[_]? = _
        rw [List.getElem?_append_left (by omega)]; exact ih.2.1
      · show (news3 k q p n ++ [_, _, _])[_]? = _
        rw [List.getElem?_append_left (by omega)]; exact ih.2.2
    · have e : j = n := by omega
      subst e
      refine ⟨?_, ?_, ?_⟩
      · show (news3 k q p j ++ [_, _, _])[_]? = _
        rw [List.getElem?_append_right (by omega), hl, Nat.sub_self]; rfl
      · show (news3 k q p j ++ [_, _, _])[_]? = _
        rw [List.getElem?_append_right (by omega), hl, show j * 3 + 1 - j * 3 = 1 from by omega]; rfl
      · show (news3 k q p j ++ [_, _, _])[_]? = _
        rw [List.getElem?_append_right (by omega), hl, show j * 3 + 2 - j * 3 = 2 from by omega]; rfl
theorem news3_one (k : Nat → Int) (q : Nat → ByteArray) (p : Nat → Int) : ∀ n, ∀ u ∈ news3 k q p n, u.oneCell' = true
  | 0, u, h => by cases h
  | n + 1, u, h => by
    rcases List.mem_append.mp h with h | h
    · exact news3_one k q p n u h
    · simp at h
      rcases h with rfl | rfl | rfl <;> rfl
theorem news3_cells {k : Nat → Int} {q : Nat → ByteArray} {p : Nat → Int} {n g o : Nat} {w : World}
    (hc : ∀ j, j < n → w.cell? ⟨g, o + j * 3, none⟩ = some (.int .i64 (k j)) ∧ w.cell? ⟨g, o + j * 3 + 1, none⟩ = some (.string (q j)) ∧ w.cell? ⟨g, o + j * 3 + 2, none⟩ = some (.int .i64 (p j))) :
    ∀ j u, (news3 k q p n)[j]? = some u → w.cell? ((⟨g, o, none⟩ : Addr).add j) = some u := by
  intro j u hu
  have hj : j < n * 3 := by
    rcases Nat.lt_or_ge j (n * 3) with h | h
    · exact h
    · rw [List.getElem?_eq_none (by rw [news3_len]; exact h)] at hu; cases hu
  have ha : (⟨g, o, none⟩ : Addr).add j = ⟨g, o + j, none⟩ := by unfold Addr.add; split <;> simp_all
  rw [ha]
  have hi : j / 3 < n := by omega
  obtain ⟨a1, a2, a3⟩ := news3_at k q p n (j / 3) hi
  obtain ⟨b1, b2, b3⟩ := hc (j / 3) hi
  rcases (by omega : j = j / 3 * 3 ∨ j = j / 3 * 3 + 1 ∨ j = j / 3 * 3 + 2) with e | e | e
  · rw [e, a1] at hu
    rw [e, ← hu]; exact b1
  · rw [e, a2] at hu
    rw [e, ← hu]; exact b2
  · rw [e, a3] at hu
    rw [e, ← hu]; exact b3


theorem own_eq {b m : Nat} (h : (Value.slice (some ⟨b, 0, none⟩) 0 0).ownBlock = some m) : b ≤ m := by
  have e : b = m := by simpa [Value.ownBlock] using h
  omega

set_option maxRecDepth 100000 in
set_option maxHeartbeats 4000000 in
theorem joins_some (k : Nat → Int) (q : Nat → ByteArray) (p : Nat → Int) (g o n cap : Nat) (w : World) (hn1 : 1 ≤ n) (hn : n ≤ 4398046511104) (hg : g < w.heap.size) (hq : ∀ j, j < n → (q j).size ≤ maxLen)
    (hc : ∀ j, j < n → w.cell? ⟨g, o + j * 3, none⟩ = some (.int .i64 (k j)) ∧ w.cell? ⟨g, o + j * 3 + 1, none⟩ = some (.string (q j)) ∧ w.cell? ⟨g, o + j * 3 + 2, none⟩ = some (.int .i64 (p j))) :
    Calls Try.prog 6 #[.slice (some ⟨g, o, none⟩) n cap] w fun e w' => e = .returned (.bool true) ∧ Below w.heap.size w w' := by
  have HC := Lib.hid hc
  have HQ := Lib.hid hq
  obtain ⟨i0, hi, hz0, hz1, hz2⟩ := info_parts Try.info45
  have HI := Lib.hid hi; have HZ0 := Lib.hid hz0; have HZ1 := Lib.hid hz1; have HZ2 := Lib.hid hz2
  have hown := World.ownsRow_made (base := w.heap.size) (e := 45) (size := 3) w #[] 0 (Nat.le_refl _) (by unfold maxLen; omega) rfl
  have hcw : ∀ j u, (news3 k q p n)[j]? = some u → (w.alloc (.cells #[] 45)).cell? ((⟨g, o, none⟩ : Addr).add j) = some u := by
    refine news3_cells (fun j hj => ?_)
    have hB : Below w.heap.size w (w.alloc (.cells #[] 45)) := (Below.refl _ _).alloc (Nat.le_refl _) _
    exact ⟨(hB.cell (p := ⟨g, o + j * 3, none⟩) hg).trans (hc j hj).1, (hB.cell (p := ⟨g, o + j * 3 + 1, none⟩) hg).trans (hc j hj).2.1, (hB.cell (p := ⟨g, o + j * 3 + 2, none⟩) hg).trans (hc j hj).2.2⟩
  have HCW := Lib.hid hcw
  have HOWN := Lib.hid hown
  have hB0 : Hid (Below w.heap.size w (w.alloc (.cells #[] 45))) := Lib.hid ((Below.refl _ _).alloc (Nat.le_refl _) _)
  clear hc hq hi hz0 hz1 hz2 hcw hown
  go_enter Try.func6, Try.ntmps6
  go_wp2_with (at_builtin; refine wpList_append_own _ rfl _ _ 22 rfl w.heap.size 45 i0 _ 3 32 Try.underlying22 HI.out HZ0.out HZ1.out HZ2.out rfl (by decide) (.slice (some ⟨w.heap.size, 0, none⟩) 0 0) 0 [] rfl HOWN.out ⟨g, o, none⟩ n cap (news3 k q p n) rfl (news3_len k q p n) HCW.out (news3_one k q p n) (by unfold maxLen; omega) (by omega) (by simp) ?_; intro v1 w1 hown1 hgrow1 _; have HO1 := Lib.hid hown1; have HG1 := Lib.hid hgrow1; clear hown1 hgrow1)
  have hown2 : w1.ownsRow w.heap.size 45 3 v1 n (news3 k q p n) := by have h := HO1.out; rw [Nat.zero_add, List.nil_append] at h; exact h
  obtain ⟨g1, cap1, rfl, _, hg1, hcells⟩ := own_slice hown2 hn1
  have HC1 := Lib.hid (fun j (hj : j < n) => (⟨(hcells (j * 3) (by omega)).trans (news3_at k q p n j hj).1, (hcells (j * 3 + 1) (by omega)).trans (news3_at k q p n j hj).2.1, (hcells (j * 3 + 2) (by omega)).trans (news3_at k q p n j hj).2.2⟩ :
    w1.cell? ⟨g1, j * 3, none⟩ = some (.int .i64 (k j)) ∧ w1.cell? ⟨g1, j * 3 + 1, none⟩ = some (.string (q j)) ∧ w1.cell? ⟨g1, j * 3 + 2, none⟩ = some (.int .i64 (p j))))
  have HB1 : Hid (Below w.heap.size w w1) := Lib.hid (hB0.out.grown HG1.out (by simp) (fun m hm => own_eq hm))
  clear hown2 hcells
  have HJ := Lib.hid (join_any k q p g1 n cap1 w1 hn hg1 HQ.out HC1.out)
  have HRJ := Lib.hid (fun w2 (hb : Below w.heap.size w w2) => rjoin_any k q p g o n cap w2 hn (Nat.lt_of_lt_of_le hg hb.size) HQ.out
    (fun j hj => ⟨(hb.cell (p := ⟨g, o + j * 3, none⟩) hg).trans (HC.out j hj).1, (hb.cell (p := ⟨g, o + j * 3 + 1, none⟩) hg).trans (HC.out j hj).2.1, (hb.cell (p := ⟨g, o + j * 3 + 2, none⟩) hg).trans (HC.out j hj).2.2⟩))
  by_cases hall : ∀ j, j < n → okT (k j) (q j).data.toList = true
  · have HALL := Lib.hid hall
    have hse : ((accB k q n).toList == (accB k q n).toList) = true := by simp
    clear hall
    refine HJ.out.mono ?_
    rintro e w2 ⟨hb2, he, _⟩
    have he2 := he HALL.out
    subst he2
    rw [show (ByteArray.mk (jst k q n).1.toArray) = accB k q n from rfl]
    have HB2 := Lib.hid (HB1.out.trans (hb2.mono HB1.out.size))
    clear hb2 he
    go_wp2_with fail
    refine (HRJ.out _ HB2.out).mono ?_
    rintro e w3 ⟨hb3, he, _⟩
    have he3 := he HALL.out
    subst he3
    rw [show (ByteArray.mk (jst k q n).1.toArray) = accB k q n from rfl]
    have HB3 := Lib.hid (HB2.out.trans (hb3.mono HB2.out.size))
    clear hb3 he
    generalize accB k q n = s at *
    go_wp2_with fail
    refine (at_awake2 HB3.out).mono ?_
    rintro e w4 ⟨rfl, hb4⟩
    go_wp2_with fail
    go_ret
    exact ⟨rfl, hb4⟩
  · have hbad : ∃ j, j < n ∧ okT (k j) (q j).data.toList = false := by
      apply Classical.byContradiction
      intro hno
      refine hall (fun j hj => ?_)
      cases h : okT (k j) (q j).data.toList with
      | true => rfl
      | false => exact absurd ⟨j, hj, h⟩ hno
    have HBAD := Lib.hid hbad
    clear hall hbad
    refine HJ.out.mono ?_
    rintro e w2 ⟨hb2, _, he⟩
    have he2 := he HBAD.out
    subst he2
    have HB2 := Lib.hid (HB1.out.trans (hb2.mono HB1.out.size))
    clear hb2 he
    go_wp2_with fail
    refine (HRJ.out _ HB2.out).mono ?_
    rintro e w3 ⟨hb3, _, he⟩
    have he3 := he HBAD.out
    subst he3
    have HB3 := Lib.hid (HB2.out.trans (hb3.mono HB2.out.size))
    clear hb3 he
    go_wp2_with fail
    refine (at_awake2 HB3.out).mono ?_
    rintro e w4 ⟨rfl, hb4⟩
    go_wp2_with fail
    go_ret
    exact ⟨rfl, hb4⟩

set_option maxRecDepth 100000 in
set_option maxHeartbeats 4000000 in
theorem joins_zero (ad : Addr) (cap : Nat) (w : World) :
    Calls Try.prog 6 #[.slice (some ad) 0 cap] w fun e w' => e = .returned (.bool true) ∧ Below w.heap.size w w' := by
  obtain ⟨i0, hi, hz0, hz1, hz2⟩ := info_parts Try.info45
  have HI := Lib.hid hi; have HZ0 := Lib.hid hz0; have HZ1 := Lib.hid hz1; have HZ2 := Lib.hid hz2
  have hown := World.ownsRow_made (base := w.heap.size) (e := 45) (size := 3) w #[] 0 (Nat.le_refl _) (by unfold maxLen; omega) rfl
  have HOWN := Lib.hid hown
  have hB0 : Hid (Below w.heap.size w (w.alloc (.cells #[] 45))) := Lib.hid ((Below.refl _ _).alloc (Nat.le_refl _) _)
  clear hi hz0 hz1 hz2 hown
  go_enter Try.func6, Try.ntmps6
  go_wp2_with (at_builtin; refine wpList_append_own _ rfl _ _ 22 rfl w.heap.size 45 i0 _ 3 32 Try.underlying22 HI.out HZ0.out HZ1.out HZ2.out rfl (by decide) (.slice (some ⟨w.heap.size, 0, none⟩) 0 0) 0 [] rfl HOWN.out ad 0 cap [] rfl rfl (fun j u h => by cases h) (fun u h => by cases h) (by unfold maxLen; omega) (by omega) (by simp) ?_; intro v1 w1 hown1 hgrow1 _; have HO1 := Lib.hid hown1; have HG1 := Lib.hid hgrow1; clear hown1 hgrow1)
  have HB1 : Hid (Below w.heap.size w w1) := Lib.hid (hB0.out.grown HG1.out (by simp) (fun m hm => own_eq hm))
  obtain ⟨base1, cap1, rfl⟩ : ∃ base1 cap1, v1 = .slice base1 0 cap1 := by
    rcases HO1.out.2 with ⟨h, _⟩ | ⟨g', cap', cur', h, _⟩
    · exact ⟨_, _, h⟩
    · exact ⟨_, _, h⟩
  refine (join_nil base1 cap1 w1).mono ?_
  rintro e w2 ⟨rfl, hb2⟩
  have HB2 := Lib.hid (HB1.out.trans (hb2.mono HB1.out.size))
  clear hb2
  go_wp2_with fail
  refine (rjoin_nil (some ad) cap w2).mono ?_
  rintro e w3 ⟨rfl, hb3⟩
  have HB3 := Lib.hid (HB2.out.trans (hb3.mono HB2.out.size))
  clear hb3
  go_wp2_with fail
  refine (at_awake2 HB3.out).mono ?_
  rintro e w4 ⟨rfl, hb4⟩
  go_wp2_with fail
  go_ret
  exact ⟨rfl, hb4⟩

set_option maxRecDepth 100000 in
set_option maxHeartbeats 4000000 in
theorem joins_nil (w : World) :
    Calls Try.prog 6 #[.slice none 0 0] w fun e w' => e = .returned (.bool true) ∧ Below w.heap.size w w' := by
  have hB0 : Hid (Below w.heap.size w (w.alloc (.cells #[] 45))) := Lib.hid ((Below.refl _ _).alloc (Nat.le_refl _) _)
  go_enter Try.func6, Try.ntmps6
  go_wp2_with fail
  refine (join_nil _ _ _).mono ?_
  rintro e w2 ⟨rfl, hb2⟩
  have HB2 := Lib.hid (hB0.out.trans (hb2.mono hB0.out.size))
  clear hb2
  go_wp2_with fail
  refine (rjoin_nil none 0 w2).mono ?_
  rintro e w3 ⟨rfl, hb3⟩
  have HB3 := Lib.hid (HB2.out.trans (hb3.mono HB2.out.size))
  clear hb3
  go_wp2_with fail
  refine (at_awake2 HB3.out).mono ?_
  rintro e w4 ⟨rfl, hb4⟩
  go_wp2_with fail
  go_ret
  exact ⟨rfl, hb4⟩

end Go.Proofs.Ytcedigkknjioeaa
