/- The walk of the law LexisComment, where a comment is put in. Conditions: source and comment are within the reach; the tokens of the longer source are those of the source, moved. -/
import Derived.Test.YtcedigkknjioeaaCommentT
import Derived.Deep.RegionWith
namespace Go.Proofs.Ytcedigkknjioeaa
open Go.RowKit Go.WideMaps Go.Maps

set_option maxRecDepth 100000 in
set_option maxHeartbeats 2000000 in
theorem comment_later (s c : ByteArray) (a : Int) (w : World) (hsum : s.size + c.size ≤ 11991) (T T2 : List Lx.Tok) (n idx : Nat) (hn4 : 1 ≤ n) (hn5 : n ≤ 12001) (hn : n = T.length) (hi : idx < n) (hpA : ∀ j, j < n → pT T j ≤ s.size)
    (hT : Calls Try.prog 9 #[.string s] w (TokOk T w)) (hidx : wrap64 ((IntKind.u64.wrap a).tmod (n : Int)) = (idx : Int)) (hp : pT T idx ≤ s.size) (h0 : 0 < idx) (hq : (qT T (idx - 1)).toList ≠ [39])
    (hl2 : n = T2.length) (hk2 : ∀ j, j < n → kT T2 j = kT T j) (hq2 : ∀ j, j < n → qT T2 j = qT T j) (hp1 : ∀ j, j < n → j < idx → pT T2 j = pT T j) (hp2 : ∀ j, j < n → idx ≤ j → pT T2 j = pT T j + (putB c).size)
    (hIns : ∀ w2, Calls Try.prog 9 #[.string (insB s c (pT T idx))] w2 (TokOk T2 w2)) :
    Calls Try.prog 8 #[.string s, .int .i64 a, .string c] w fun e w' => e = .returned (.bool true) ∧ Below w.heap.size w w' := by
  have HT := Lib.hid hT
  have hqq : ((qT T (idx - 1)).toList == [39]) = false := by simpa using hq
  have HN := Lib.hid hn
  have HI := Lib.hid hIns
  have HPA := Lib.hid hpA
  have HL2 := Lib.hid hl2
  have HK2 := Lib.hid hk2
  have HQ2 := Lib.hid hq2
  have HP1 := Lib.hid hp1
  have HP2 := Lib.hid hp2
  have hPs := putB_le c
  unfold insB at HI
  clear hT hn hq hpA hIns hl2 hk2 hq2 hp1 hp2
  go_enter Try.func8, Try.ntmps8
  go_wp2_with fail
  refine HT.out.mono ?_
  rintro e w1 ⟨g, cap, rfl, hg, hb1, hcells⟩
  rw [← HN.out] at hcells ⊢
  have HC := Lib.hid hcells
  have c0 := (hcells idx hi).2.2
  have c1 := (hcells (idx - 1) (by omega)).2.1
  clear hcells
  generalize pT T idx = p at *
  generalize qT T (idx - 1) = q at *
  go_wp2_with fail
  go_loop [10, 11] (fun l i => ∃ k : Nat, k ≤ c.size ∧ i = .int .i64 k ∧ l = .string (lineB (c.data.toList.take k))) (fun _ i => c.size - (intOf i).toNat)
  case atStart => exact ⟨0, Nat.zero_le _, rfl, rfl⟩
  case round =>
    obtain ⟨k, hk, rfl, rfl⟩ := hrel
    have hlb := lineB_take c k
    by_cases hlt : k < c.size
    · by_cases hb : c[k]'hlt = 10
      · have e := Lib.hid (line_skip c k hlt hb)
        have hb2 : (c[k]'hlt).toNat = 10 := by rw [hb]; rfl
        clear hb
        go_wp2_with fail
        go_round
        case rel => exact ⟨k + 1, by omega, by go_num, by rw [e.out]⟩
        case measure => simp [intOf]; omega
      · have e := Lib.hid (line_more c k hlt hb)
        have hb2 : ¬ (c[k]'hlt).toNat = 10 := fun h => hb (by apply UInt8.toNat_inj.mp; rw [h]; rfl)
        clear hb
        go_wp2_with fail
        go_round
        case rel => exact ⟨k + 1, by omega, by go_num, by rw [← e.out]⟩
        case measure => simp [intOf]; omega
    · have e := Lib.hid (line_all c k (by omega))
      rw [e.out] at hlb ⊢
      go_wp2_with fail
      rw [show (⟨#[9, 32, 45, 45, 32]⟩ ++ lineB c.data.toList ++ ⟨#[10, 13]⟩ : ByteArray) = putB c from rfl]
      generalize putB c = P at *
      go_region_with (go_at_call 9; refine (HI.out _).mono ?_; rintro e w2 ⟨g2, cap2, rfl, hg2, hb2, hcells2⟩; rw [← HL2.out] at hcells2 ⊢)
      all_goals
        have hg3 : g < w2.heap.size := Nat.lt_of_lt_of_le hg hb2.size
        have hb3 : Below w.heap.size w w2 := hb1.drew.trans (hb2.mono hb1.drew.size)
        have HS := Lib.hid (rsameNo (kT T) (qT T) g g2 n cap cap2 w2 (by omega) hg3 hg2
          (fun j hj => ⟨(hb2.cell (p := ⟨g, j * 3, none⟩) hg).trans (HC.out j hj).1, (hb2.cell (p := ⟨g, j * 3 + 1, none⟩) hg).trans (HC.out j hj).2.1⟩)
          (fun j hj => by have h := hcells2 j hj; rw [HK2.out j hj, HQ2.out j hj] at h; exact ⟨h.1, h.2.1⟩))
        have HP := Lib.hid (fun j (hj : j < n) => (hb2.cell (p := ⟨g, j * 3 + 2, none⟩) hg).trans (HC.out j hj).2.2)
        have HQ := Lib.hid (fun j (hj : j < n) => (hcells2 j hj).2.2)
        clear hcells2 c0 c1 hqq hlb
        go_wp2_with fail
        refine HS.out.mono ?_
        rintro e w3 ⟨rfl, hb4⟩
        have hb5 : Below w.heap.size w w3 := hb3.trans (hb4.mono hb3.size)
        go_wp2_with fail
        go_loop [145] (fun i => ∃ k2 : Nat, k2 ≤ n ∧ i = .int .i64 k2) (fun i => n - (intOf i).toNat)
        case atStart => exact ⟨0, Nat.zero_le _, rfl⟩
        case round =>
          obtain ⟨k2, hk2, rfl⟩ := hrel
          by_cases hlt2 : k2 < n
          · have q1 := (hb4.cell (p := ⟨g, k2 * 3 + 2, none⟩) hg3).trans (HP.out k2 hlt2)
            have q2 := (hb4.cell (p := ⟨g2, k2 * 3 + 2, none⟩) hg2).trans (HQ.out k2 hlt2)
            have hxb := HPA.out k2 hlt2
            by_cases hik : idx ≤ k2
            · rw [HP2.out k2 hlt2 hik] at q2
              generalize pT T k2 = x at *
              go_wp2_with fail
              go_round
              case rel => exact ⟨k2 + 1, by omega, by go_num⟩
              case measure => simp [intOf]; omega
            · rw [HP1.out k2 hlt2 (by omega)] at q2
              generalize pT T k2 = x at *
              go_wp2_with fail
              go_round
              case rel => exact ⟨k2 + 1, by omega, by go_num⟩
              case measure => simp [intOf]; omega
          · have hb6 := Lib.hid hb5
            clear hb5
            go_wp2_with fail
            refine (at_awake hb6.out).mono ?_
            rintro e w4 ⟨rfl, hb7⟩
            go_wp2_with fail
            go_ret
            exact ⟨rfl, hb7⟩

end Go.Proofs.Ytcedigkknjioeaa
