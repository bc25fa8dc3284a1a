/- What the reference's Tokens returns. Conditions: the source is no longer than a string can be. -/
import Derived.Test.YtcedigkknjioeaaOne
import Derived.Test.YtcedigkknjioeaaInserted
namespace Go.Proofs.Ytcedigkknjioeaa
open Go.RowKit Go.WideMaps Go.Maps

namespace Lx
theorem toksA_left {l : List UInt8} {a b : Nat} (h : left (l.drop a) false = left (l.drop b) false) : toksA l a = toksA l b :=
  toks_left _ _ _ _ _ h (by rw [List.length_drop]; omega) (by rw [List.length_drop]; omega)
theorem pre_run (l : List UInt8) : isPre (l.take (st 8 l)) = isPre l := by
  rw [Bool.eq_iff_iff, isPre_iff, isPre_iff]
  constructor
  · rintro ⟨r, hr⟩
    refine ⟨r ++ l.drop (st 8 l), ?_⟩
    conv => lhs; rw [← List.take_append_drop (st 8 l) l]
    rw [hr]
    rfl
  · rintro ⟨r, rfl⟩
    have e : st 8 (45 :: 45 :: r) = st 8 r + 2 := by
      unfold st run
      rw [List.takeWhile_cons_of_pos (by decide), List.takeWhile_cons_of_pos (by decide)]
      rfl
    rw [e]
    exact ⟨r.take (st 8 r), rfl⟩
theorem left_10 (r : List UInt8) : left (10 :: r) true = left (10 :: r) false := by
  rw [left_nl, left_sp (by decide)]
end Lx

theorem blank_step (s : ByteArray) (a : Nat) (h : a < s.size) (hb : Lx.spB (s[a]'h) = true) : Lx.toksA s.data.toList a = Lx.toksA s.data.toList (a + 1) := by
  refine Lx.toksA_left ?_
  rw [drop_cons s a h, Lx.left_sp hb]
theorem line_start (s : ByteArray) (a : Nat) (hp : Lx.isPre (s.data.toList.drop a) = true) : Lx.left (s.data.toList.drop a) false = Lx.left (s.data.toList.drop a) true := Lx.left_pre hp
theorem line_step (s : ByteArray) (k : Nat) (h : k < s.size) (hb : ¬ s[k]'h = 10) : Lx.left (s.data.toList.drop k) true = Lx.left (s.data.toList.drop (k + 1)) true := by
  rw [drop_cons s k h, Lx.left_in hb]
theorem line_end (s : ByteArray) (a k : Nat) (h : Lx.left (s.data.toList.drop a) false = Lx.left (s.data.toList.drop k) true) (he : k = s.size ∨ ∃ hk : k < s.size, s[k]'hk = 10) : Lx.toksA s.data.toList a = Lx.toksA s.data.toList k := by
  refine Lx.toksA_left ?_
  rw [h]
  rcases he with rfl | ⟨hk, h10⟩
  · rw [List.drop_of_length_le (by rw [Lx.size_list]; exact Nat.le_refl _)]; rfl
  · rw [drop_cons s k hk, h10]; exact Lx.left_10 _
theorem at1_here (s : ByteArray) (a : Nat) (h : a < s.size) (hb : Lx.spB (s[a]'h) = false) (hp : Lx.isPre (s.data.toList.drop a) = false) : Lx.at1 s.data.toList a = a := by
  refine Lx.at1_of (Nat.le_refl _) (by rw [Lx.size_list]; omega) ?_
  refine Lx.left_stop _ ?_ hp
  rw [drop_cons s a h]
  intro b e
  injection e with e
  rw [← e]
  exact hb

set_option maxHeartbeats 1000000 in
theorem rtokens_full (s : ByteArray) (w : World) (hs : s.size ≤ maxLen) (hbig : 12000 < s.size) :
    Calls Try.prog 10 #[.string s] w fun e w' => e = .returned (.tuple #[.slice none 0 0, .int .i64 0, .int .i64 5]) ∧ Below w.heap.size w w' := by
  unfold maxLen at hs
  go_enter Try.func10, Try.ntmps10
  go_wp2_with fail
  go_ret3
  exact ⟨rfl, Below.refl _ _⟩

/-- the loop's invariant -/
structure RL (w0 : World) (s : ByteArray) (a : Nat) (A : List Lx.Tok) (v : Value) (w : World) : Prop where
  le : a ≤ s.size
  own : w.ownsRow w0.heap.size 45 3 v A.length (Lx.tcells A)
  few : A.length ≤ a
  gone : Lx.toksA s.data.toList 0 = (A ++ (Lx.toksA s.data.toList a).1, (Lx.toksA s.data.toList a).2)
  below : Below w0.heap.size w0 w

theorem own_below {w w' : World} {b e size n : Nat} {v : Value} {xs : List Value} (h : w.ownsRow b e size v n xs) (hb : Below w.heap.size w w') : w'.ownsRow b e size v n xs :=
  h.kept (row := none) ⟨hb.os, hb.tape, hb.output, hb.size, fun j hj _ => hb.block j hj⟩ (by cases hv : v.ownBlock <;> simp)

set_option maxRecDepth 100000 in
set_option maxHeartbeats 4000000 in
theorem rtokens_any (s : ByteArray) (w : World) (hbig : s.size ≤ 12000) :
    Calls Try.prog 10 #[.string s] w (TokPost s w) := by
  have hs : s.size ≤ maxLen := by unfold maxLen; omega
  have hS := Lib.hid hs
  clear hs
  go_enter Try.func10, Try.ntmps10
  go_wp2_with fail
  go_loopw [5, 6] (fun v i wr => ∃ (a : Nat) (A : List Lx.Tok), i = .int .i64 a ∧ RL w s a A v wr) (fun _ i _ => s.size - (intOf i).toNat)
  case atStart => exact ⟨0, [], rfl, Nat.zero_le _, World.ownsRow_nil _ _ _ _, Nat.le_refl _, by simp, Below.refl _ _⟩
  case round =>
    obtain ⟨a, A, rfl, hrl⟩ := hrel
    have hle := hrl.le
    have hfew := hrl.few
    have hA2 : A.length ≤ 12000 := by omega
    have HL := Lib.hid hrl
    have hown := hrl.own
    clear hrl
    by_cases hlt : a < s.size
    · by_cases hb : Lx.spB (s[a]'hlt) = true
      · have hstep := Lib.hid (blank_step s a hlt hb)
        have HR : Hid (RL w s (a + 1) A _ _) := Lib.hid ⟨by omega, hown, by omega, by rw [← hstep.out]; exact HL.out.gone, HL.out.below⟩
        have h4 : (s[a]'hlt).toNat = 32 ∨ (s[a]'hlt).toNat = 9 ∨ (s[a]'hlt).toNat = 10 ∨ (s[a]'hlt).toNat = 13 := by
          have := Lx.hasT_all (fun b => !Lx.spB b || (decide (b.toNat = 32) || decide (b.toNat = 9) || decide (b.toNat = 10) || decide (b.toNat = 13))) (by decide +kernel) (s[a]'hlt)
          simpa [hb, or_assoc] using this
        clear hb
        rcases h4 with h4 | h4 | h4 | h4
        all_goals
          go_wp2_with fail
          go_roundw
          case rel => exact ⟨a + 1, A, by go_num, HR.out⟩
          case measure => simp [intOf]; omega
      · have hbf : Lx.spB (s[a]'hlt) = false := by simpa using hb
        have h4 : ¬ (s[a]'hlt).toNat = 32 ∧ ¬ (s[a]'hlt).toNat = 9 ∧ ¬ (s[a]'hlt).toNat = 10 ∧ ¬ (s[a]'hlt).toNat = 13 := by
          have := Lx.hasT_all (fun b => Lx.spB b || !(decide (b.toNat = 32) || decide (b.toNat = 9) || decide (b.toNat = 10) || decide (b.toNat = 13))) (by decide +kernel) (s[a]'hlt)
          simpa [hbf, and_assoc] using this
        obtain ⟨b1, b2, b3, b4⟩ := h4
        have q1 : (((s[a]'hlt).toNat : Int) == 32) = false := by simp; omega
        have q2 : (((s[a]'hlt).toNat : Int) == 9) = false := by simp; omega
        have q3 : (((s[a]'hlt).toNat : Int) == 10) = false := by simp; omega
        have q4 : (((s[a]'hlt).toNat : Int) == 13) = false := by simp; omega
        have HB3 := Lib.hid b3
        clear b1 b2 b3 b4
        obtain ⟨n, en⟩ : ∃ n, n = Lx.st 8 (s.data.toList.drop a) := ⟨_, rfl⟩
        have HRO : Hid (∀ w, Calls Try.prog 32 #[.string s, .int .i64 a, .bool true] w fun e w' => e = .returned (.int .i64 ((a + n : Nat) : Int)) ∧ Below w.heap.size w w') := Lib.hid (fun w => by rw [en]; exact runO s a w hS.out hle)
        have hns : a + n ≤ s.size := by
          have h := Lx.st_le 8 (s.data.toList.drop a)
          rw [← en, List.length_drop, Lx.size_list] at h
          omega
        have hxs : (s.extract a (a + n)).size ≤ maxLen := by rw [ByteArray.size_extract]; unfold maxLen; omega
        have hpr : Lx.isPre (s.extract a (a + n)).data.toList = Lx.isPre (s.data.toList.drop a) := by
          rw [Lx.ext_mk, Nat.add_sub_cancel_left, en]
          exact Lx.pre_run _
        cases hp : Lx.isPre (s.data.toList.drop a) with
        | true =>
          have HC : Hid (∀ w, Calls Try.prog 31 #[.string (s.extract a (a + n))] w fun e w' => e = .returned (.bool true) ∧ w = w') := Lib.hid (fun w => (rcomment _ w hxs).mono fun e w' ⟨h1, h2⟩ => ⟨by rw [h1, hpr, hp], h2⟩)
          have HP := Lib.hid (line_start s a hp)
          clear hb hbf hxs hpr hp en
          go_wp2_with fail
          refine (HRO.out _).mono ?_
          rintro e w2 ⟨rfl, hb2⟩
          go_wp2_with fail
          refine (HC.out _).mono ?_
          rintro e w3 ⟨rfl, rfl⟩
          have hown2 := own_below hown (hb2)
          have hbl2 := Lib.hid (HL.out.below.trans (hb2.mono HL.out.below.size))
          have HRL : ∀ k, a ≤ k → k ≤ s.size → Lx.left (s.data.toList.drop a) false = Lx.left (s.data.toList.drop k) true → (k = s.size ∨ ∃ hk : k < s.size, s[k]'hk = 10) → RL w s k A _ w2 := fun k h1 h2 h3 h4 =>
            ⟨h2, hown2, by omega, by rw [← line_end s a k h3 h4]; exact HL.out.gone, hbl2.out⟩
          have HRL2 := Lib.hid HRL
          clear HRL hb2
          go_wp2_with fail
          go_loop [6] (fun i => ∃ k : Nat, a ≤ k ∧ k ≤ s.size ∧ i = .int .i64 k ∧ Hid (Lx.left (s.data.toList.drop a) false = Lx.left (s.data.toList.drop k) true)) (fun i => s.size - (intOf i).toNat)
          case atStart => exact ⟨a, Nat.le_refl _, hle, rfl, HP⟩
          case round =>
            obtain ⟨k, hk1, hk2, rfl, hk3⟩ := hrel
            by_cases hlk : k < s.size
            · by_cases hb10 : s[k]'hlk = 10
              · have HR := Lib.hid (HRL2.out k hk1 hk2 hk3.out (Or.inr ⟨hlk, hb10⟩))
                have hak : a < k := by
                  rcases Nat.lt_or_ge a k with h | h
                  · exact h
                  · exfalso
                    have e : k = a := by omega
                    subst e
                    exact HB3.out (by rw [hb10]; rfl)
                have hq : (s[k]'hlk).toNat = 10 := by rw [hb10]; rfl
                clear hb10
                go_wp2_with fail
                go_roundw
                case rel => exact ⟨k, A, rfl, HR.out⟩
                case measure => simp [intOf]; omega
              · have e := Lib.hid (line_step s k hlk hb10)
                have hq : ¬ (s[k]'hlk).toNat = 10 := fun h => hb10 (by apply UInt8.toNat_inj.mp; rw [h]; rfl)
                clear hb10
                go_wp2_with fail
                go_round
                case rel => exact ⟨k + 1, by omega, by omega, by go_num, Lib.hid (hk3.out.trans e.out)⟩
                case measure => simp [intOf]; omega
            · have HR := Lib.hid (HRL2.out k hk1 hk2 hk3.out (Or.inl (by omega)))
              go_wp2_with fail
              go_roundw
              case rel => exact ⟨k, A, rfl, HR.out⟩
              case measure => simp [intOf]; omega
        | false =>
          have HC : Hid (∀ w, Calls Try.prog 31 #[.string (s.extract a (a + n))] w fun e w' => e = .returned (.bool false) ∧ w = w') := Lib.hid (fun w => (rcomment _ w hxs).mono fun e w' ⟨h1, h2⟩ => ⟨by rw [h1, hpr, hp], h2⟩)
          have hat := at1_here s a hlt hbf hp
          obtain ⟨l1, el1⟩ : ∃ l1, l1 = Lx.tok1 s.data.toList a := ⟨_, rfl⟩
          have el2 : (s.data.toList.drop a).take (Lx.tlen (s.data.toList.drop a)) = l1 := by rw [el1]; unfold Lx.tok1; rw [hat]
          have htl := Lx.tlen_le (s.data.toList.drop a)
          have hlen : l1.length = Lx.tlen (s.data.toList.drop a) := by rw [← el2, List.length_take]; omega
          rw [List.length_drop, Lx.size_list, ← hlen] at htl
          have hst := Lx.toksA_step s.data.toList a (by rw [Lx.size_list]; exact hle)
          rw [hat, ← hlen, ← el1, if_neg (by rw [Lx.size_list]; omega)] at hst
          by_cases hk0 : Lx.kind l1 = 0
          · have HO := Lib.hid (fun w => one_bad s a w hS.out hlt l1 el2 hk0)
            rw [if_pos hk0] at hst
            have HST := Lib.hid hst
            clear hb hbf hxs hpr hp en hat el1 el2 htl hlen hst hk0
            go_wp2_with fail
            refine (HRO.out _).mono ?_
            rintro e w2 ⟨rfl, hb2⟩
            go_wp2_with fail
            refine (HC.out _).mono ?_
            rintro e w3 ⟨rfl, rfl⟩
            go_wp2_with fail
            refine (HO.out _).mono ?_
            rintro e w3 ⟨k', x', rfl, hb3⟩
            have hbl2 := Lib.hid (HL.out.below.trans (hb2.mono HL.out.below.size))
            have hbl3 := Lib.hid (hbl2.out.trans (hb3.mono hbl2.out.size))
            clear hb2 hb3
            go_wp2_with fail
            go_ret3
            refine ⟨hbl3.out.alloc hbl3.out.size _, ?_⟩
            have hg := HL.out.gone
            rw [HST.out] at hg
            rw [hg]
            rfl
          · obtain ⟨kd, hkd⟩ : ∃ kd, kd = Lx.kind l1 := ⟨_, rfl⟩
            have HO := Lib.hid (fun w => one_ok s a w hS.out hlt kd l1 el2 hkd.symm (by rw [hkd]; exact hk0))
            rw [if_neg hk0, ← hkd] at hst
            have hpos := Lx.tlen_pos (l := s.data.toList.drop a) (by rw [el2]; exact hk0)
            rw [← hlen] at hpos
            have HST := Lib.hid hst
            have hbsz : (ByteArray.mk l1.toArray).size = l1.length := by simp [ByteArray.size]
            clear hb hbf hxs hpr hp en hat el1 el2 hlen hst hk0 hkd
            go_wp2_with fail
            refine (HRO.out _).mono ?_
            rintro e w2 ⟨rfl, hb2⟩
            go_wp2_with fail
            refine (HC.out _).mono ?_
            rintro e w3 ⟨rfl, rfl⟩
            go_wp2_with fail
            refine (HO.out _).mono ?_
            rintro e w3 ⟨rfl, hb3⟩
            have hbl2 := Lib.hid (HL.out.below.trans (hb2.mono HL.out.below.size))
            have hbl3 := Lib.hid (hbl2.out.trans (hb3.mono hbl2.out.size))
            have hown3 := ((own_below (own_below hown hb2) hb3)).alloc (.cells #[.int .i64 kd, .string ⟨l1.toArray⟩, .int .i64 a] 45)
            have hbs3 : w.heap.size ≤ (w3.alloc (.cells #[.int .i64 kd, .string ⟨l1.toArray⟩, .int .i64 a] 45)).heap.size := by have := hbl3.out.size; simp; omega
            have hrow := fun k hk => ((own_below (own_below hown hb2) hb3).lt k hk)
            have hbox : (w3.alloc (.cells #[.int .i64 kd, .string ⟨l1.toArray⟩, .int .i64 a] 45)).cell? ⟨w3.heap.size, 1, none⟩ = some (.string ⟨l1.toArray⟩) := by
              rw [cell_of_row (w3.alloc _) w3.heap.size 1 _ 45 (0, 0) (heap_alloc_new w3 _)]
              rfl
            have HBOX := Lib.hid hbox
            have HROW := Lib.hid hrow
            have hsz5 : (w3.alloc (.cells #[.int .i64 kd, .string ⟨l1.toArray⟩, .int .i64 a] 45)).heap.size = w3.heap.size + 1 := by simp
            have HSZ5 := Lib.hid hsz5
            clear hb2 hb3 hbox hrow hsz5
            go_wp2_with (at_builtin; refine wpList_tok rfl _ _ rfl _ _ A rfl hown3 hbs3 hA2 (kd, l1, a) _ _ _ (by rw [HSZ5.out]; rfl) rfl rfl rfl ?_; intro v4 w4 hown4 hgrow4; have hcell4 := (World.cell?_of_block (a := ⟨w3.heap.size, 1, none⟩) (hgrow4.block w3.heap.size (by rw [HSZ5.out]; omega) (fun e => by have := (HROW.out _ e.symm).2; omega))).trans HBOX.out; have HO4 := Lib.hid hown4; have HG4 := Lib.hid hgrow4; clear hown4 hgrow4)
            have hb4 : Below w.heap.size w w4 := (hbl3.out.alloc hbl3.out.size _).grown HG4.out hbs3 (fun k hk => (HROW.out k hk).1)
            have HR : RL w s (a + l1.length) (A ++ [(kd, l1, a)]) v4 w4 :=
              ⟨by omega, HO4.out, by rw [List.length_append, List.length_singleton]; omega, by rw [HL.out.gone, HST.out, List.append_assoc]; rfl, hb4⟩
            have HR2 := Lib.hid HR
            clear HR hb4
            go_roundw
            case rel => exact ⟨_, _, by go_num, HR2.out⟩
            case measure => simp [intOf]; omega
    · have HST : Hid (Lx.toksA s.data.toList a = ([], none)) := Lib.hid (by
        have e : a = s.size := by omega
        rw [Lx.toksA_step _ _ (by rw [Lx.size_list]; exact hle), if_pos]
        have h1 := Lx.at1_le (l := s.data.toList) (a := a) (by rw [Lx.size_list]; exact hle)
        have h2 := Lx.at1_ge s.data.toList a
        rw [Lx.size_list] at h1 ⊢
        omega)
      have hbs := HL.out.below.size
      go_wp2_with (at_builtin; refine wpList_tok rfl _ _ rfl _ _ A rfl hown hbs hA2 (7, [], s.size) _ _ _ rfl rfl rfl rfl ?_; intro v3 w3 hown3 hgrow3)
      go_ret3
      refine ⟨HL.out.below.grown hgrow3 hbs (fun k hk => (hown.lt k hk).1), ?_⟩
      have hg := HL.out.gone
      rw [HST.out, List.append_nil] at hg
      rw [hg]
      exact ⟨v3, rfl, by simpa using hown3⟩

end Go.Proofs.Ytcedigkknjioeaa
