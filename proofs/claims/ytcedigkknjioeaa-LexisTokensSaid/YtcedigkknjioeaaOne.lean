/- What the reference's function for one token returns, by the kind of what stands there. Conditions: the place lies in the source. -/
import Derived.Test.YtcedigkknjioeaaOneB
import Derived.Test.YtcedigkknjioeaaOneC
import Derived.Test.YtcedigkknjioeaaOneE
import Derived.Test.YtcedigkknjioeaaOneN
namespace Go.Proofs.Ytcedigkknjioeaa
open Go.RowKit Go.WideMaps Go.Maps

/-- what the function returns for a token's text and kind (0: none) -/
def OneQ (w : World) (k : Int) (l : List UInt8) (a : Nat) (e : Ending) (w' : World) : Prop :=
  Below w.heap.size w w' ∧ (k ≠ 0 → e = .returned (.tuple #[.agg #[.int .i64 k, .string ⟨l.toArray⟩, .int .i64 a], .bool true])) ∧
    (k = 0 → ∃ (k' : Int) (x' : ByteArray), e = .returned (.tuple #[.agg #[.int .i64 k', .string x', .int .i64 a], .bool false]))

theorem oneQ_of {w : World} {k k' : Int} {l : List UInt8} {x : ByteArray} {a : Nat} {ok : Bool} {e : Ending} {w' : World} (h : OneP w k' x a ok e w') (h1 : ok = true → k' = k ∧ x = ⟨l.toArray⟩ ∧ k ≠ 0) (h2 : ok = false → k = 0) : OneQ w k l a e w' := by
  obtain ⟨he, hb⟩ := h
  subst he
  cases ok with
  | true =>
    obtain ⟨e1, e2, e3⟩ := h1 rfl
    subst e1 e2
    exact ⟨hb, fun _ => rfl, fun h => absurd h e3⟩
  | false =>
    have e := h2 rfl
    subst e
    exact ⟨hb, fun h => absurd rfl h, fun _ => ⟨_, _, rfl⟩⟩

theorem drop_cons (s : ByteArray) (a : Nat) (h : a < s.size) : s.data.toList.drop a = (s[a]'h) :: s.data.toList.drop (a + 1) := by
  have hl : a < s.data.toList.length := by rw [Lx.size_list]; exact h
  rw [List.drop_eq_getElem_cons hl, get_list s a h]

theorem st_pos (t : Int) (b : UInt8) (r : List UInt8) (h : Lx.hasT t b = true) : ∃ m, Lx.st t (b :: r) = m + 1 := by
  unfold Lx.st Lx.run
  rw [List.takeWhile_cons_of_pos h]
  exact ⟨_, rfl⟩

theorem one_any (s : ByteArray) (a : Nat) (w : World) (hs : s.size ≤ maxLen) (ha : a < s.size) :
    Calls Try.prog 33 #[.string s, .int .i64 a] w (OneQ w (Lx.kind ((s.data.toList.drop a).take (Lx.tlen (s.data.toList.drop a)))) ((s.data.toList.drop a).take (Lx.tlen (s.data.toList.drop a))) a) := by
  have hd := drop_cons s a ha
  have e1 : s.extract a (a + 1) = ⟨[s[a]'ha].toArray⟩ := by
    rw [Lx.ext_mk, hd, show a + 1 - a = 1 from by omega]
    rfl
  have en : ∀ n, s.extract a (a + n) = ⟨((s.data.toList.drop a).take n).toArray⟩ := fun n => by
    rw [Lx.ext_mk, Nat.add_sub_cancel_left]
  cases hop : Lx.opB (s[a]'ha) with
  | true =>
    obtain ⟨n1, n2, n3, n4, n5⟩ := Lx.op_no _ hop
    have ht : Lx.tlen (s.data.toList.drop a) = Lx.st 8 (s.data.toList.drop a) := by
      rw [hd, Lx.tlen_ne _ _ n5, if_neg (by simp [n1]), if_pos hop]
    obtain ⟨m, hm⟩ := st_pos 8 (s[a]'ha) (s.data.toList.drop (a + 1)) hop
    rw [← hd] at hm
    have hx : (s.data.toList.drop a).take (Lx.st 8 (s.data.toList.drop a)) = (s[a]'ha) :: (s.data.toList.drop (a + 1)).take m := by
      rw [hm, hd]; rfl
    have hk := Lx.kind_op (y := (s.data.toList.drop (a + 1)).take m) hop
    rw [← hx] at hk
    rw [ht]
    have hdat : (s.extract a (a + Lx.st 8 (s.data.toList.drop a))).data.toList = (s.data.toList.drop a).take (Lx.st 8 (s.data.toList.drop a)) := by rw [en]
    cases hrs : hasL Lx.runSigns ((s.data.toList.drop a).take (Lx.st 8 (s.data.toList.drop a))) with
    | true =>
      rw [hrs, if_pos rfl] at hk
      rw [hk]
      exact (one_run s a w hs ha hop _ rfl (by rw [hdat]; exact hrs)).mono fun e w' h => oneQ_of h (fun _ => ⟨rfl, en _, by decide⟩) (fun h => by cases h)
    | false =>
      rw [hrs, if_neg (by simp)] at hk
      have := one_op s a w hs ha hop _ rfl (by rw [hdat]; exact hrs)
      rw [hdat] at this
      refine this.mono fun e w' h => oneQ_of h (fun h1 => ?_) (fun h1 => ?_)
      · rw [hk, if_pos h1]; exact ⟨rfl, en _, by decide⟩
      · rw [hk, if_neg (by simp [h1])]
  | false =>
    cases hnm : Lx.nmB (s[a]'ha) with
    | true =>
      by_cases h39 : s[a]'ha = 39
      · have ht : Lx.tlen (s.data.toList.drop a) = if h : a + 1 < s.size then (if Lx.upB (s[a + 1]'h) then 1 else 0) else 0 := by
          rw [hd, h39]
          by_cases h : a + 1 < s.size
          · rw [dif_pos h, drop_cons s (a + 1) h]
            simp [Lx.tlen]
          · rw [dif_neg h, List.drop_of_length_le (by rw [Lx.size_list]; omega)]
            simp [Lx.tlen]
        by_cases h : a + 1 < s.size
        · rw [dif_pos h] at ht
          cases hu : Lx.upB (s[a + 1]'h) with
          | true =>
            rw [hu, if_pos rfl] at ht
            have hx : (s.data.toList.drop a).take (Lx.tlen (s.data.toList.drop a)) = [39] := by rw [ht, hd, h39]; rfl
            rw [hx, Lx.kind_quote]
            exact (one_quote1 s a w hs ha h39 h hu).mono fun e w' q => oneQ_of q (fun _ => ⟨rfl, by rw [e1, h39], by decide⟩) (fun h => by cases h)
          | false =>
            rw [hu, if_neg (by simp)] at ht
            have hx : (s.data.toList.drop a).take (Lx.tlen (s.data.toList.drop a)) = [] := by rw [ht]; rfl
            rw [hx, Lx.kind_nil]
            exact (one_quote2 s a w hs ha h39 h hu).mono fun e w' q => oneQ_of q (fun h => by cases h) (fun _ => rfl)
        · rw [dif_neg h] at ht
          have hx : (s.data.toList.drop a).take (Lx.tlen (s.data.toList.drop a)) = [] := by rw [ht]; rfl
          rw [hx, Lx.kind_nil]
          exact (one_quote3 s a w hs ha h39 h).mono fun e w' q => oneQ_of q (fun h => by cases h) (fun _ => rfl)
      · have ht : Lx.tlen (s.data.toList.drop a) = Lx.st 4 (s.data.toList.drop a) := by
          rw [hd, Lx.tlen_ne _ _ h39, if_pos hnm]
        obtain ⟨m, hm⟩ := st_pos 4 (s[a]'ha) (s.data.toList.drop (a + 1)) hnm
        rw [← hd] at hm
        have hx : (s.data.toList.drop a).take (Lx.st 4 (s.data.toList.drop a)) = (s[a]'ha) :: (s.data.toList.drop (a + 1)).take m := by
          rw [hm, hd]; rfl
        by_cases h95 : s[a]'ha = 95
        · by_cases h1 : Lx.st 4 (s.data.toList.drop a) = 1
          · rw [ht]
            have hx1 : (s.data.toList.drop a).take (Lx.st 4 (s.data.toList.drop a)) = [95] := by rw [h1, hd, h95]; rfl
            rw [hx1, Lx.kind_us1]
            exact (one_us1 s a w hs ha h95 h1).mono fun e w' q => oneQ_of q (fun _ => ⟨rfl, by rw [e1, h95], by decide⟩) (fun h => by cases h)
          · rw [ht]
            have hle := Lx.st_le 4 (s.data.toList.drop a)
            have hk : Lx.kind ((s.data.toList.drop a).take (Lx.st 4 (s.data.toList.drop a))) = 0 := by
              rw [hx, h95]
              refine Lx.kind_us fun h => ?_
              have h2 := congrArg List.length h
              have h3 := congrArg List.length hd
              rw [List.length_take] at h2
              simp only [List.length_cons, List.length_nil] at h2 h3
              omega
            rw [hk]
            exact (one_us0 s a w hs ha h95 h1).mono fun e w' q => oneQ_of q (fun h => by cases h) (fun _ => rfl)
        · rw [ht]
          have hk := Lx.kind_name (y := (s.data.toList.drop (a + 1)).take m) hnm h95 h39
          rw [← hx] at hk
          rw [hk]
          have hdat : (s.extract a (a + Lx.st 4 (s.data.toList.drop a))).data.toList = (s.data.toList.drop a).take (Lx.st 4 (s.data.toList.drop a)) := by rw [en]
          refine (one_name s a w hs ha hop hnm h95 h39 _ rfl).mono fun e w' q => ?_
          obtain ⟨he, hb⟩ := q
          rw [hdat] at he
          refine oneQ_of (ok := decide (nameK ((s.data.toList.drop a).take (Lx.st 4 (s.data.toList.drop a))) ≠ 0)) ⟨he, hb⟩ (fun h => ?_) (fun h => ?_)
          · have h0 := of_decide_eq_true h
            exact ⟨if_neg h0, en _, h0⟩
          · have h0 := of_decide_eq_false h
            exact Classical.not_not.mp h0
    | false =>
      have h39 : s[a]'ha ≠ 39 := fun h => by rw [h] at hnm; revert hnm; decide
      have ht : Lx.tlen (s.data.toList.drop a) = 1 := by
        rw [hd, Lx.tlen_ne _ _ h39, if_neg (by simp [hnm]), if_neg (by simp [hop])]
      have hx : (s.data.toList.drop a).take 1 = [s[a]'ha] := by rw [hd]; rfl
      have hk := Lx.kind_byte (s[a]'ha) hnm hop
      rw [ht, hx]
      have q := one_other s a w hs ha hop hnm
      rw [hx] at q
      refine q.mono fun e w' q => oneQ_of q (fun h => ?_) (fun h => ?_)
      · rw [hk, if_pos h]; exact ⟨rfl, e1, by decide⟩
      · rw [hk, if_neg (by simp [h])]

theorem one_ok (s : ByteArray) (a : Nat) (w : World) (hs : s.size ≤ maxLen) (ha : a < s.size) (k : Int) (l : List UInt8) (hl : (s.data.toList.drop a).take (Lx.tlen (s.data.toList.drop a)) = l) (hk : Lx.kind l = k) (h0 : k ≠ 0) :
    Calls Try.prog 33 #[.string s, .int .i64 a] w fun e w' => e = .returned (.tuple #[.agg #[.int .i64 k, .string ⟨l.toArray⟩, .int .i64 a], .bool true]) ∧ Below w.heap.size w w' := by
  subst hl hk
  exact (one_any s a w hs ha).mono fun e w' ⟨hb, h, _⟩ => ⟨h h0, hb⟩
theorem one_bad (s : ByteArray) (a : Nat) (w : World) (hs : s.size ≤ maxLen) (ha : a < s.size) (l : List UInt8) (hl : (s.data.toList.drop a).take (Lx.tlen (s.data.toList.drop a)) = l) (hk : Lx.kind l = 0) :
    Calls Try.prog 33 #[.string s, .int .i64 a] w fun e w' => ∃ (k' : Int) (x' : ByteArray), e = .returned (.tuple #[.agg #[.int .i64 k', .string x', .int .i64 a], .bool false]) ∧ Below w.heap.size w w' := by
  subst hl
  exact (one_any s a w hs ha).mono fun e w' ⟨hb, _, h⟩ => by
    obtain ⟨k', x', h'⟩ := h hk
    exact ⟨k', x', h', hb⟩

end Go.Proofs.Ytcedigkknjioeaa
