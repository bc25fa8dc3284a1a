/- Plain laws: the tokens of a source stand where they say; joined, they give the same tokens. Conditions: none. -/
import Derived.Test.YtcedigkknjioeaaInserted
import Derived.Test.YtcedigkknjioeaaOneK
namespace Go.Proofs.Ytcedigkknjioeaa
namespace Lx

/-- the tokens stand in the bytes, one after the other, from a place on -/
def Fits (l : List UInt8) : Nat → List Tok → Prop
  | _, [] => True
  | a, t :: A => a ≤ t.2.2 ∧ t.2.2 + t.2.1.length ≤ l.length ∧ (l.drop t.2.2).take t.2.1.length = t.2.1 ∧ t.1 = kind t.2.1 ∧ t.1 ≠ 0 ∧ 1 ≤ t.2.1.length ∧ Fits l (t.2.2 + t.2.1.length) A
/-- behind a quote comes a capital -/
def QF : List Tok → Prop
  | [] => True
  | t :: A => (t.2.1 = [39] → ∃ t2 A', A = t2 :: A' ∧ ∃ c r, t2.2.1 = c :: r ∧ upB c = true) ∧ QF A

theorem tok1_len (l : List UInt8) (a : Nat) : (tok1 l a).length = tlen (l.drop (at1 l a)) := by
  have h := tlen_le (l.drop (at1 l a))
  unfold tok1
  rw [List.length_take]
  omega

theorem fits_of : ∀ (A : List Tok) (l : List UInt8) (a : Nat), a ≤ l.length → toksA l a = (A, none) → Fits l a A
  | [], _, _, _, _ => trivial
  | t :: A, l, a, ha, h => by
    obtain ⟨_, h2, h3, h4⟩ := toksA_cons ha h
    have he := end_le ha
    have hp := tlen_pos h2
    rw [h3]
    have hl := tok1_len l a
    refine ⟨at1_ge l a, by show at1 l a + (tok1 l a).length ≤ _; rw [hl]; exact he, ?_, rfl, h2, by show 1 ≤ (tok1 l a).length; rw [hl]; exact hp, ?_⟩
    · show (l.drop (at1 l a)).take (tok1 l a).length = tok1 l a
      rw [hl]; rfl
    · show Fits l (at1 l a + (tok1 l a).length) A
      rw [hl]
      exact fits_of A l _ he h4

theorem up_not (c : UInt8) (h : upB c = true) : spB c = false ∧ c ≠ 45 := by
  have := hasT_all (fun c => !upB c || (!spB c && !decide (c = 45))) (by decide +kernel) c
  simpa [h] using this

theorem qf_of : ∀ (A : List Tok) (l : List UInt8) (a : Nat), a ≤ l.length → toksA l a = (A, none) → QF A
  | [], _, _, _, _ => trivial
  | t :: A, l, a, ha, h => by
    obtain ⟨h1, h2, h3, h4⟩ := toksA_cons ha h
    have he := end_le ha
    refine ⟨fun h39 => ?_, qf_of A l _ he h4⟩
    obtain ⟨q, hq⟩ : ∃ q, q = at1 l a := ⟨_, rfl⟩
    rw [h3] at h39
    have hx : (l.drop q).take (tlen (l.drop q)) = [39] := by rw [hq]; exact h39
    rw [← hq] at h4 he
    cases hd : l.drop q with
    | nil => rw [hd] at hx; cases hx
    | cons b r =>
      rw [hd] at hx h4
      have hb : b = 39 := by
        cases htl : tlen (b :: r) with
        | zero => rw [htl] at hx; cases hx
        | succ m => rw [htl, List.take_succ_cons] at hx; injection hx
      subst hb
      cases r with
      | nil => exact absurd hx (by decide)
      | cons c r =>
        cases hu : upB c with
        | false =>
          have : tlen (39 :: c :: r) = 0 := by simp [tlen, hu]
          rw [this] at hx; cases hx
        | true =>
          have htl : tlen (39 :: c :: r) = 1 := by simp [tlen, hu]
          rw [htl] at h4
          have hd1 : l.drop (q + 1) = c :: r := by rw [← List.drop_drop, hd]; rfl
          have hlt : q + 1 < l.length := by
            have := congrArg List.length hd1
            rw [List.length_drop] at this
            simp at this
            omega
          obtain ⟨u1, u2⟩ := up_not c hu
          have hat : at1 l (q + 1) = q + 1 := by
            refine at1_of (Nat.le_refl _) (by omega) ?_
            rw [hd1]
            show (if spB c = true then left r false else if c = 45 ∧ r.head? = some 45 then left r true else c :: r) = _
            rw [if_neg (by simp [u1]), if_neg (fun h => u2 h.1)]
          cases A with
          | nil =>
            have := at1_next (by omega) h4
            rw [hat] at this
            exact absurd this (by show ¬ q + 1 = l.length; omega)
          | cons t2 A' =>
            obtain ⟨k1, k2, k3, _⟩ := toksA_cons (by omega) h4
            refine ⟨t2, A', rfl, ?_⟩
            have hp := tlen_pos k2
            rw [k3]
            show ∃ c r, tok1 l (q + 1) = c :: r ∧ upB c = true
            unfold tok1
            rw [hat, hd1] at hp ⊢
            cases htl2 : tlen (c :: r) with
            | zero => rw [htl2] at hp; omega
            | succ m => exact ⟨c, r.take m, rfl, hu⟩

/-- what is joined -/
def jl : Bool → List Tok → List UInt8
  | _, [] => []
  | b, t :: A => (if b then [32] else []) ++ t.2.1 ++ jl (!decide (t.2.1 = [39])) A

theorem st_app (t : Int) (h32 : hasT t 32 = false) (rest : List UInt8) (hr : rest = [] ∨ ∃ r, rest = 32 :: r) : ∀ x : List UInt8, x.all (hasT t) = true → st t (x ++ rest) = x.length
  | [], _ => by
    rcases hr with rfl | ⟨r, rfl⟩
    · rfl
    · show ((32 :: r).takeWhile (hasT t)).length = 0
      rw [List.takeWhile_cons_of_neg (by simp [h32])]
      rfl
  | b :: x, h => by
    have hb : hasT t b = true := by simp at h; exact h.1
    have ih := st_app t h32 rest hr x (by simp at h; simpa using h.2)
    unfold st run at ih ⊢
    rw [List.cons_append, List.takeWhile_cons_of_pos hb, List.length_cons, ih]
    rfl

/-- the text of a token: all name bytes, or all operator bytes, or one other byte -/
theorem text_kinds (x : List UInt8) (h : kind x ≠ 0) : (∃ b y, x = b :: y ∧ x.all nmB = true ∧ b ≠ 39) ∨ (∃ b y, x = b :: y ∧ x.all opB = true ∧ isPre x = false) ∨ (∃ b, x = [b] ∧ opB b = false ∧ nmB b = false ∧ spB b = false) ∨ x = [39] := by
  have hle : ∀ b, leB b = true → b ≠ 39 := fun b h e => by subst e; revert h; decide
  have hnm : isNm x = true → ∃ b y, x = b :: y ∧ x.all nmB = true ∧ b ≠ 39 := fun h => by
    cases x with
    | nil => cases h
    | cons b y =>
      simp only [isNm, Bool.and_eq_true, decide_eq_true_eq] at h
      refine ⟨b, y, rfl, ?_, hle b h.1.2⟩
      have := st_all 4 (b :: y)
      rw [decide_eq_true h.2] at this
      exact this.symm
  unfold kind at h
  split at h
  · rename_i hw
    have h1 : ∀ x ∈ words, x.all nmB = true := by decide
    obtain ⟨b, y, e, hb⟩ := word_head x hw
    exact .inl ⟨b, y, e, h1 x (by simpa using hw), hle b hb⟩
  · split at h
    · rename_i hc
      exact .inl (hnm (cap_nm hc))
    · split at h
      · rename_i hn
        exact .inl (hnm hn)
      · split at h
        · rename_i hn
          simp only [isNum, Bool.and_eq_true] at hn
          have hall := hn.1.1.1.1
          cases x with
          | nil => simp at hn
          | cons b y =>
            have hdg : ∀ b, dgB b = true → nmB b = true ∧ b ≠ 39 := fun b hb => by
              have := hasT_all (fun b => !dgB b || (nmB b && !decide (b = 39))) (by decide +kernel) b
              simpa [hb] using this
            refine .inl ⟨b, y, rfl, ?_, (hdg b (by simp at hall; exact hall.1)).2⟩
            rw [List.all_eq_true] at hall ⊢
            exact fun c hc => (hdg c (hall c hc)).1
        · split at h
          · rename_i hs
            simp only [isSg, Bool.or_eq_true] at hs
            rcases hs with hs | hs
            · have h1 : ∀ x ∈ runSigns, x.all opB = true ∧ isPre x = false := by decide
              obtain ⟨b, y, e, _⟩ := run_head x hs
              exact .inr (.inl ⟨b, y, e, h1 x (by simpa using hs)⟩)
            · obtain ⟨b, e, h1, h2⟩ := byte_head x hs
              rcases h2 with h2 | rfl | rfl
              · refine .inr (.inr (.inl ⟨b, e, h1, h2, ?_⟩))
                have h3 : ∀ x ∈ byteSigns, ∀ b, x = [b] → spB b = false := by
                  intro x hx
                  simp only [byteSigns, List.mem_cons, List.not_mem_nil, or_false] at hx
                  rcases hx with rfl | rfl | rfl | rfl | rfl | rfl | rfl | rfl <;> (intro b e; injection e with e _; subst e; decide)
                exact h3 x (by simpa using hs) b e
              · exact .inl ⟨95, [], e, by rw [e]; decide, by decide⟩
              · exact .inr (.inr (.inr e))
          · split at h
            · rename_i ho
              simp only [isOpL, Bool.and_eq_true, decide_eq_true_eq, Bool.not_eq_true'] at ho
              cases x with
              | nil => simp at ho
              | cons b y =>
                refine .inr (.inl ⟨b, y, rfl, ?_, ho.1.2⟩)
                have := st_all 8 (b :: y)
                rw [decide_eq_true ho.1.1.2] at this
                exact this.symm
            · exact absurd rfl h

theorem nm_not (b : UInt8) (h : nmB b = true) : spB b = false ∧ b ≠ 45 := by
  have := hasT_all (fun c => !nmB c || (!spB c && !decide (c = 45))) (by decide +kernel) b
  simpa [h] using this
theorem op_not (b : UInt8) (h : opB b = true) : spB b = false := by
  have := hasT_all (fun c => !opB c || !spB c) (by decide +kernel) b
  simpa [h] using this

theorem left_none {b : UInt8} {y : List UInt8} (h1 : spB b = false) (h2 : ¬ (b = 45 ∧ y.head? = some 45)) : left (b :: y) false = b :: y := by
  show (if spB b = true then left y false else if b = 45 ∧ y.head? = some 45 then left y true else b :: y) = _
  rw [if_neg (by simp [h1]), if_neg h2]

/-- a token's text is found again -/
theorem text_self (x rest : List UInt8) (hk : kind x ≠ 0) (hr : x ≠ [39] → rest = [] ∨ ∃ r, rest = 32 :: r) (h39 : x = [39] → ∃ c r, rest = c :: r ∧ upB c = true) :
    tlen (x ++ rest) = x.length ∧ left (x ++ rest) false = x ++ rest := by
  by_cases hq : x = [39]
  · obtain ⟨c, r, rfl, hu⟩ := h39 hq
    subst hq
    refine ⟨by simp [tlen, hu], left_none (by decide) (fun h => absurd h.1 (by decide))⟩
  · have hr2 := hr hq
    clear hr
    rcases text_kinds x hk with ⟨b, y, rfl, hall, hb⟩ | ⟨b, y, rfl, hall, hpre⟩ | ⟨b, rfl, h1, h2, h3⟩ | rfl
    · have hnb : nmB b = true := by simp at hall; exact hall.1
      obtain ⟨u1, u2⟩ := nm_not b hnb
      refine ⟨?_, left_none u1 (fun h => u2 h.1)⟩
      rw [List.cons_append, tlen_ne _ _ hb, if_pos hnb, ← List.cons_append]
      exact st_app 4 (by decide) rest hr2 _ hall
    · have hob : opB b = true := by simp at hall; exact hall.1
      obtain ⟨n1, n2, n3, n4, n5⟩ := op_no b hob
      refine ⟨?_, left_none (op_not b hob) ?_⟩
      · rw [List.cons_append, tlen_ne _ _ n5, if_neg (by simp [n1]), if_pos hob, ← List.cons_append]
        exact st_app 8 (by decide) rest hr2 _ hall
      · rintro ⟨rfl, hh⟩
        cases y with
        | nil =>
          rcases hr2 with rfl | ⟨r, rfl⟩
          · cases hh
          · injection hh with hh; exact absurd hh (by decide)
        | cons c y =>
          injection hh with hh
          subst hh
          exact absurd hpre (by simp [isPre])
    · have hb39 : b ≠ 39 := fun e => hq (by rw [e])
      refine ⟨?_, left_none h3 ?_⟩
      · rw [List.cons_append, tlen_ne _ _ hb39, if_neg (by simp [h2]), if_neg (by simp [h1])]
        rfl
      · rintro ⟨rfl, _⟩
        exact absurd h1 (by decide)
    · exact absurd rfl hq

def strip (t : Tok) : Int × List UInt8 := (t.1, t.2.1)

theorem back_main : ∀ (A : List Tok) (b : Bool) (L f : Nat), (∀ t ∈ A, t.1 = kind t.2.1 ∧ t.1 ≠ 0) → QF A → (jl b A).length < f → ∃ A', toks L f (jl b A) = (A', none) ∧ A'.map strip = A.map strip
  | [], b, L, f, _, _, hf => by
    match f with
    | 0 => simp [jl] at hf
    | f + 1 => exact ⟨[], by unfold toks jl; simp [left], rfl⟩
  | t :: A, b, L, f, hA, hQ, hf => by
    match f with
    | 0 => exact absurd hf (Nat.not_lt_zero _)
    | f + 1 =>
      obtain ⟨hk1, hk2⟩ := hA t (by simp)
      obtain ⟨q1, q2⟩ := hQ
      obtain ⟨rest, hrest⟩ : ∃ rest, rest = jl (!decide (t.2.1 = [39])) A := ⟨_, rfl⟩
      have hjl : jl b (t :: A) = (if b then [32] else []) ++ t.2.1 ++ rest := by rw [hrest]; rfl
      have hkx : kind t.2.1 ≠ 0 := by rw [← hk1]; exact hk2
      obtain ⟨s1, s2⟩ := text_self t.2.1 rest hkx (fun hne => by
        rw [hrest, decide_eq_false hne]
        cases A with
        | nil => exact .inl rfl
        | cons t2 A' => exact .inr ⟨_, rfl⟩) (fun he => by
        obtain ⟨t2, A', rfl, c, r, hc, hu⟩ := q1 he
        rw [hrest, decide_eq_true he]
        exact ⟨c, r ++ jl (!decide (t2.2.1 = [39])) A', by show [] ++ t2.2.1 ++ _ = _; rw [hc]; rfl, hu⟩)
      have hleft : left (jl b (t :: A)) false = t.2.1 ++ rest := by
        rw [hjl]
        cases b with
        | true =>
          rw [show (if true = true then [(32 : UInt8)] else []) ++ t.2.1 ++ rest = 32 :: (t.2.1 ++ rest) from rfl, left_sp (by decide)]
          exact s2
        | false => exact s2
      have hne : t.2.1 ++ rest ≠ [] := fun e => by
        rw [e] at s1
        rcases List.append_eq_nil_iff.mp e with ⟨e1, _⟩
        rw [e1] at hkx
        exact hkx kind_nil
      have htk : (t.2.1 ++ rest).take (tlen (t.2.1 ++ rest)) = t.2.1 := by rw [s1]; simp
      have hdr : (t.2.1 ++ rest).drop (tlen (t.2.1 ++ rest)) = rest := by rw [s1]; simp
      have hlen : rest.length < f := by
        have h1 : 1 ≤ t.2.1.length := by
          cases hx : t.2.1 with
          | nil => rw [hx] at hkx; exact absurd kind_nil hkx
          | cons c r => simp
        rw [hjl] at hf
        simp only [List.length_append] at hf
        omega
      obtain ⟨A', h1, h2⟩ := back_main A (!decide (t.2.1 = [39])) L f (fun u hu => hA u (by simp [hu])) q2 (by rw [← hrest]; exact hlen)
      rw [← hrest] at h1
      refine ⟨(kind t.2.1, t.2.1, L - (t.2.1 ++ rest).length) :: A', ?_, ?_⟩
      · unfold toks
        simp only [hleft, htk, hdr, h1]
        rw [if_neg hne, if_neg hkx]
      · rw [List.map_cons, List.map_cons, h2]
        unfold strip
        rw [hk1]

end Lx
end Go.Proofs.Ytcedigkknjioeaa
