/- Plain laws: the kind of a token, found by its first byte, as the reference finds it. Conditions: none. -/
import Derived.Test.YtcedigkknjioeaaRefN
namespace Go.Proofs.Ytcedigkknjioeaa
open Go.RowKit Go.WideMaps Go.Maps

def nameK (l : List UInt8) : Int := if smallL l then 1 else if Lx.isCap l then 2 else if hasL Lx.words l then 6 else if Lx.isNum l then 4 else 0

namespace Lx
theorem hasT_all (p : UInt8 → Bool) (h : ∀ n, n < 256 → p (UInt8.ofNat n) = true) (b : UInt8) : p b = true := by
  have := h b.toNat b.toNat_lt
  simpa using this
theorem op_no (b : UInt8) (h : opB b = true) : nmB b = false ∧ leB b = false ∧ dgB b = false ∧ upB b = false ∧ b ≠ 39 := by
  have := hasT_all (fun b => !opB b || (!nmB b && !leB b && !dgB b && !upB b && !decide (b = 39))) (by decide +kernel) b
  simp [h] at this
  simp [this]
theorem nm_no (b : UInt8) (h : nmB b = true) : opB b = false := by
  have := hasT_all (fun b => !nmB b || !opB b) (by decide +kernel) b
  simpa [h] using this
theorem word_head : ∀ x, words.contains x = true → ∃ b y, x = b :: y ∧ leB b = true := by
  intro x hx
  have h : ∀ x ∈ words, ∃ b y, x = b :: y ∧ leB b = true := by
    intro x hx
    simp only [words, List.mem_cons, List.not_mem_nil, or_false] at hx
    rcases hx with rfl | rfl | rfl | rfl | rfl | rfl | rfl | rfl | rfl | rfl | rfl | rfl | rfl | rfl | rfl | rfl | rfl | rfl | rfl | rfl | rfl <;> exact ⟨_, _, rfl, by decide⟩
  exact h x (by simpa using hx)
theorem run_head : ∀ x, runSigns.contains x = true → ∃ b y, x = b :: y ∧ opB b = true := by
  intro x hx
  have h : ∀ x ∈ runSigns, ∃ b y, x = b :: y ∧ opB b = true := by
    intro x hx
    simp only [runSigns, List.mem_cons, List.not_mem_nil, or_false] at hx
    rcases hx with rfl | rfl | rfl | rfl | rfl | rfl | rfl | rfl | rfl | rfl | rfl <;> exact ⟨_, _, rfl, by decide⟩
  exact h x (by simpa using hx)
theorem byte_head : ∀ x, byteSigns.contains x = true → ∃ b, x = [b] ∧ opB b = false ∧ (nmB b = false ∨ b = 95 ∨ b = 39) := by
  intro x hx
  have h : ∀ x ∈ byteSigns, ∃ b, x = [b] ∧ opB b = false ∧ (nmB b = false ∨ b = 95 ∨ b = 39) := by
    intro x hx
    simp only [byteSigns, List.mem_cons, List.not_mem_nil, or_false] at hx
    rcases hx with rfl | rfl | rfl | rfl | rfl | rfl | rfl | rfl <;> exact ⟨_, rfl, by decide, by decide⟩
  exact h x (by simpa using hx)
theorem word_cap : ∀ x, words.contains x = true → isCap x = false := by
  intro x hx
  have h : ∀ x ∈ words, isCap x = false := by decide
  exact h x (by simpa using hx)
theorem no_word {b : UInt8} {y : List UInt8} (h : leB b = false) : words.contains (b :: y) = false := by
  cases hc : words.contains (b :: y) with
  | false => rfl
  | true =>
    obtain ⟨b', y', e, h'⟩ := word_head _ hc
    injection e with e1 e2
    rw [e1, h'] at h
    cases h
theorem no_run {b : UInt8} {y : List UInt8} (h : opB b = false) : runSigns.contains (b :: y) = false := by
  cases hc : runSigns.contains (b :: y) with
  | false => rfl
  | true =>
    obtain ⟨b', y', e, h'⟩ := run_head _ hc
    injection e with e1 e2
    rw [e1, h'] at h
    cases h
theorem no_nm {b : UInt8} {y : List UInt8} (h : leB b = false) : isNm (b :: y) = false := by simp [isNm, h]
theorem no_cap {b : UInt8} {y : List UInt8} (h : leB b = false) : isCap (b :: y) = false := by simp [isCap, no_nm h]
theorem no_num {b : UInt8} {y : List UInt8} (h : dgB b = false) : isNum (b :: y) = false := by simp [isNum, h]
theorem no_op {b : UInt8} {y : List UInt8} (h : opB b = false) : isOpL (b :: y) = false := by
  have e : st 8 (b :: y) = 0 := by
    unfold st run
    rw [List.takeWhile_cons_of_neg (by show ¬ (opB b = true); simp [h])]
    rfl
  simp [isOpL, e]
theorem cap_nm {x : List UInt8} (h : isCap x = true) : isNm x = true := by
  cases x with
  | nil => cases h
  | cons b y => simp [isCap] at h; exact h.1

theorem kind_op {b : UInt8} {y : List UInt8} (h : opB b = true) : kind (b :: y) = if hasL runSigns (b :: y) then 5 else if isOpL (b :: y) then 3 else 0 := by
  obtain ⟨h1, h2, h3, h4, h5⟩ := op_no b h
  have hb : byteSigns.contains (b :: y) = false := by
    cases hc : byteSigns.contains (b :: y) with
    | false => rfl
    | true =>
      obtain ⟨b', e, h', _⟩ := byte_head _ hc
      injection e with e1 e2
      rw [e1, h'] at h
      cases h
  unfold kind hasL isSg
  rw [no_word h2, no_cap h2, no_nm h2, no_num h3, hb]
  simp

theorem kind_us1 : kind [95] = 5 := by decide
theorem kind_us {y : List UInt8} (hy : y ≠ []) : kind (95 :: y) = 0 := by
  have hb : byteSigns.contains (95 :: y) = false := by
    cases hc : byteSigns.contains (95 :: y) with
    | false => rfl
    | true =>
      obtain ⟨b', e, h', _⟩ := byte_head _ hc
      injection e with e1 e2
      exact absurd e2 hy
  unfold kind isSg
  rw [no_word (by decide), no_cap (by decide), no_nm (by decide), no_num (by decide), hb, no_run (by decide), no_op (by decide)]
  simp
theorem kind_quote : kind [39] = 5 := by decide

theorem kind_name {b : UInt8} {y : List UInt8} (h : nmB b = true) (h1 : b ≠ 95) (h2 : b ≠ 39) : kind (b :: y) = nameK (b :: y) := by
  have ho := nm_no b h
  have hb : byteSigns.contains (b :: y) = false := by
    cases hc : byteSigns.contains (b :: y) with
    | false => rfl
    | true =>
      obtain ⟨b', e, _, h'⟩ := byte_head _ hc
      injection e with e1 e2
      subst e1
      rcases h' with h' | h' | h'
      · rw [h'] at h; cases h
      · exact absurd h' h1
      · exact absurd h' h2
  unfold kind nameK smallL hasL isSg
  rw [no_run ho, hb, no_op ho]
  cases hw : words.contains (b :: y) with
  | true => simp [word_cap _ hw]
  | false =>
    cases hcp : isCap (b :: y) with
    | true => simp
    | false =>
      cases hn : isNm (b :: y) <;> simp

theorem kind_byte (b : UInt8) (h1 : nmB b = false) (h2 : opB b = false) : kind [b] = if hasL byteSigns [b] then 5 else 0 := by
  have := hasT_all (fun b => nmB b || opB b || decide (kind [b] = if byteSigns.contains [b] then 5 else 0)) (by decide +kernel) b
  simpa [h1, h2, hasL] using this

end Lx
end Go.Proofs.Ytcedigkknjioeaa
