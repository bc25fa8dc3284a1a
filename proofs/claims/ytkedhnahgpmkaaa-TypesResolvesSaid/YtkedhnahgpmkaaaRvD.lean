/- Texts of the law TypesResolves, joined. -/
import Derived.Test.YtkedhnahgpmkaaaRvA
import Derived.Laws.EntriesVeiled

/- slices.IndexFunc and slices.ContainsFunc at ints with the closure that looks for a ring; slices.Max. Conditions: none. -/
namespace Go.Proofs.Ytkedhnahgpmkaaa
open Go.RowKit

namespace Ty
/-- what the closure says of a number: X holds at the end, or F does and J still holds -/
def ElP (J X : World → Prop) (F : Prop) (e : Ending) (w' : World) : Prop := (e = .returned (.bool true) ∧ X w') ∨ (e = .returned (.bool false) ∧ F ∧ J w')
def IxP (l : List Int) (J X : World → Prop) (F : Int → Prop) (e : Ending) (w' : World) : Prop := (∃ r : Int, e = .returned (.int .i64 r) ∧ 0 ≤ r ∧ X w') ∨ (e = .returned (.int .i64 (-1)) ∧ (∀ x ∈ l, F x) ∧ J w')
theorem all_take {F : Int → Prop} {l : List Int} {n : Nat} (h : ∀ k (h : k < l.length), k < n → F (l[k]'h)) (hn : l.length ≤ n) : ∀ x ∈ l, F x := fun x hx => by
  obtain ⟨i, hi, rfl⟩ := List.getElem_of_mem hx
  exact h i hi (by omega)

set_option maxHeartbeats 4000000 in
theorem index_ring {p1 p2 p3 p4 : Nat} (l : List Int) (base : Option Addr) (cap : Nat) (w : World) (J X : World → Prop) (F : Int → Prop) (hlen : l.length ≤ 100000) (hJ : J w) (hkeep : ∀ W, J W → ISl W base l)
    (H : ∀ W, J W → ∀ j (h : j < l.length), Calls Try.prog 129 #[.int .i64 (l[j]'h), .pointer (some ⟨p1, 0, none⟩), .pointer (some ⟨p2, 0, none⟩), .pointer (some ⟨p3, 0, none⟩), .pointer (some ⟨p4, 0, none⟩)] W (ElP J X (F (l[j]'h)))) :
    Calls Try.prog 134 #[.slice base l.length cap, .func (.func 129) #[] #[.pointer (some ⟨p1, 0, none⟩), .pointer (some ⟨p2, 0, none⟩), .pointer (some ⟨p3, 0, none⟩), .pointer (some ⟨p4, 0, none⟩)]] w (IxP l J X F) := by
  obtain ⟨n, hn⟩ : ∃ n, n = l.length := ⟨_, rfl⟩
  rw [← hn] at hlen ⊢
  have HN := Lib.hid hn
  have HJ := Lib.hid hJ
  have HK := Lib.hid hkeep
  have HH := Lib.hid H
  clear hn hJ hkeep H
  go_enter Try.func134, Try.ntmps134
  go_wp2_with fail
  go_loopw [8] (fun i wr => ∃ j : Nat, j ≤ n ∧ i = .int .i64 j ∧ Hid (J wr) ∧ Hid (∀ k (h : k < l.length), k < j → F (l[k]'h))) (fun i _ => n - (intOf i).toNat)
  case atStart => exact ⟨0, Nat.zero_le _, rfl, HJ, Lib.hid (fun k _ h => absurd h (Nat.not_lt_zero _))⟩
  case round =>
    obtain ⟨j, hj, rfl, HJ2, hall⟩ := hrel
    by_cases hlt : j < n
    · have h1 : j < l.length := by rw [← HN.out]; exact hlt
      have hsl := HK.out _ HJ2.out
      rcases hsl.2 with h0 | ⟨g, o, rfl, hrow⟩
      · exact absurd h0 (List.ne_nil_of_length_pos (by omega))
      have c0 := hrow j h1
      have HC := Lib.hid (HH.out _ HJ2.out j h1)
      have HT := Lib.hid (fun (h : F (l[j]'h1)) (k : Nat) (h2 : k < l.length) (h3 : k < j + 1) => show F (l[k]'h2) from by
        by_cases hkj : k = j
        · subst hkj; exact h
        · exact hall.out k h2 (by omega))
      obtain ⟨x, hx⟩ : ∃ x, x = l[j]'h1 := ⟨_, rfl⟩
      rw [← hx] at c0 HC HT
      clear hx hrow hsl
      go_wp2_with fail
      refine HC.out.mono ?_
      rintro e w2 (⟨rfl, hX⟩ | ⟨rfl, hF, hJ2⟩)
      · have HX := Lib.hid hX
        clear hX
        go_wp2_with fail
        go_ret
        exact .inl ⟨(j : Int), rfl, by omega, HX.out⟩
      · have HF := Lib.hid hF
        have HJ3 := Lib.hid hJ2
        clear hF hJ2
        go_wp2_with fail
        go_roundw
        case rel => exact ⟨j + 1, by omega, by go_num, HJ3, Lib.hid (HT.out HF.out)⟩
        case measure => simp [intOf]; omega
    · have HT : Hid (∀ x ∈ l, F x) := Lib.hid (all_take hall.out (by have := HN.out; omega))
      go_wp2_with fail
      go_ret
      exact .inr ⟨rfl, HT.out, HJ2.out⟩

def CtP (l : List Int) (J X : World → Prop) (F : Int → Prop) (e : Ending) (w' : World) : Prop := ElP J X (∀ x ∈ l, F x) e w'
set_option maxHeartbeats 4000000 in
theorem contains_ring {p1 p2 p3 p4 : Nat} (l : List Int) (base : Option Addr) (cap : Nat) (w : World) (J X : World → Prop) (F : Int → Prop) (hlen : l.length ≤ 100000) (hJ : J w) (hkeep : ∀ W, J W → ISl W base l)
    (H : ∀ W, J W → ∀ j (h : j < l.length), Calls Try.prog 129 #[.int .i64 (l[j]'h), .pointer (some ⟨p1, 0, none⟩), .pointer (some ⟨p2, 0, none⟩), .pointer (some ⟨p3, 0, none⟩), .pointer (some ⟨p4, 0, none⟩)] W (ElP J X (F (l[j]'h)))) :
    Calls Try.prog 130 #[.slice base l.length cap, .func (.func 129) #[] #[.pointer (some ⟨p1, 0, none⟩), .pointer (some ⟨p2, 0, none⟩), .pointer (some ⟨p3, 0, none⟩), .pointer (some ⟨p4, 0, none⟩)]] w (CtP l J X F) := by
  have HC := Lib.hid (index_ring (p1 := p1) (p2 := p2) (p3 := p3) (p4 := p4) l base cap w J X F hlen hJ hkeep H)
  clear hJ hkeep H
  generalize l.length = n at *
  go_enter Try.func130, Try.ntmps130
  go_wp2_with fail
  refine HC.out.mono ?_
  rintro e w2 (⟨r, rfl, hr, hX⟩ | ⟨rfl, hF, hJ⟩)
  · have HX := Lib.hid hX
    have hd : decide (0 ≤ r) = true := decide_eq_true hr
    clear hX hr
    go_wp2_with fail
    go_ret
    exact .inl ⟨rfl, HX.out⟩
  · have HF := Lib.hid hF
    have HJ := Lib.hid hJ
    clear hF hJ
    go_wp2_with fail
    go_ret
    exact .inr ⟨rfl, HF.out, HJ.out⟩

/-! slices.Max -/
def maxL (l : List Int) : Int := l.foldl max (l.headD 0)
theorem maxL_take {l : List Int} {j : Nat} (h : j < l.length) : (l.take (j + 1)).foldl max (l.headD 0) = max ((l.take j).foldl max (l.headD 0)) (l[j]'h) := by
  rw [List.take_succ_eq_append_getElem h, List.foldl_append]; rfl
theorem fold_max (x : Int) : ∀ (l : List Int) (m : Int), l.foldl max m < x ↔ m < x ∧ ∀ y ∈ l, y < x
  | [], m => by simp
  | a :: l, m => by
    rw [List.foldl_cons, fold_max x l (max m a)]
    constructor
    · rintro ⟨h1, h2⟩
      refine ⟨by omega, fun y hy => ?_⟩
      rcases List.mem_cons.mp hy with rfl | hy
      · omega
      · exact h2 y hy
    · rintro ⟨h1, h2⟩
      have := h2 a (by simp)
      exact ⟨by omega, fun y hy => h2 y (by simp [hy])⟩
theorem maxL_lt {l : List Int} (hne : l ≠ []) (x : Int) : maxL l < x ↔ ∀ y ∈ l, y < x := by
  unfold maxL
  rw [fold_max]
  cases l with
  | nil => exact absurd rfl hne
  | cons a l => simp
theorem max_fold_le (b : Int) : ∀ (l : List Int) (m : Int), -b ≤ m → (∀ y ∈ l, -b ≤ y ∧ y ≤ b) → m ≤ b → -b ≤ l.foldl max m ∧ l.foldl max m ≤ b
  | [], m, h1, _, h3 => ⟨h1, h3⟩
  | a :: l, m, h1, h2, h3 => by
    rw [List.foldl_cons]
    have := h2 a (by simp)
    exact max_fold_le b l (max m a) (by omega) (fun y hy => h2 y (by simp [hy])) (by omega)

set_option maxHeartbeats 4000000 in
theorem max_any (l : List Int) (base : Option Addr) (cap : Nat) (w : World) (hl : ISl w base l) (hne : l ≠ []) (hlen : l.length ≤ 100000) : Calls Try.prog 128 #[.slice base l.length cap] w fun e w' => e = .returned (.int .i64 (maxL l)) ∧ w = w' := by
  have hpos : 0 < l.length := List.length_pos_iff.mpr hne
  rcases hl.2 with h0 | ⟨g, o, rfl, hrow⟩
  · exact absurd h0 hne
  have c0 := hrow 0 hpos
  have HROW := Lib.hid hrow
  obtain ⟨x0, hx0⟩ : ∃ x0, x0 = l[0]'hpos := ⟨_, rfl⟩
  have HX0 : Hid (l.headD 0 = x0) := Lib.hid (by rw [hx0]; cases l with | nil => exact absurd rfl hne | cons a l => rfl)
  rw [← hx0, Nat.add_zero] at c0
  obtain ⟨n, hn⟩ : ∃ n, n = l.length := ⟨_, rfl⟩
  rw [← hn] at hlen hpos ⊢
  have HN := Lib.hid hn
  have hlt1 : decide ((n : Int) < 1) = false := decide_eq_false (by omega)
  have hlt2 : decide (n < 1) = false := decide_eq_false (by omega)
  have hx0' : Hid (l[0]'(by rw [← HN.out]; exact hpos) = x0) := Lib.hid hx0.symm
  clear hn hl hrow hx0 hne
  go_enter Try.func128, Try.ntmps128
  go_wp2_with fail
  go_loop [3, 4] (fun m i => ∃ j : Nat, 1 ≤ j ∧ j ≤ n ∧ i = .int .i64 j ∧ m = .int .i64 ((l.take j).foldl max (l.headD 0))) (fun _ i => n - (intOf i).toNat)
  case atStart =>
    refine ⟨1, Nat.le_refl _, hpos, rfl, ?_⟩
    rw [show (1 : Nat) = 0 + 1 from rfl, maxL_take (by rw [← HN.out]; exact hpos), HX0.out, hx0'.out]
    simp
  case round =>
    obtain ⟨j, hj1, hj, rfl, rfl⟩ := hrel
    by_cases hlt : j < n
    · have h1 : j < l.length := by rw [← HN.out]; exact hlt
      have c1 := HROW.out j h1
      have HM := Lib.hid (maxL_take h1)
      obtain ⟨m, hm⟩ : ∃ m, m = (l.take j).foldl max (l.headD 0) := ⟨_, rfl⟩
      obtain ⟨x, hx⟩ : ∃ x, x = l[j]'h1 := ⟨_, rfl⟩
      rw [← hm, ← hx] at HM
      rw [← hm]
      rw [← hx] at c1
      clear hm hx
      go_wp2_with fail
      go_round
      case rel => exact ⟨j + 1, by omega, by omega, by go_num, by rw [HM.out]⟩
      case measure => simp [intOf]; omega
    · have HM : Hid ((l.take j).foldl max (l.headD 0) = maxL l) := Lib.hid (by rw [List.take_of_length_le (by have := HN.out; omega)]; rfl)
      rw [HM.out]
      go_wp2_with fail
      go_ret
      exact ⟨rfl, rfl⟩

end Ty
end Go.Proofs.Ytkedhnahgpmkaaa

/- inRing: whether a metavariable needs itself, over any number of values. Conditions: the values of those that are solved are proper, and need none that there isn't. -/
namespace Go.Proofs.Ytkedhnahgpmkaaa
open Go.RowKit Go.Maps

namespace Ty
/-- what a metavariable needs -/
def adjM (M : List MC) (i : Nat) : List Nat := if h : i < M.length then (if (M[i]'h).sol = true then (colT 6 (M[i]'h).val).map Int.toNat else []) else []
theorem adjM_un {M : List MC} {i : Nat} (h : i < M.length) (hs : (M[i]'h).sol = false) : adjM M i = [] := by unfold adjM; rw [dif_pos h, if_neg (by rw [hs]; simp)]
theorem adjM_sol {M : List MC} {i : Nat} (h : i < M.length) (hs : (M[i]'h).sol = true) : adjM M i = (colT 6 (M[i]'h).val).map Int.toNat := by unfold adjM; rw [dif_pos h, if_pos hs]
theorem num_mem (op : Int) {t : Ty} (hg : Good t) : ∀ (k : Nat) (l : List Int), ∀ x ∈ wlk (numF op) t k l, x ∈ l ∨ (0 ≤ x ∧ x ≤ 9999) := by
  induction hg with
  | var o n h1 h2 h3 =>
    intro k l x hx
    rw [wlk_leaf] at hx
    unfold numF at hx
    split at hx
    · rcases List.mem_append.mp hx with h | h
      · exact .inl h
      · rw [List.mem_singleton.mp h]; exact .inr ⟨h2, h3⟩
    · exact .inl hx
  | con s h1 h2 =>
    intro k l x hx
    rw [wlk_leaf] at hx
    unfold numF at hx
    split at hx
    · rcases List.mem_append.mp hx with h | h
      · exact .inl h
      · rw [List.mem_singleton.mp h]; exact .inr ⟨Int.le_refl 0, by show (0 : Int) ≤ 9999; decide⟩
    · exact .inl hx
  | node o a b h ha hb iha ihb =>
    intro k l x hx
    rw [wlk_node] at hx
    rcases ihb _ _ x hx with h1 | h1
    · rcases iha _ _ x h1 with h2 | h2
      · unfold numF at h2
        split at h2
        · rcases List.mem_append.mp h2 with h3 | h3
          · exact .inl h3
          · rw [List.mem_singleton.mp h3]; exact .inr ⟨Int.le_refl 0, by show (0 : Int) ≤ 9999; decide⟩
        · exact .inl h2
      · exact .inr h2
    · exact .inr h1
theorem colT_range {t : Ty} (hg : Good t) : ∀ x ∈ colT 6 t, 0 ≤ x ∧ x ≤ 9999 := by
  intro x hx
  rw [← num_asc (op := 6) (by decide) hg, asc_mem] at hx
  rcases num_mem 6 hg 0 [] x hx with h | h
  · cases h
  · exact h
theorem colT_len {t : Ty} (hg : Good t) : (colT 6 t).length ≤ nodes t := by
  have := wlk_len (f := colF 6) (colF_len 6) hg 0 []
  simpa [colT] using this

/-- the values are proper, and need none that there isn't -/
def OkM (M : List MC) : Prop := ∀ x ∈ M, x.sol = true → isProper x.val = true ∧ ∀ y ∈ colT 6 x.val, y < (M.length : Int)

/-- the memory of the search -/
structure RgI (M : List MC) (base : Option Addr) (cap : Nat) (B1 B2 B3 B4 b1 b3 : Nat) (w0 : World) (W : World) (bg dn : List Nat) : Prop where
  old : Below w0.heap.size w0 W
  m1 : W.heap[B1]? = some (.cells #[.map (some b1)] 105 (0, 0))
  m2 : W.heap[B2]? = some (.cells #[.slice base M.length cap] 62 (0, 0))
  m3 : W.heap[B3]? = some (.cells #[.map (some b3)] 105 (0, 0))
  m4 : W.heap[B4]? = some (.cells #[.func (.func 129) #[] #[.pointer (some ⟨B1, 0, none⟩), .pointer (some ⟨B2, 0, none⟩), .pointer (some ⟨B3, 0, none⟩), .pointer (some ⟨B4, 0, none⟩)]] 39 (0, 0))
  o1 : W.ownsMap Try.prog 3 (plainElem Try.prog 4) b1 bg.length (nset bg)
  o3 : W.ownsMap Try.prog 3 (plainElem Try.prog 4) b3 dn.length (nset dn)
section
variable {M : List MC} {base : Option Addr} {cap B1 B2 B3 B4 b1 b3 hi : Nat} {w0 W W' : World} {bg dn : List Nat}
theorem own_obj {b n : Nat} {D : DataW Unit} (h : W.ownsMap Try.prog 3 (plainElem Try.prog 4) b n D) {c : Nat} {cs : Array Value} {t : TypeId} {z : Nat × Nat} (hc : W.heap[c]? = some (.cells cs t z)) : c ≠ b := by
  intro e
  obtain ⟨es, clock, hb, _⟩ := h
  rw [e, hb] at hc
  injection hc with hc
  cases hc
theorem RgI.next (h : RgI M base cap B1 B2 B3 B4 b1 b3 w0 W bg dn) (hb : Below W.heap.size W W') : RgI M base cap B1 B2 B3 B4 b1 b3 w0 W' bg dn :=
  ⟨h.old.trans (hb.mono h.old.size), (hb.block _ (lt_of_block h.m1)).trans h.m1, (hb.block _ (lt_of_block h.m2)).trans h.m2, (hb.block _ (lt_of_block h.m3)).trans h.m3, (hb.block _ (lt_of_block h.m4)).trans h.m4,
    h.o1.kept (row := none) (grown_of_below hb) (by simp), h.o3.kept (row := none) (grown_of_below hb) (by simp)⟩
theorem RgI.put1 (h : RgI M base cap B1 B2 B3 B4 b1 b3 w0 W bg dn) (hne : b1 ≠ b3) (hlo : w0.heap.size ≤ b1) {n : Nat} (ho : W'.ownsMap Try.prog 3 (plainElem Try.prog 4) b1 (bg.length + 1) ((nset bg).put (.int .i64 n) (.lit (.bool true)))) (hg : W.grownBy W' (some b1)) : RgI M base cap B1 B2 B3 B4 b1 b3 w0 W' (n :: bg) dn := by
  have ne : ∀ {c : Nat} {cs : Array Value} {t : TypeId} {z : Nat × Nat}, W.heap[c]? = some (.cells cs t z) → W'.heap[c]? = some (.cells cs t z) := fun {c cs t z} hc =>
    (hg.block c (lt_of_block hc) (fun e => own_obj h.o1 hc (by injection e))).trans hc
  exact ⟨h.old.grown hg h.old.size (fun j hj => by injection hj with hj; omega), ne h.m1, ne h.m2, ne h.m3, ne h.m4, by rw [nset_cons]; exact ho, h.o3.kept hg (by simpa using hne.symm)⟩
theorem RgI.put3 (h : RgI M base cap B1 B2 B3 B4 b1 b3 w0 W bg dn) (hne : b1 ≠ b3) (hlo : w0.heap.size ≤ b3) {n : Nat} (ho : W'.ownsMap Try.prog 3 (plainElem Try.prog 4) b3 (dn.length + 1) ((nset dn).put (.int .i64 n) (.lit (.bool true)))) (hg : W.grownBy W' (some b3)) : RgI M base cap B1 B2 B3 B4 b1 b3 w0 W' bg (n :: dn) := by
  have ne : ∀ {c : Nat} {cs : Array Value} {t : TypeId} {z : Nat × Nat}, W.heap[c]? = some (.cells cs t z) → W'.heap[c]? = some (.cells cs t z) := fun {c cs t z} hc =>
    (hg.block c (lt_of_block hc) (fun e => own_obj h.o3 hc (by injection e))).trans hc
  exact ⟨h.old.grown hg h.old.size (fun j hj => by injection hj with hj; omega), ne h.m1, ne h.m2, ne h.m3, ne h.m4, h.o1.kept hg (by simpa using hne), by rw [nset_cons]; exact ho⟩
end
/-- the cells of one of them, where the row is known -/
theorem Ms.cell {w : World} {g o : Nat} {M : List MC} (h : Ms w (some ⟨g, o, none⟩) M) {i : Nat} (hi : i < M.length) :
    w.cell? ⟨g, o + i * 10 + 5, none⟩ = some (.bool (M[i]'hi).sol) ∧
      (w.cell? ⟨g, o + i * 10 + 6, none⟩ = some (.int .i64 (M[i]'hi).val.op) ∧ w.cell? ⟨g, o + i * 10 + 7, none⟩ = some (.int .i64 (M[i]'hi).val.n) ∧ w.cell? ⟨g, o + i * 10 + 8, none⟩ = some (.string (M[i]'hi).val.name) ∧ w.cell? ⟨g, o + i * 10 + 9, none⟩ = some (.slice (M[i]'hi).b (M[i]'hi).val.args.length (M[i]'hi).cap)) ∧
      V w (M[i]'hi).val (.agg #[.int .i64 (M[i]'hi).val.op, .int .i64 (M[i]'hi).val.n, .string (M[i]'hi).val.name, .slice (M[i]'hi).b (M[i]'hi).val.args.length (M[i]'hi).cap]) := by
  obtain ⟨g', o', e, _, h5, h6, hv⟩ := h.at hi
  have e1 := Option.some.inj e
  injection e1 with e1 e2
  subst e1 e2
  exact ⟨h5, h6, hv⟩
/-- how the marks go on -/
structure RgS (M : List MC) (bg dn bg' dn' : List Nat) : Prop where
  ds : DS (adjM M) bg' dn'
  sb : ∀ x ∈ bg, x ∈ bg'
  sd : ∀ x ∈ dn, x ∈ dn'
  st : ∀ x ∈ bg', x ∉ dn' → x ∈ bg ∧ x ∉ dn
  room : bg'.length + lft M.length bg' ≤ M.length
  more : dn'.length + bg.length ≤ dn.length + bg'.length
theorem RgS.trans {M : List MC} {a b a1 b1 a2 b2 : List Nat} (h : RgS M a b a1 b1) (k : RgS M a1 b1 a2 b2) : RgS M a b a2 b2 :=
  ⟨k.ds, fun x hx => k.sb x (h.sb x hx), fun x hx => k.sd x (h.sd x hx), fun x h1 h2 => (have ⟨h3, h4⟩ := k.st x h1 h2; h.st x h3 h4), k.room, by have := h.more; have := k.more; omega⟩
/-- what the closure returns -/
def RgP (M : List MC) (base : Option Addr) (cap B1 B2 B3 B4 b1 b3 hi : Nat) (w0 : World) (n : Nat) (bg dn : List Nat) (W : World) (e : Ending) (W' : World) : Prop :=
  (e = .returned (.bool true) ∧ Gr w0.heap.size hi W W' ∧ ∃ k, Way (adjM M) k k) ∨
  (e = .returned (.bool false) ∧ Ac (adjM M) n ∧ ∃ bg' dn', RgI M base cap B1 B2 B3 B4 b1 b3 w0 W' bg' dn' ∧ Gr w0.heap.size hi W W' ∧ RgS M bg dn bg' dn')
theorem gr_of_grown {lo hi b : Nat} {W W' : World} (hg : W.grownBy W' (some b)) (h1 : lo ≤ b) (h2 : b < hi) : Gr lo hi W W' :=
  ⟨hg.os, hg.tape, hg.output, hg.size, fun j hj hd => hg.block j hj (fun e => by injection e with e; omega)⟩
theorem OI.gr {b lo hi : Nat} {v : Value} {l : List Int} {w w' : World} (h : OI b v l w) (hg : Gr lo hi w w') (hb : hi ≤ b) : OI b v l w' := by
  refine ⟨h.1, ?_⟩
  rcases h.2 with h2 | ⟨g, cap, cur, h2, h3, h4, h5⟩
  · exact .inl h2
  · exact .inr ⟨g, cap, cur, h2, h3, hg.heap (.inr (by omega)) h4, h5⟩

section
variable {M : List MC} {base : Option Addr} {cap B1 B2 B3 B4 b1 b3 hi : Nat} {w0 : World}
set_option maxHeartbeats 8000000 in
/-- begun already -/
theorem ring_old (n : Nat) (bg dn : List Nat) (W : World) (hn : n < M.length) (hM6 : M.length ≤ 600) (hI : RgI M base cap B1 B2 B3 B4 b1 b3 w0 W bg dn) (hds : DS (adjM M) bg dn) (hroom : bg.length + lft M.length bg ≤ M.length) (hway : ∀ b ∈ bg, b ∉ dn → Way (adjM M) n b) (hin : n ∈ bg) :
    Calls Try.prog 129 #[.int .i64 n, .pointer (some ⟨B1, 0, none⟩), .pointer (some ⟨B2, 0, none⟩), .pointer (some ⟨B3, 0, none⟩), .pointer (some ⟨B4, 0, none⟩)] W (RgP M base cap B1 B2 B3 B4 b1 b3 hi w0 n bg dn W) := by
  have l1 := nset_look hI.o1 n (by omega)
  have l3 := nset_look hI.o3 n (by omega)
  rw [decide_eq_true hin] at l1
  have a1 := one_cell hI.m1
  have a3 := one_cell hI.m3
  have HD : Hid (n ∉ dn → ∃ k, Way (adjM M) k k) := Lib.hid (fun h => ⟨n, hway n hin h⟩)
  have HF : Hid (n ∈ dn → Ac (adjM M) n) := Lib.hid (fun h => hds.fin n h)
  have HI := Lib.hid hI
  have HS : Hid (RgS M bg dn bg dn) := Lib.hid ⟨hds, fun _ h => h, fun _ h => h, fun _ h1 h2 => ⟨h1, h2⟩, hroom, by omega⟩
  clear hI hds hway hin hroom
  by_cases hd : n ∈ dn
  · rw [decide_eq_true hd] at l3
    have HF2 := Lib.hid (HF.out hd)
    clear hd HD HF
    go_enter Try.func129, Try.ntmps129
    go_wp2_with fail
    go_ret
    exact .inr ⟨rfl, HF2.out, bg, dn, HI.out, Gr.refl _ _ _, HS.out⟩
  · rw [decide_eq_false hd] at l3
    have HD2 := Lib.hid (HD.out hd)
    clear hd HD HF
    go_enter Try.func129, Try.ntmps129
    go_wp2_with fail
    go_ret
    exact .inl ⟨rfl, Gr.refl _ _ _, HD2.out⟩
set_option maxHeartbeats 8000000 in
/-- not solved -/
theorem ring_un (n : Nat) (bg dn : List Nat) (W : World) (hn : n < M.length) (hM6 : M.length ≤ 600) (hms : Ms w0 base M) (hI : RgI M base cap B1 B2 B3 B4 b1 b3 w0 W bg dn) (hds : DS (adjM M) bg dn) (hroom : bg.length + lft M.length bg ≤ M.length) (hin : n ∉ bg) (hs : (M[n]'hn).sol = false) :
    Calls Try.prog 129 #[.int .i64 n, .pointer (some ⟨B1, 0, none⟩), .pointer (some ⟨B2, 0, none⟩), .pointer (some ⟨B3, 0, none⟩), .pointer (some ⟨B4, 0, none⟩)] W (RgP M base cap B1 B2 B3 B4 b1 b3 hi w0 n bg dn W) := by
  have l1 := nset_look hI.o1 n (by omega)
  rw [decide_eq_false hin] at l1
  have a1 := one_cell hI.m1
  have a2 := one_cell hI.m2
  obtain ⟨g, o, rfl, _, c5, _⟩ := (hms.next hI.old).at hn
  rw [hs] at c5
  have HA : Hid (Ac (adjM M) n) := Lib.hid (ac_of (by rw [adjM_un hn hs]; intro k hk; cases hk))
  have HI := Lib.hid hI
  have HS : Hid (RgS M bg dn bg dn) := Lib.hid ⟨hds, fun _ h => h, fun _ h => h, fun _ h1 h2 => ⟨h1, h2⟩, hroom, by omega⟩
  clear hI hds hin hroom hs hms
  go_enter Try.func129, Try.ntmps129
  go_wp2_with fail
  go_ret
  exact .inr ⟨rfl, HA.out, bg, dn, HI.out, Gr.refl _ _ _, HS.out⟩
set_option maxHeartbeats 16000000 in
set_option maxRecDepth 100000 in
theorem ring_any (hM : OkM M) (hM6 : M.length ≤ 600) (hms : Ms w0 base M) (hne : b1 ≠ b3) (h1 : w0.heap.size ≤ b1 ∧ b1 < hi) (h3 : w0.heap.size ≤ b3 ∧ b3 < hi) : ∀ (f n : Nat) (bg dn : List Nat) (W : World), n < M.length → hi ≤ W.heap.size → RgI M base cap B1 B2 B3 B4 b1 b3 w0 W bg dn → DS (adjM M) bg dn → bg.length + lft M.length bg ≤ M.length → dn.length ≤ bg.length → (∀ b ∈ bg, b ∉ dn → Way (adjM M) n b) → lft M.length bg ≤ f →
    Calls Try.prog 129 #[.int .i64 n, .pointer (some ⟨B1, 0, none⟩), .pointer (some ⟨B2, 0, none⟩), .pointer (some ⟨B3, 0, none⟩), .pointer (some ⟨B4, 0, none⟩)] W (RgP M base cap B1 B2 B3 B4 b1 b3 hi w0 n bg dn W) := by
  intro f
  induction f with
  | zero =>
    intro n bg dn W hn _ hI hds hroom _ hway hf
    refine ring_old n bg dn W hn hM6 hI hds hroom hway ?_
    by_cases h : n ∈ bg
    · exact h
    · have := lft_lt hn h; omega
  | succ f ih =>
    intro n bg dn W hn hhi hI hds hroom hlen hway hf
    by_cases hin : n ∈ bg
    · exact ring_old n bg dn W hn hM6 hI hds hroom hway hin
    cases hs : (M[n]'hn).sol with
    | false => exact ring_un n bg dn W hn hM6 hms hI hds hroom hin hs
    | true =>
      obtain ⟨hpv, hvin⟩ := hM _ (List.getElem_mem hn) hs
      have hgv := Good.of hpv
      have hadj := adjM_sol hn hs
      have hrange := colT_range hgv
      have hcl : (colT 6 (M[n]'hn).val).length ≤ 100000 := by have := colT_len hgv; have := proper_nodes _ hpv; omega
      have hlt := lft_lt (len := M.length) hn hin
      have l1 := nset_look hI.o1 n (by omega)
      rw [decide_eq_false hin] at l1
      have a1 := one_cell hI.m1
      have a2 := one_cell hI.m2
      have hkey : Hid (keyOf Try.prog 3 (.int .i64 n) = some (Lit.int .i64 n)) := Lib.hid (keyOf_int_mk Try.underlying3 (int_wf (by omega)))
      obtain ⟨g, o, rfl, _, c5, _⟩ := (hms.next hI.old).at hn
      rw [hs] at c5
      -- what the map's update gives
      have hput := fun (w' : World) (ho : w'.ownsMap Try.prog 3 (plainElem Try.prog 4) b1 (bg.length + 1) ((nset bg).put (.int .i64 n) (.lit (.bool true)))) (hg : W.grownBy w' (some b1)) => hI.put1 hne h1.1 ho hg
      have HPUT := Lib.hid hput
      have hroom2 : (n :: bg).length + lft M.length (n :: bg) ≤ M.length := by rw [List.length_cons]; omega
      have hS1 : ∀ bg' dn', RgS M (n :: bg) dn bg' dn' → ∀ b ∈ bg', b ∉ dn' → ∀ k, k ∈ adjM M n → Way (adjM M) k b := fun bg' dn' hS b hb hd k hk => by
        obtain ⟨hb2, hd2⟩ := hS.st b hb hd
        rcases List.mem_cons.mp hb2 with rfl | hb2
        · exact .one hk
        · exact (Way.one hk).trans (hway b hb2 hd2)
      have hS0 : RgS M (n :: bg) dn (n :: bg) dn := ⟨⟨fun d hd => List.mem_cons_of_mem _ (hds.sub d hd), hds.fin⟩, fun _ h => h, fun _ h => h, fun _ h1 h2 => ⟨h1, h2⟩, hroom2, by omega⟩
      have hfin : (∀ x ∈ colT 6 (M[n]'hn).val, Ac (adjM M) x.toNat) → Ac (adjM M) n := fun h => ac_of (fun k hk => by
        rw [hadj] at hk
        obtain ⟨x, hx, rfl⟩ := List.mem_map.mp hk
        exact h x hx)
      have hS2 : ∀ bg' dn', RgS M (n :: bg) dn bg' dn' → Ac (adjM M) n → RgS M bg dn bg' (n :: dn') := fun bg' dn' hS hA =>
        ⟨⟨fun d hd => by
            rcases List.mem_cons.mp hd with rfl | hd
            · exact hS.sb _ (by simp)
            · exact hS.ds.sub d hd, fun d hd => by
            rcases List.mem_cons.mp hd with rfl | hd
            · exact hA
            · exact hS.ds.fin d hd⟩, fun x hx => hS.sb x (List.mem_cons_of_mem _ hx), fun x hx => List.mem_cons_of_mem _ (hS.sd x hx), fun x h1 h2 => by
            obtain ⟨h4, h5⟩ := hS.st x h1 (fun h => h2 (List.mem_cons_of_mem _ h))
            rcases List.mem_cons.mp h4 with rfl | h4
            · exact absurd (by simp) h2
            · exact ⟨h4, h5⟩, hS.room, by have := hS.more; rw [List.length_cons] at this ⊢; omega⟩
      have hdn : ∀ bg' dn', RgS M (n :: bg) dn bg' dn' → dn'.length < maxLen := fun bg' dn' hS => by
        have h4 := hS.more
        have h5 := hS.room
        rw [List.length_cons] at h4
        unfold maxLen
        omega
      have HBG : Hid (bg.length < maxLen) := Lib.hid (by unfold maxLen; omega)
      have HREC := Lib.hid (fun (k : Int) (hk : k ∈ colT 6 (M[n]'hn).val) (bg' dn' : List Nat) (W' : World) (hW : hi ≤ W'.heap.size) (hI' : RgI M (some ⟨g, o, none⟩) cap B1 B2 B3 B4 b1 b3 w0 W' bg' dn') (hS : RgS M (n :: bg) dn bg' dn') =>
        ih k.toNat bg' dn' W' (by have := hvin k hk; have := (hrange k hk).1; omega) hW hI' hS.ds hS.room (by have := hS.more; rw [List.length_cons] at this; omega) (fun b hb hd => hS1 bg' dn' hS b hb hd _ (by rw [hadj]; exact List.mem_map_of_mem hk)) (by have := lft_mono (len := M.length) hS.sb; omega))
      have HCAST := Lib.hid (fun (k : Int) (hk : k ∈ colT 6 (M[n]'hn).val) => show ((k.toNat : Nat) : Int) = k from by have := (hrange k hk).1; omega)
      have HAT := Lib.hid (fun (W' : World) (h : Below w0.heap.size w0 W') => (hms.next h).cell hn)
      have HMET := Lib.hid (fun (W' : World) (v : Value) (h : V W' (M[n]'hn).val v) => Metas_ok _ hpv v W' h)
      obtain ⟨x, hx⟩ : ∃ x, x = M[n]'hn := ⟨_, rfl⟩
      rw [← hx] at HAT HMET HREC HCAST hfin hcl
      clear hx
      obtain ⟨L, hL⟩ : ∃ L, L = colT 6 x.val := ⟨_, rfl⟩
      rw [← hL] at HMET HREC HCAST hfin hcl
      clear hL
      generalize x.val.op = xo at *
      generalize x.val.n = xn at *
      generalize x.val.name = xs at *
      generalize x.val.args.length = xl at *
      generalize x.b = xb at *
      generalize x.cap = xc at *
      have HI := Lib.hid hI
      have HS0 := Lib.hid hS0
      have HFIN := Lib.hid hfin
      have HS2 := Lib.hid hS2
      have HDN := Lib.hid hdn
      have HHI := Lib.hid hhi
      clear hput hS1 hS0 hfin hS2 hdn hI hds hroom hroom2 hway hin hs hpv hvin hgv hadj hrange hlt ih hf hlen hhi hms hM
      go_enter Try.func129, Try.ntmps129
      go_wp2_with (at_mapUpdate; refine wpList_mapUpdate_own _ rfl _ _ _ 105 rfl 3 4 ikeys Try.underlying105 _ b1 bg.length (nset bg) rfl HI.out.o1 HBG.out _ _ (.int .i64 n) rfl rfl hkey.out (.lit (.bool true)) [] (plainElem_bool Try.underlying4 true) ?_; intro w1 hown1 hgr1; have HI1 := Lib.hid (HPUT.out w1 hown1 hgr1); have HG1 := Lib.hid (gr_of_grown (lo := w0.heap.size) hgr1 h1.1 h1.2); clear hown1 hgr1 a1 a2 c5 l1; have a2 := one_cell HI1.out.m2; obtain ⟨_, ⟨c6, c7, c8, c9⟩, hv1⟩ := HAT.out _ HI1.out.old; have HV1 := Lib.hid hv1; clear hv1)
      refine (HMET.out w1 _ HV1.out).mono ?_
      rintro e w2 ⟨v, rfl, hoi, hb2⟩
      obtain ⟨base2, cap2, rfl, hsl⟩ := hoi.isl hcl
      have HI2 := Lib.hid (HI1.out.next hb2)
      have HG2 := Lib.hid (HG1.out.trans (Gr.of hb2))
      have HHI2 : Hid (hi ≤ w1.heap.size) := Lib.hid (Nat.le_trans HHI.out HG1.out.size)
      have HOI := Lib.hid hoi
      have HSL := Lib.hid hsl
      clear hoi hsl hb2 a2 c6 c7 c8 c9 HI1 HG1 HV1 HMET HAT HPUT HI
      have a4 := one_cell HI2.out.m4
      have HSZ2 : Hid (hi ≤ w2.heap.size) := Lib.hid (Nat.le_trans HHI.out HG2.out.size)
      have HCT := Lib.hid (contains_ring (p1 := B1) (p2 := B2) (p3 := B3) (p4 := B4) L base2 cap2 w2
        (fun W' => ∃ bg' dn', RgI M (some ⟨g, o, none⟩) cap B1 B2 B3 B4 b1 b3 w0 W' bg' dn' ∧ Gr w0.heap.size hi w2 W' ∧ RgS M (n :: bg) dn bg' dn')
        (fun W' => Gr w0.heap.size hi w2 W' ∧ ∃ k, Way (adjM M) k k) (fun k => Ac (adjM M) k.toNat) hcl
        ⟨_, _, HI2.out, Gr.refl _ _ _, HS0.out⟩
        (fun W' ⟨_, _, _, hg, _⟩ => (HOI.out.gr hg HHI2.out).isl hcl |> fun ⟨b', c', e', h'⟩ => by injection e' with e1 _ _; rw [e1]; exact h')
        (fun W' ⟨bg', dn', hI', hg', hS'⟩ j hj => by
          have hmem : L[j]'hj ∈ L := List.getElem_mem hj
          have := HREC.out _ hmem bg' dn' W' (Nat.le_trans HSZ2.out hg'.size) hI' hS'
          rw [HCAST.out _ hmem] at this
          refine this.mono ?_
          rintro e W2 (⟨rfl, hg2, hk⟩ | ⟨rfl, hA, bg2, dn2, hI2, hg2, hS2⟩)
          · exact .inl ⟨rfl, hg'.trans hg2, hk⟩
          · exact .inr ⟨rfl, hA, bg2, dn2, hI2, hg'.trans hg2, hS'.trans hS2⟩))
      clear HREC HCAST HS0 HOI HI2
      go_wp2_with fail
      refine HCT.out.mono ?_
      rintro e w3 (⟨rfl, hg3, hk3⟩ | ⟨rfl, hall, bg2, dn2, hI3, hg3, hS3⟩)
      · have HG3 := Lib.hid (HG2.out.trans hg3)
        have HK3 := Lib.hid hk3
        clear hg3 hk3 a4
        go_wp2_with fail
        go_ret
        exact .inl ⟨rfl, HG3.out, HK3.out⟩
      · have HG3 := Lib.hid (HG2.out.trans hg3)
        have HA := Lib.hid (HFIN.out hall)
        have HS3 := Lib.hid (HS2.out _ _ hS3 HA.out)
        have HI3 := Lib.hid hI3
        have HDN2 := Lib.hid (HDN.out _ _ hS3)
        have a3 := one_cell hI3.m3
        clear hg3 hall hI3 hS3 a4
        go_wp2_with (at_mapUpdate; refine wpList_mapUpdate_own _ rfl _ _ _ 105 rfl 3 4 ikeys Try.underlying105 _ b3 dn2.length (nset dn2) rfl HI3.out.o3 HDN2.out _ _ (.int .i64 n) rfl rfl hkey.out (.lit (.bool true)) [] (plainElem_bool Try.underlying4 true) ?_; intro w4 hown4 hgr4; have HI4 := Lib.hid (HI3.out.put3 hne h3.1 hown4 hgr4); have HG4 := Lib.hid (HG3.out.trans (gr_of_grown (lo := w0.heap.size) hgr4 h3.1 h3.2)); clear hown4 hgr4 a3)
        go_ret
        exact .inr ⟨rfl, HA.out, bg2, n :: dn2, HI4.out, HG4.out, HS3.out⟩
end

end Ty
end Go.Proofs.Ytkedhnahgpmkaaa

/- within, inRing and resolvable. Conditions: at most 600 metavariables; the type is proper. -/
namespace Go.Proofs.Ytkedhnahgpmkaaa
open Go.RowKit Go.Maps

namespace Ty
/-- all numbers are those of metavariables that there are -/
def inM (M : List MC) (t : Ty) : Bool := (colT 6 t).all (fun y => decide (y < (M.length : Int)))
theorem inM_iff {M : List MC} {t : Ty} : inM M t = true ↔ ∀ y ∈ colT 6 t, y < (M.length : Int) := by unfold inM; simp

set_option maxHeartbeats 4000000 in
theorem within_any (M : List MC) (t : Ty) (hp : isProper t = true) (base : Option Addr) (cap : Nat) (v : Value) (w : World) (hv : V w t v) : Calls Try.prog 114 #[.slice base M.length cap, v] w fun e w' => e = .returned (.bool (inM M t)) ∧ Below w.heap.size w w' := by
  have hg := Good.of hp
  have hcl : (colT 6 t).length ≤ 100000 := by have := colT_len hg; have := proper_nodes _ hp; omega
  have HR := Lib.hid (colT_range hg)
  have HC := Lib.hid (fun (W : World) (hb : Below w.heap.size w W) => Metas_ok t hp v W (hv.next hb))
  have HB := Lib.hid (@inM_iff M t)
  have hr := @inM_iff M t
  generalize inM M t = r at *
  generalize colT 6 t = L at *
  obtain ⟨b, c, ev, _, _⟩ := hv
  subst ev
  generalize t.op = xo at *
  generalize t.n = xn at *
  generalize t.name = xs at *
  generalize t.args.length = xl at *
  have hb1 : Below w.heap.size w (w.alloc (Obj.cells #[.int .i64 xo, .int .i64 xn, .string xs, .slice b xl c] 24)) := (Below.refl _ _).alloc (Nat.le_refl _) _
  have hbox : B4 (w.alloc (Obj.cells #[.int .i64 xo, .int .i64 xn, .string xs, .slice b xl c] 24)) w.heap.size (.int .i64 xo) (.int .i64 xn) (.string xs) (.slice b xl c) := two_B4
  have HC1 := Lib.hid (HC.out _ hb1)
  have HB1 := Lib.hid hb1
  obtain ⟨c0, c1, c2, c3⟩ := hbox.cells
  clear hb1 hbox hr hg hp HC
  generalize M.length = n at *
  go_enter Try.func114, Try.ntmps114
  go_wp2_with fail
  refine HC1.out.mono ?_
  rintro e w2 ⟨v, rfl, hoi, hb2⟩
  obtain ⟨base2, cap2, rfl, hsl⟩ := hoi.isl hcl
  have HB2 := Lib.hid (HB1.out.trans (hb2.mono HB1.out.size))
  have HSL := Lib.hid hsl
  clear hoi hsl hb2 c0 c1 c2 c3
  by_cases hne : L = []
  · have hr1 : Hid (r = true) := Lib.hid (HB.out.mpr (by rw [hne]; intro y hy; cases hy))
    subst hne
    clear HB HR HSL HC1
    go_wp2_with fail
    go_ret
    exact ⟨ret_bool hr1.out.symm, HB2.out⟩
  · have hpos : 0 < L.length := List.length_pos_iff.mpr hne
    have q1 : ((L.length : Int) == 0) = false := by simpa using hne
    have HMX := Lib.hid (max_any L base2 cap2 w2 HSL.out hne hcl)
    have hmb := max_fold_le 9999 L (L.headD 0) (by cases L with | nil => exact absurd rfl hne | cons a l => have := HR.out a (by simp); show -9999 ≤ a; omega) (fun y hy => by have := HR.out y hy; omega) (by cases L with | nil => exact absurd rfl hne | cons a l => exact (HR.out a (by simp)).2)
    have hd : decide (maxL L < (n : Int)) = r := by
      cases hr : r with
      | true => exact decide_eq_true ((maxL_lt hne _).mpr (HB.out.mp hr))
      | false => exact decide_eq_false (fun h => by rw [HB.out.mpr ((maxL_lt hne _).mp h)] at hr; cases hr)
    obtain ⟨m, hm⟩ : ∃ m, m = maxL L := ⟨_, rfl⟩
    rw [← hm] at HMX hd
    have HD := Lib.hid hd
    clear hmb hd hm HB HR HSL hpos hne
    generalize L.length = k at *
    go_wp2_with fail
    refine HMX.out.mono ?_
    rintro e w3 ⟨rfl, rfl⟩
    go_wp2_with fail
    go_ret
    exact ⟨ret_bool HD.out, HB2.out⟩

theorem way_lt {M : List MC} {a c : Nat} (h : Way (adjM M) a c) : c < M.length := by
  have key : adjM M c ≠ [] := by
    rcases h.last with h | ⟨b, _, h⟩ <;> (intro e; rw [e] at h; cases h)
  by_cases hc : c < M.length
  · exact hc
  · exact absurd (by unfold adjM; rw [dif_neg hc]) key
/-- no metavariable needs itself -/
def NoRing (M : List MC) : Prop := ∀ i, i < M.length → Ac (adjM M) i
/-- what is left behind inRing -/
def InRP (M : List MC) (w : World) (e : Ending) (w' : World) : Prop := ∃ r : Bool, e = .returned (.bool r) ∧ (r = false ↔ NoRing M) ∧ Below w.heap.size w w'

theorem own_mk {w : World} {n : Nat} (h : w.heap.size = n) : (w.alloc (.map #[] 0)).ownsMap (H := Unit) Try.prog 3 (plainElem Try.prog 4) n 0 (.map []) := by
  subst h
  exact World.ownsMap_made w Try.prog 3 (plainElem Try.prog 4)
/-- the memory as the search begins -/
def ringW (M : List MC) (base : Option Addr) (cap : Nat) (w : World) : World := (((((w.alloc (Obj.cells #[.slice base M.length cap] 62)).alloc (.map #[] 0)).alloc (.map #[] 0)).alloc (Obj.cells #[.map (some (w.heap.size + 1))] 105)).alloc (Obj.cells #[.map (some (w.heap.size + 2))] 105)).alloc (Obj.cells #[.func (.func 129) #[] #[.pointer (some ⟨w.heap.size + 3, 0, none⟩), .pointer (some ⟨w.heap.size, 0, none⟩), .pointer (some ⟨w.heap.size + 4, 0, none⟩), .pointer (some ⟨w.heap.size + 5, 0, none⟩)]] 39)
theorem ring_new (M : List MC) (base : Option Addr) (cap : Nat) (w : World) : RgI M base cap (w.heap.size + 3) w.heap.size (w.heap.size + 4) (w.heap.size + 5) (w.heap.size + 1) (w.heap.size + 2) w (ringW M base cap w) [] [] ∧ (ringW M base cap w).heap.size = w.heap.size + 6 := by
  unfold ringW
  refine ⟨⟨?_, ?_, ?_, ?_, ?_, ?_, ?_⟩, by simp⟩
  · exact ((((((Below.refl _ _).alloc (Nat.le_refl _) _).alloc (by simp) _).alloc (by simp; omega) _).alloc (by simp; omega) _).alloc (by simp; omega) _).alloc (by simp; omega) _
  · exact push_old (push_old (push_at _ _ _ (by simp)))
  · exact push_old (push_old (push_old (push_old (push_old (push_at _ _ _ rfl)))))
  · exact push_old (push_at _ _ _ (by simp))
  · exact push_at _ _ _ (by simp)
  · exact ((((own_mk (by simp)).alloc _).alloc _).alloc _).alloc _
  · exact (((own_mk (by simp)).alloc _).alloc _).alloc _
theorem ac_take {M : List MC} {n j : Nat} (hn : n = M.length) (h : ∀ i, i < j → i < M.length → Ac (adjM M) i) (hj : n ≤ j) : NoRing M := fun i hi => h i (by omega) hi

set_option maxHeartbeats 16000000 in
set_option maxRecDepth 100000 in
theorem inring_any (M : List MC) (hM : OkM M) (hM6 : M.length ≤ 600) (base : Option Addr) (cap : Nat) (w : World) (hms : Ms w base M) : Calls Try.prog 115 #[.slice base M.length cap] w (InRP M w) := by
  obtain ⟨hI, hsz⟩ := ring_new M base cap w
  have hb0 := hI.old
  have HREC := Lib.hid (fun (n : Nat) (bg dn : List Nat) (W : World) (hn : n < M.length) (hhi : w.heap.size + 6 ≤ W.heap.size) (hI : RgI M base cap (w.heap.size + 3) w.heap.size (w.heap.size + 4) (w.heap.size + 5) (w.heap.size + 1) (w.heap.size + 2) w W bg dn) (hds : DS (adjM M) bg dn) (hr : bg.length + lft M.length bg ≤ M.length) (hl : dn.length ≤ bg.length) (hw : ∀ b ∈ bg, b ∉ dn → Way (adjM M) n b) =>
    ring_any (hi := w.heap.size + 6) hM hM6 hms (by omega) ⟨by omega, by omega⟩ ⟨by omega, by omega⟩ M.length n bg dn W hn hhi hI hds hr hl hw (lft_le _ _))
  have HI := Lib.hid hI
  have HSZ := Lib.hid hsz
  have HLF : Hid (lft M.length [] ≤ M.length) := Lib.hid (lft_le _ _)
  have HB0 := Lib.hid hb0
  obtain ⟨n, hn⟩ : ∃ n, n = M.length := ⟨_, rfl⟩
  have hw : ringW M base cap w = ((((((w.alloc (Obj.cells #[.slice base n cap] 62)).alloc (.map #[] 0)).alloc (.map #[] 0)).alloc (Obj.cells #[.map (some (w.heap.size + 1))] 105)).alloc (Obj.cells #[.map (some (w.heap.size + 2))] 105)).alloc (Obj.cells #[.func (.func 129) #[] #[.pointer (some ⟨w.heap.size + 3, 0, none⟩), .pointer (some ⟨w.heap.size, 0, none⟩), .pointer (some ⟨w.heap.size + 4, 0, none⟩), .pointer (some ⟨w.heap.size + 5, 0, none⟩)]] 39)) := by rw [hn]; rfl
  rw [← hn] at hM6 ⊢
  have HN := Lib.hid hn
  have HW := Lib.hid hw
  have hmm := @run_makeMap Try.prog
  clear hI hsz hb0 hn hw hms hM
  go_enter Try.func115, Try.ntmps115
  go_upto_region 4 with fail
  rw [show w.heap.size + 1 + 1 + 1 + 1 + 1 = w.heap.size + 5 from rfl, show w.heap.size + 1 + 1 + 1 + 1 = w.heap.size + 4 from rfl, show w.heap.size + 1 + 1 + 1 = w.heap.size + 3 from rfl, show w.heap.size + 1 + 1 = w.heap.size + 2 from rfl, ← HW.out]
  obtain ⟨W6, hW6⟩ : ∃ W6, W6 = ringW M base cap w := ⟨_, rfl⟩
  rw [← hW6] at HI HSZ HB0 ⊢
  clear hW6 HW hmm
  have a2 := one_cell HI.out.m2
  rw [← HN.out] at a2
  go_wp2_with fail
  go_loopw [12] (fun i wr => ∃ j : Nat, j ≤ n ∧ i = .int .i64 j ∧ Hid (w.heap.size + 6 ≤ wr.heap.size) ∧ Hid (∀ i, i < j → i < M.length → Ac (adjM M) i) ∧ Hid (∃ bg dn, RgI M base cap (w.heap.size + 3) w.heap.size (w.heap.size + 4) (w.heap.size + 5) (w.heap.size + 1) (w.heap.size + 2) w wr bg dn ∧ DS (adjM M) bg dn ∧ bg.length + lft M.length bg ≤ M.length ∧ dn.length ≤ bg.length ∧ ∀ b ∈ bg, b ∈ dn)) (fun i _ => n - (intOf i).toNat)
  case atStart => exact ⟨0, Nat.zero_le _, rfl, Lib.hid (by rw [HSZ.out]; exact Nat.le_refl _), Lib.hid (fun i h => absurd h (Nat.not_lt_zero _)), Lib.hid ⟨[], [], HI.out, ⟨fun d h => (nomatch h), fun d h => (nomatch h)⟩, by have := HLF.out; simpa using this, Nat.le_refl _, fun b h => (nomatch h)⟩⟩
  case round =>
    obtain ⟨j, hj, rfl, hsz, hall, hst⟩ := hrel
    clear a2
    by_cases hlt : j < n
    · obtain ⟨bg, dn, hI2, hds, hr, hl, hbd⟩ := hst.out
      have h1 : j < M.length := by rw [← HN.out]; exact hlt
      have HC := Lib.hid (HREC.out j bg dn wr h1 hsz.out hI2 hds hr hl (fun b hb hd => absurd (hbd b hb) hd))
      have a4 := one_cell hI2.m4
      have HI2 := Lib.hid hI2
      have HNX := Lib.hid (fun bg' dn' (hS : RgS M bg dn bg' dn') => show bg'.length + lft M.length bg' ≤ M.length ∧ dn'.length ≤ bg'.length ∧ ∀ b ∈ bg', b ∈ dn' from
        ⟨hS.room, by have := hS.more; omega, fun b hb => by
          by_cases hd : b ∈ dn'
          · exact hd
          · obtain ⟨h3, h4⟩ := hS.st b hb hd
            exact absurd (hbd b h3) h4⟩)
      clear hI2 hds hr hl hbd h1 hst
      go_wp2_with fail
      refine HC.out.mono ?_
      rintro e w2 (⟨rfl, hg, hk⟩ | ⟨rfl, hA, bg', dn', hI3, hg, hS⟩)
      · have HNR : Hid (¬ NoRing M) := Lib.hid (fun h => by obtain ⟨k, hk⟩ := hk; exact ac_no (h k (way_lt hk)) hk)
        have HB2 : Hid (Below w.heap.size w w2) := Lib.hid (HI2.out.old.trans (hg.below HI2.out.old.size))
        clear hg hk a4
        go_wp2_with fail
        go_ret
        exact ⟨true, rfl, ⟨fun h => (nomatch h), fun h => absurd h HNR.out⟩, HB2.out⟩
      · have HA := Lib.hid (fun i (h : i < j + 1) (h2 : i < M.length) => show Ac (adjM M) i from by
          by_cases hij : i = j
          · rw [hij]; exact hA
          · exact hall.out i (by omega) h2)
        have HS2 := Lib.hid (show ∃ bg dn, RgI M base cap (w.heap.size + 3) w.heap.size (w.heap.size + 4) (w.heap.size + 5) (w.heap.size + 1) (w.heap.size + 2) w w2 bg dn ∧ DS (adjM M) bg dn ∧ bg.length + lft M.length bg ≤ M.length ∧ dn.length ≤ bg.length ∧ ∀ b ∈ bg, b ∈ dn from
          ⟨bg', dn', hI3, hS.ds, HNX.out _ _ hS⟩)
        have HSZ2 : Hid (w.heap.size + 6 ≤ w2.heap.size) := Lib.hid (Nat.le_trans hsz.out hg.size)
        clear hA hI3 hg hS a4 hall
        go_wp2_with fail
        go_roundw
        case rel => exact ⟨j + 1, by omega, by go_num, HSZ2, HA, HS2⟩
        case measure => simp [intOf]; omega
    · have HNR := Lib.hid (ac_take HN.out hall.out (by omega))
      have HB2 : Hid (Below w.heap.size w wr) := Lib.hid (by obtain ⟨bg, dn, hI2, _⟩ := hst.out; exact hI2.old)
      clear hst hall
      go_wp2_with fail
      go_ret
      exact ⟨false, rfl, ⟨fun _ => HNR.out, fun _ => rfl⟩, HB2.out⟩

end Ty
end Go.Proofs.Ytkedhnahgpmkaaa

/- resolvable: whether all values can be put for their metavariables. Conditions: at most 600 metavariables; the type is proper. -/
namespace Go.Proofs.Ytkedhnahgpmkaaa
open Go.RowKit Go.Maps

namespace Ty
/-- a value is proper, has no free variables, and needs no metavariable that there isn't -/
def okX (M : List MC) (x : MC) : Prop := x.sol = true → isProper x.val = true ∧ colT 1 x.val = [] ∧ inM M x.val = true
def OkF (M : List MC) : Prop := ∀ x ∈ M, okX M x
theorem OkF.ok {M : List MC} (h : OkF M) : OkM M := fun x hx hs => ⟨(h x hx hs).1, inM_iff.mp (h x hx hs).2.2⟩
theorem okF_take {M : List MC} {n j : Nat} (hn : n = M.length) (h : ∀ i (h : i < M.length), i < j → okX M (M[i]'h)) (hj : n ≤ j) : OkF M := fun x hx => by
  obtain ⟨i, hi, rfl⟩ := List.getElem_of_mem hx
  exact h i hi (by omega)
/-- all can be put -/
def ResOK (M : List MC) (t : Ty) : Prop := OkF M ∧ inM M t = true ∧ NoRing M
def ResBP (M : List MC) (t : Ty) (w : World) (e : Ending) (w' : World) : Prop := ∃ r : Bool, e = .returned (.bool r) ∧ (r = true ↔ ResOK M t) ∧ Below w.heap.size w w'
theorem ten_cells (w : World) (v0 v1 v2 v3 v4 v5 v6 v7 v8 v9 : Value) (T : TypeId) : ((w.alloc (Obj.cells #[v0, v1, v2, v3, v4, v5, v6, v7, v8, v9] T)).cell? ⟨w.heap.size, 5, none⟩ = some v5) ∧
    (w.alloc (Obj.cells #[v0, v1, v2, v3, v4, v5, v6, v7, v8, v9] T)).cell? ⟨w.heap.size, 6, none⟩ = some v6 ∧ (w.alloc (Obj.cells #[v0, v1, v2, v3, v4, v5, v6, v7, v8, v9] T)).cell? ⟨w.heap.size, 7, none⟩ = some v7 ∧
    (w.alloc (Obj.cells #[v0, v1, v2, v3, v4, v5, v6, v7, v8, v9] T)).cell? ⟨w.heap.size, 8, none⟩ = some v8 ∧ (w.alloc (Obj.cells #[v0, v1, v2, v3, v4, v5, v6, v7, v8, v9] T)).cell? ⟨w.heap.size, 9, none⟩ = some v9 :=
  have c := fun i => cell_of_row _ w.heap.size i _ T (0, 0) (heap_alloc_new w (Obj.cells #[v0, v1, v2, v3, v4, v5, v6, v7, v8, v9] T))
  ⟨c 5, c 6, c 7, c 8, c 9⟩

set_option maxHeartbeats 16000000 in
set_option maxRecDepth 100000 in
theorem resolvable_any (M : List MC) (hM6 : M.length ≤ 600) (t : Ty) (hp : isProper t = true) (base : Option Addr) (cap : Nat) (v : Value) (w : World) (hms : Ms w base M) (hv : V w t v) : Calls Try.prog 84 #[.slice base M.length cap, v] w (ResBP M t w) := by
  have HMS := Lib.hid hms
  have HWI := Lib.hid (fun (W : World) (hb : Below w.heap.size w W) => within_any M t hp base cap v W (hv.next hb))
  have HWX := Lib.hid (fun (x : Ty) (hx : isProper x = true) (u : Value) (W : World) (hu : V W x u) => within_any M x hx base cap u W hu)
  have HRI := Lib.hid (fun (hM : OkM M) (W : World) (hb : Below w.heap.size w W) => inring_any M hM hM6 base cap W (hms.next hb))
  obtain ⟨b, c, ev, _, _⟩ := hv
  subst ev
  generalize hxo : t.op = xo at *
  generalize hxn : t.n = xn at *
  generalize hxs : t.name = xs at *
  generalize hxl : t.args.length = xl at *
  have hb1 : Below w.heap.size w (w.alloc (Obj.cells #[.int .i64 xo, .int .i64 xn, .string xs, .slice b xl c] 24)) := (Below.refl _ _).alloc (Nat.le_refl _) _
  have hbox : B4 (w.alloc (Obj.cells #[.int .i64 xo, .int .i64 xn, .string xs, .slice b xl c] 24)) w.heap.size (.int .i64 xo) (.int .i64 xn) (.string xs) (.slice b xl c) := two_B4
  obtain ⟨n, hn⟩ : ∃ n, n = M.length := ⟨_, rfl⟩
  rw [← hn] at HWI HWX HRI hM6 ⊢
  have HN := Lib.hid hn
  have HB1 := Lib.hid hb1
  have HBOX := Lib.hid hbox
  clear hn hms hb1 hbox hxo hxn hxs hxl
  go_enter Try.func84, Try.ntmps84
  go_wp2_with fail
  obtain ⟨W1, hW1⟩ : ∃ W1, W1 = w.alloc (Obj.cells #[.int .i64 xo, .int .i64 xn, .string xs, .slice b xl c] 24) := ⟨_, rfl⟩
  rw [← hW1] at HB1 HBOX ⊢
  have HSZ1 : Hid (W1.heap.size = w.heap.size + 1) := Lib.hid (by rw [hW1]; simp)
  clear hW1
  go_loopw [9] (fun i wr => ∃ j : Nat, j ≤ n ∧ i = .int .i64 j ∧ Hid (Below W1.heap.size W1 wr) ∧ Hid (∀ i (h : i < M.length), i < j → okX M (M[i]'h))) (fun i _ => n - (intOf i).toNat)
  case atStart => exact ⟨0, Nat.zero_le _, rfl, Lib.hid (Below.refl _ _), Lib.hid (fun i _ h => absurd h (Nat.not_lt_zero _))⟩
  case round =>
    obtain ⟨j, hj, rfl, hbl, hall⟩ := hrel
    have HBW : Hid (Below w.heap.size w wr) := Lib.hid (HB1.out.trans (hbl.out.mono HB1.out.size))
    by_cases hlt : j < n
    · have h1 : j < M.length := by rw [← HN.out]; exact hlt
      obtain ⟨g, o, rfl, ⟨c0, c1, c2, c3, c4⟩, c5, ⟨c6, c7, c8, c9⟩, hvx⟩ := (HMS.out.next HBW.out).at h1
      have HNO := Lib.hid (fun (h : ¬ okX M (M[j]'h1)) => show ¬ ResOK M t from fun hr => h (hr.1 _ (List.getElem_mem h1)))
      have HNX := Lib.hid (fun (h : okX M (M[j]'h1)) (i : Nat) (h2 : i < M.length) (h3 : i < j + 1) => show okX M (M[i]'h2) from by
        by_cases hij : i = j
        · subst hij; exact h
        · exact hall.out i h2 (by omega))
      obtain ⟨x, hx⟩ : ∃ x, x = M[j]'h1 := ⟨_, rfl⟩
      rw [← hx] at c0 c1 c2 c3 c4 c5 c6 c7 c8 c9 hvx HNO HNX
      have HVX : Hid (∀ W, Below wr.heap.size wr W → V W x.val (.agg #[.int .i64 x.val.op, .int .i64 x.val.n, .string x.val.name, .slice x.b x.val.args.length x.cap])) := Lib.hid (fun W hb => V.next hb hvx)
      have HOK := Lib.hid (show okX M x ↔ (x.sol = true → isProper x.val = true ∧ colT 1 x.val = [] ∧ inM M x.val = true) from Iff.rfl)
      have HTY := Lib.hid (fun W (hb : Below wr.heap.size wr W) => ptype_any x.val _ W (HVX.out W hb))
      have HFR := Lib.hid (fun (h : isProper x.val = true) W (hb : Below wr.heap.size wr W) => free_nums x.val (Good.of h) (proper_nodes _ h) _ W (HVX.out W hb))
      have HWT := Lib.hid (fun (h : isProper x.val = true) W (hb : Below wr.heap.size wr W) => HWX.out x.val h _ W (HVX.out W hb))
      have HCL : Hid (isProper x.val = true → (colT 1 x.val).length ≤ 100000) := Lib.hid (fun h => by
        have h4 := wlk_len (f := colF 1) (colF_len 1) (Good.of h) 0 []
        have h5 := proper_nodes _ h
        have h6 : (colT 1 x.val).length ≤ nodes x.val := by simpa [colT] using h4
        omega)
      clear hx hvx
      generalize hpx : isProper x.val = px at *
      generalize hin : inM M x.val = ix at *
      generalize hfl : colT 1 x.val = L at *
      generalize x.kop = a0 at *
      generalize x.kn = a1 at *
      generalize x.ks = a2 at *
      generalize x.kb = a3 at *
      generalize x.kl = a4 at *
      generalize x.kc = a5 at *
      generalize x.lvl = a6 at *
      generalize hso : x.sol = so at *
      generalize x.val.op = b0 at *
      generalize x.val.n = b1 at *
      generalize x.val.name = b2 at *
      generalize x.b = b3 at *
      generalize x.val.args.length = b4 at *
      generalize x.cap = b5 at *
      clear hpx hin hfl hso
      obtain ⟨k5, k6, k7, k8, k9⟩ := ten_cells wr (.int .i64 a0) (.int .i64 a1) (.string a2) (.slice a3 a4 a5) (.int .i64 a6) (.bool so) (.int .i64 b0) (.int .i64 b1) (.string b2) (.slice b3 b4 b5) 98
      have HBX : Hid (Below wr.heap.size wr (wr.alloc (Obj.cells #[.int .i64 a0, .int .i64 a1, .string a2, .slice a3 a4 a5, .int .i64 a6, .bool so, .int .i64 b0, .int .i64 b1, .string b2, .slice b3 b4 b5] 98))) := Lib.hid ((Below.refl _ _).alloc (Nat.le_refl _) _)
      cases so with
      | false =>
        have HY := Lib.hid (HNX.out (HOK.out.mpr (fun h => (nomatch h))))
        have HBN := Lib.hid (hbl.out.trans (HBX.out.mono hbl.out.size))
        go_wp2_with fail
        go_roundw
        case rel => exact ⟨j + 1, by omega, by go_num, HBN, HY⟩
        case measure => simp [intOf]; omega
      | true =>
        go_wp2_with fail
        refine (HTY.out _ HBX.out).mono ?_
        rintro e w2 ⟨rfl, hb2⟩
        have HB2 := Lib.hid (HBX.out.trans (hb2.mono HBX.out.size))
        cases px with
        | false =>
          have HR := Lib.hid (HNO.out (fun h => by have := (HOK.out.mp h (by first | rfl | trivial)).1; cases this))
          have HBE := Lib.hid (HBW.out.trans (HB2.out.mono HBW.out.size))
          clear hb2 k5 k6 k7 k8 k9 HTY HFR HWT
          go_wp2_with fail
          go_ret
          exact ⟨false, rfl, ⟨fun h => (nomatch h), fun h => absurd h HR.out⟩, HBE.out⟩
        | true =>
          have k6 := keeps hb2 _ _ k6
          have k7 := keeps hb2 _ _ k7
          have k8 := keeps hb2 _ _ k8
          have k9 := keeps hb2 _ _ k9
          clear hb2 k5 HTY
          go_wp2_with fail
          refine (HFR.out (by first | rfl | trivial) _ HB2.out).mono ?_
          rintro e w3 ⟨v, rfl, hoi, hb3⟩
          obtain ⟨base3, cap3, rfl, _⟩ := hoi.isl (HCL.out (by first | rfl | trivial))
          have HB3 := Lib.hid (HB2.out.trans (hb3.mono HB2.out.size))
          have k6 := keeps hb3 _ _ k6
          have k7 := keeps hb3 _ _ k7
          have k8 := keeps hb3 _ _ k8
          have k9 := keeps hb3 _ _ k9
          clear hb3 hoi HFR
          by_cases hL : L = []
          · subst hL
            rw [List.length_nil]
            clear HCL
            go_wp2_with fail
            refine (HWT.out (by first | rfl | trivial) _ HB3.out).mono ?_
            rintro e w4 ⟨rfl, hb4⟩
            have HB4 := Lib.hid (HB3.out.trans (hb4.mono HB3.out.size))
            clear hb4 k6 k7 k8 k9 HWT
            cases ix with
            | false =>
              have HR := Lib.hid (HNO.out (fun h => by have := (HOK.out.mp h (by first | rfl | trivial)).2.2; cases this))
              have HBE := Lib.hid (HBW.out.trans (HB4.out.mono HBW.out.size))
              go_wp2_with fail
              go_ret
              exact ⟨false, rfl, ⟨fun h => (nomatch h), fun h => absurd h HR.out⟩, HBE.out⟩
            | true =>
              have HY := Lib.hid (HNX.out (HOK.out.mpr (fun _ => ⟨(by first | rfl | trivial), (by first | rfl | trivial), (by first | rfl | trivial)⟩)))
              have HBN := Lib.hid (hbl.out.trans (HB4.out.mono hbl.out.size))
              go_wp2_with fail
              go_roundw
              case rel => exact ⟨j + 1, by omega, by go_num, HBN, HY⟩
              case measure => simp [intOf]; omega
          · have hpos : 0 < L.length := List.length_pos_iff.mpr hL
            have q1 : decide ((0 : Int) < (L.length : Int)) = true := decide_eq_true (by omega)
            have HR := Lib.hid (HNO.out (fun h => hL (HOK.out.mp h (by first | rfl | trivial)).2.1))
            have HBE := Lib.hid (HBW.out.trans (HB3.out.mono HBW.out.size))
            clear hL k6 k7 k8 k9 HWT
            generalize L.length = k at *
            go_wp2_with fail
            go_ret
            exact ⟨false, rfl, ⟨fun h => (nomatch h), fun h => absurd h HR.out⟩, HBE.out⟩
    · have HF : Hid (OkF M) := Lib.hid (okF_take HN.out hall.out (by omega))
      have HBX := Lib.hid (HBOX.out.next hbl.out)
      obtain ⟨q0, q1, q2, q3⟩ := HBX.out.cells
      have HW1 := Lib.hid (HWI.out _ HBW.out)
      have HRO := Lib.hid (show ResOK M t ↔ OkF M ∧ inM M t = true ∧ NoRing M from Iff.rfl)
      clear hall HWI HBOX HWX
      generalize inM M t = ix at *
      go_wp2_with fail
      refine HW1.out.mono ?_
      rintro e w2 ⟨rfl, hb2⟩
      have HB2 := Lib.hid (HBW.out.trans (hb2.mono HBW.out.size))
      clear hb2 q0 q1 q2 q3
      cases ix with
      | false =>
        go_wp2_with fail
        go_ret
        exact ⟨false, rfl, ⟨fun h => (nomatch h), fun h => (nomatch (HRO.out.mp h).2.1)⟩, HB2.out⟩
      | true =>
        go_wp2_with fail
        refine (HRI.out HF.out.ok _ HB2.out).mono ?_
        rintro e w3 ⟨r, rfl, hr, hb3⟩
        have HB3 := Lib.hid (HB2.out.trans (hb3.mono HB2.out.size))
        have HR := Lib.hid hr
        clear hb3 hr
        go_wp2_with fail
        go_ret
        refine ⟨!r, rfl, ?_, HB3.out⟩
        rw [HRO.out]
        cases r with
        | false => exact ⟨fun _ => ⟨HF.out, (by first | rfl | trivial), HR.out.mp rfl⟩, fun _ => rfl⟩
        | true => exact ⟨fun h => (nomatch h), fun h => (nomatch HR.out.mpr h.2.2)⟩

end Ty
end Go.Proofs.Ytkedhnahgpmkaaa

/- Plain: a type with the values of solved metavariables in their places. Conditions: none. -/
namespace Go.Proofs.Ytkedhnahgpmkaaa
open Go.RowKit

namespace Ty
mutual
/-- the depth of a well-formed type -/
def dep : Ty → Nat
  | .mk _ _ _ a => 1 + deps a
/-- .. of a list -/
def deps : List Ty → Nat
  | [] => 0
  | x :: l => max (dep x) (deps l)
end
theorem dep_leaf (op n : Int) (s : List UInt8) : dep (.mk op n s []) = 1 := by rw [dep, deps]
theorem dep_node (op n : Int) (s : List UInt8) (x y : Ty) : dep (.mk op n s [x, y]) = 1 + max (dep x) (dep y) := by rw [dep, deps, deps, deps]; omega
/-- whether so many nodes are left, and the depth -/
def fit (t : Ty) (d c : Nat) : Bool := decide (c + nodes t ≤ 600 ∧ d + dep t ≤ 41)
theorem nodes_leaf (op n : Int) (s : List UInt8) : nodes (.mk op n s []) = 1 := by rw [nodes_eq]; rfl
theorem dep_pos (t : Ty) : 1 ≤ dep t := by cases t; rw [dep]; omega
theorem prop_leaf {op n : Int} {s : List UInt8} (hg : Good (.mk op n s [])) (d c : Nat) : (prop (.mk op n s []) d c).1 = fit (.mk op n s []) d c := by
  have hk : headK op n s = some 0 := by
    unfold headK
    cases hg with
    | var op n h1 h2 h3 => rw [if_pos h1, if_pos ⟨h2, h3, rfl⟩]
    | con s h1 h2 => rw [if_neg (by decide), if_pos rfl, if_pos ⟨rfl, h1, h2⟩]
  rw [prop]
  unfold fit
  rw [nodes_leaf, dep_leaf]
  by_cases h : 600 < c + 1 ∨ 40 < d
  · rw [if_pos h, decide_eq_false (by omega)]
  · rw [if_neg h, hk]
    simp only [List.length_nil, if_true]
    rw [props_nil, decide_eq_true (by omega)]
theorem prop_fit {t : Ty} (hg : Good t) : ∀ d c, (prop t d c).1 = fit t d c := by
  induction hg with
  | var op n h1 h2 h3 => exact prop_leaf (.var op n h1 h2 h3)
  | con s h1 h2 => exact prop_leaf (.con s h1 h2)
  | node op x y h hx hy ihx ihy =>
    intro d c
    have hk : headK op 0 [] = some 2 := by
      unfold headK
      rw [if_neg (by omega), if_neg (by omega), if_pos h, if_pos ⟨rfl, rfl⟩]
    rw [prop]
    have hf : fit (.mk op 0 [] [x, y]) d c = decide (c + (1 + nodes x + nodes y) ≤ 600 ∧ d + (1 + max (dep x) (dep y)) ≤ 41) := by unfold fit; rw [nodes_node, dep_node]
    rw [hf]
    have hpx := dep_pos x
    by_cases h1 : 600 < c + 1 ∨ 40 < d
    · rw [if_pos h1, decide_eq_false (by omega)]
    · rw [if_neg h1, hk]
      simp only [List.length_cons, List.length_nil, Nat.zero_add, Nat.reduceAdd, if_true]
      rw [props_cons]
      have ex := ihx (d + 1) (c + 1)
      cases hx1 : (prop x (d + 1) (c + 1)).1 with
      | false =>
        rw [if_neg (by simp), hx1]
        rw [hx1] at ex
        have := of_decide_eq_false ex.symm
        exact (decide_eq_false (by omega)).symm
      | true =>
        rw [if_pos rfl, props_cons, prop_nodes x _ _ hx1]
        have ey := ihy (d + 1) (c + 1 + nodes x)
        rw [hx1] at ex
        have e1 := of_decide_eq_true ex.symm
        cases hy1 : (prop y (d + 1) (c + 1 + nodes x)).1 with
        | false =>
          rw [if_neg (by simp), hy1]
          rw [hy1] at ey
          have := of_decide_eq_false ey.symm
          exact (decide_eq_false (by omega)).symm
        | true =>
          rw [if_pos rfl, props_nil]
          rw [hy1] at ey
          have := of_decide_eq_true ey.symm
          exact (decide_eq_true (by omega)).symm
theorem proper_fit {t : Ty} (hg : Good t) : isProper t = fit t 1 0 := prop_fit hg 1 0
theorem fit_node {op : Int} {x y : Ty} {d c : Nat} (h : fit (.mk op 0 [] [x, y]) d c = true) : fit x d c = true ∧ fit y d c = true := by
  unfold fit at h ⊢
  rw [nodes_node, dep_node] at h
  have := of_decide_eq_true h
  exact ⟨decide_eq_true (by omega), decide_eq_true (by omega)⟩

/-- the metavariable n has a value -/
def Sol (M : List MC) (n : Int) (u : Ty) : Prop := ∃ h : n.toNat < M.length, (M[n.toNat]'h).sol = true ∧ (M[n.toNat]'h).val = u
theorem Sol.one {M : List MC} {n : Int} {u u' : Ty} (h : Sol M n u) (h' : Sol M n u') : u = u' := by
  obtain ⟨h1, _, h2⟩ := h
  obtain ⟨_, _, h3⟩ := h'
  rw [← h2, ← h3]
/-- a type with values for its solved metavariables, in the values, too -/
inductive Rs (M : List MC) : Ty → Ty → Prop where
  | stay {op n : Int} {s : List UInt8} : (op = 6 → ∀ u, ¬ Sol M n u) → Rs M (.mk op n s []) (.mk op n s [])
  | put {n : Int} {s : List UInt8} {u r : Ty} : Sol M n u → Rs M u r → Rs M (.mk 6 n s []) r
  | node {op : Int} {x y rx ry : Ty} : Rs M x rx → Rs M y ry → Rs M (.mk op 0 [] [x, y]) (.mk op 0 [] [rx, ry])
theorem Rs.one {M : List MC} {t r : Ty} (h : Rs M t r) : ∀ {r' : Ty}, Rs M t r' → r = r' := by
  induction h with
  | stay h =>
    intro r' h'
    cases h' with
    | stay _ => rfl
    | put hs _ => exact absurd hs (h rfl _)
  | put hs _ ih =>
    intro r' h'
    cases h' with
    | stay h2 => exact absurd hs (h2 rfl _)
    | put hs' h2 => have := hs.one hs'; subst this; exact ih h2
  | node _ _ ihx ihy =>
    intro r' h'
    cases h' with
    | node h1 h2 => rw [ihx h1, ihy h2]
theorem Rs.good {M : List MC} (hM : OkM M) {t r : Ty} (h : Rs M t r) : Good t → Good r := by
  induction h with
  | stay _ => exact fun hg => hg
  | put hs _ ih =>
    intro _
    obtain ⟨h1, h2, rfl⟩ := hs
    exact ih (Good.of (hM _ (List.getElem_mem h1) h2).1)
  | node _ _ ihx ihy =>
    intro hg
    cases hg with
    | node _ _ _ h hx hy => exact .node _ _ _ h (ihx hx) (ihy hy)
/-- the metavariables of a type come to an end -/
def Fin (M : List MC) (u : Ty) : Prop := u.op = 6 → u.n.toNat < M.length ∧ Ac (adjM M) u.n.toNat
theorem rs_all {M : List MC} {P : Ty → Prop} (hP : ∀ u : Ty, u.args = [] → Good u → P u → ∃ r, Rs M u r) {t : Ty} (h : GP P t) : ∃ r, Rs M t r := by
  induction h with
  | leaf op n s hg hp => exact hP _ rfl hg hp
  | node op x y _ _ _ ihx ihy =>
    obtain ⟨rx, hx⟩ := ihx
    obtain ⟨ry, hy⟩ := ihy
    exact ⟨_, .node hx hy⟩
/-- leaves of a type, by the numbers that it needs -/
theorem num_app {t : Ty} (hg : Good t) : ∀ (k : Nat) (l : List Int), wlk (numF 6) t k l = l ++ wlk (numF 6) t k [] := by
  induction hg with
  | var op n h1 h2 h3 => intro k l; rw [wlk_leaf, wlk_leaf]; unfold numF; split <;> simp
  | con s h1 h2 => intro k l; rw [wlk_leaf, wlk_leaf]; unfold numF; split <;> simp
  | node op x y h hx hy ihx ihy =>
    intro k l
    have e : ∀ l, numF 6 (.mk op 0 [] [x, y]) k l = l := fun l => if_neg (by show ¬ op = 6; omega)
    rw [wlk_node, wlk_node, e, e, ihy, ihx, ihy _ (wlk (numF 6) x k []), List.append_assoc]
theorem gp_num {t : Ty} (hg : Good t) : ∀ {S : Int → Prop} (k : Nat), (∀ x ∈ wlk (numF 6) t k [], S x) → GP (fun u => u.op = 6 → S u.n) t := by
  induction hg with
  | var op n h1 h2 h3 =>
    intro S k h
    refine .leaf op n [] (.var op n h1 h2 h3) (fun e => h n ?_)
    rw [wlk_leaf]
    unfold numF
    rw [if_pos e]
    simp [Ty.n]
  | con s h1 h2 => exact fun _ _ => .leaf 2 0 s (.con s h1 h2) (fun e => absurd e (by show ¬ (2 : Int) = 6; decide))
  | node op x y h hx hy ihx ihy =>
    intro S k hS
    have e : ∀ l, numF 6 (.mk op 0 [] [x, y]) k l = l := fun l => if_neg (by show ¬ op = 6; omega)
    rw [wlk_node, e, num_app hy] at hS
    exact .node op x y h (ihx k (fun z hz => hS z (List.mem_append_left _ hz))) (ihy (k + undN op) (fun z hz => hS z (List.mem_append_right _ hz)))
theorem gp_col {t : Ty} (hg : Good t) {S : Int → Prop} (h : ∀ x ∈ colT 6 t, S x) : GP (fun u => u.op = 6 → S u.n) t :=
  gp_num hg 0 (fun x hx => h x (by rw [← num_asc (op := 6) (by decide) hg, asc_mem]; exact hx))
theorem fin_val {M : List MC} (hM : OkM M) {n : Nat} (h1 : n < M.length) (hs : (M[n]'h1).sol = true) (ha : ∀ k ∈ adjM M n, Ac (adjM M) k) : GP (Fin M) (M[n]'h1).val := by
  obtain ⟨hp, hin⟩ := hM _ (List.getElem_mem h1) hs
  have hr := colT_range (Good.of hp)
  refine gp_col (Good.of hp) (S := fun z => z.toNat < M.length ∧ Ac (adjM M) z.toNat) (fun x hx => ?_)
  have := hin x hx
  have := hr x hx
  exact ⟨by omega, ha _ (by rw [adjM_sol h1 hs]; exact List.mem_map_of_mem hx)⟩
theorem rs_meta {M : List MC} (hM : OkM M) {n : Nat} (h : Ac (adjM M) n) : n < M.length → ∀ (z : Int) (s : List UInt8), z.toNat = n → ∃ r, Rs M (.mk 6 z s []) r := by
  induction h with
  | intro n ha ih =>
    intro h1 z s hz
    subst hz
    cases hs : (M[z.toNat]'h1).sol with
    | false => exact ⟨_, .stay (fun _ u ⟨_, h3, _⟩ => by rw [hs] at h3; cases h3)⟩
    | true =>
      obtain ⟨hp, hin⟩ := hM _ (List.getElem_mem h1) hs
      have hr := colT_range (Good.of hp)
      have hg : GP (fun u => u.op = 6 → u.n.toNat < M.length ∧ u.n.toNat ∈ adjM M z.toNat) (M[z.toNat]'h1).val := by
        refine gp_col (Good.of hp) (S := fun z' => z'.toNat < M.length ∧ z'.toNat ∈ adjM M z.toNat) (fun x hx => ?_)
        have := hin x hx
        have := hr x hx
        exact ⟨by omega, by rw [adjM_sol h1 hs]; exact List.mem_map_of_mem hx⟩
      obtain ⟨r, hr2⟩ := rs_all (M := M) (fun u hu hgu hP => by
        cases u with
        | mk op n s a =>
          have ha : a = [] := hu
          subst ha
          by_cases h6 : op = 6
          · subst h6
            obtain ⟨h4, h5⟩ := hP rfl
            exact ih _ h5 h4 n s rfl
          · exact ⟨_, .stay (fun e => absurd e h6)⟩) hg
      exact ⟨r, .put ⟨h1, hs, rfl⟩ hr2⟩
theorem rs_fin {M : List MC} (hM : OkM M) {t : Ty} (h : GP (Fin M) t) : ∃ r, Rs M t r :=
  rs_all (fun u hu _ hP => by
    cases u with
    | mk op n s a =>
      have ha : a = [] := hu
      subst ha
      by_cases h6 : op = 6
      · subst h6
        obtain ⟨h4, h5⟩ := hP rfl
        exact rs_meta hM h5 h4 n s rfl
      · exact ⟨_, .stay (fun e => absurd e h6)⟩) h
/-- what is put makes a type too large -/
def Bad (M : List MC) (t : Ty) : Prop := ∀ r, Rs M t r → isProper r = false
theorem Bad.left {M : List MC} (hM : OkM M) {op : Int} {x y : Ty} (hg : Good (.mk op 0 [] [x, y])) (h : Bad M x) : Bad M (.mk op 0 [] [x, y]) := by
  intro r hr
  cases hr with
  | node hx hy =>
    rename_i rx ry
    cases hg with
    | node _ _ _ ho hgx hgy =>
      cases hp : isProper (.mk op 0 [] [rx, ry]) with
      | false => rfl
      | true =>
        have hgr : Good (.mk op 0 [] [rx, ry]) := .node _ _ _ ho (hx.good hM hgx) (hy.good hM hgy)
        rw [proper_fit hgr] at hp
        have h2 := (fit_node hp).1
        rw [← proper_fit (hx.good hM hgx), h _ hx] at h2
        cases h2
theorem Bad.right {M : List MC} (hM : OkM M) {op : Int} {x y : Ty} (hg : Good (.mk op 0 [] [x, y])) (h : Bad M y) : Bad M (.mk op 0 [] [x, y]) := by
  intro r hr
  cases hr with
  | node hx hy =>
    rename_i rx ry
    cases hg with
    | node _ _ _ ho hgx hgy =>
      cases hp : isProper (.mk op 0 [] [rx, ry]) with
      | false => rfl
      | true =>
        have hgr : Good (.mk op 0 [] [rx, ry]) := .node _ _ _ ho (hx.good hM hgx) (hy.good hM hgy)
        rw [proper_fit hgr] at hp
        have h2 := (fit_node hp).2
        rw [← proper_fit (hy.good hM hgy), h _ hy] at h2
        cases h2
theorem Bad.put {M : List MC} {n : Int} {s : List UInt8} {u : Ty} (hs : Sol M n u) (h : Bad M u) : Bad M (.mk 6 n s []) := by
  intro r hr
  cases hr with
  | stay h2 => exact absurd hs (h2 rfl _)
  | put hs' hr => have := hs.one hs'; subst this; exact h _ hr

/-- a state: the values that are known, whether one was too large, and the blocks that are used -/
structure RSt where
  known : List (Nat × Value)
  big : Bool
  fp : Nat → Prop
/-- what is made of a leaf -/
def RQ (M : List MC) (t : Ty) (st : RSt) (r : Ty) (st' : RSt) : Prop := Good r ∧ (st'.big = false → st.big = false ∧ Rs M t r) ∧ (st'.big = true → st.big = true ∨ Bad M t)
theorem rr_rq {M : List MC} (hM : OkM M) {t r : Ty} {st st' : RSt} (h : RR (RQ M) t st r st') : Good t → RQ M t st r st' := by
  induction h with
  | leaf h => exact fun _ => h
  | node _ _ ihx ihy =>
    intro hg
    have hg2 := hg
    cases hg with
    | node _ _ _ ho hgx hgy =>
      obtain ⟨x1, x2, x3⟩ := ihx hgx
      obtain ⟨y1, y2, y3⟩ := ihy hgy
      refine ⟨.node _ _ _ ho x1 y1, fun h => ?_, fun h => ?_⟩
      · obtain ⟨h1, h2⟩ := y2 h
        obtain ⟨h3, h4⟩ := x2 h1
        exact ⟨h3, .node h4 h2⟩
      · rcases y3 h with h1 | h1
        · rcases x3 h1 with h2 | h2
          · exact .inl h2
          · exact .inr (h2.left hM hg2)
        · exact .inr (h1.right hM hg2)

end Ty
end Go.Proofs.Ytkedhnahgpmkaaa
