/- Texts of the law TypesResolves, joined. -/
import Derived.Test.YtkedhnahgpmkaaaRvD
import Derived.Test.YtkedhnahgpmkaaaRvB
import Derived.Test.YtkedhnahgpmkaaaRvC
import Derived.Test.YtkedhnahgpmkaaaTyAnewT
import Derived.Deep.RegionHeld3
import Derived.Laws.EntriesVeiled

/- The closure of resolved at leaves that stay. Conditions: the values of solved metavariables are proper. -/
namespace Go.Proofs.Ytkedhnahgpmkaaa
open Go.RowKit Go.Maps

namespace Ty
/-! the values that are known -/
def tokR : Value → Option (DataW Value × List MemPlace) := fun v => some (.held v, [])
def kmap : List (Nat × Value) → DataW Value
  | [] => .map []
  | p :: l => (kmap l).put (.int .i64 p.1) (.held p.2)
def kget (l : List (Nat × Value)) (n : Nat) : Option Value := (l.find? (fun p => decide (p.1 = n))).map (·.2)
theorem kget_cons (p : Nat × Value) (l : List (Nat × Value)) (n : Nat) : kget (p :: l) n = if p.1 = n then some p.2 else kget l n := by
  unfold kget
  rw [List.find?_cons]
  by_cases h : p.1 = n
  · simp [h]
  · simp [h]
theorem kget_mem {l : List (Nat × Value)} {n : Nat} {v : Value} (h : kget l n = some v) : (n, v) ∈ l := by
  induction l with
  | nil => cases h
  | cons p l ih =>
    rw [kget_cons] at h
    split at h
    · rename_i hp
      injection h with h
      subst hp h
      exact List.mem_cons_self
    · exact List.mem_cons_of_mem _ (ih h)
theorem kget_none {l : List (Nat × Value)} {n : Nat} (h : kget l n = none) : n ∉ l.map (·.1) := by
  induction l with
  | nil => simp
  | cons p l ih =>
    rw [kget_cons] at h
    split at h
    · cases h
    · rename_i hp
      rw [List.map_cons, List.mem_cons, not_or]
      exact ⟨fun e => hp e.symm, ih h⟩
theorem kmap_map : ∀ l, IsMap (kmap l)
  | [] => ⟨[], rfl⟩
  | p :: l => by
    obtain ⟨es, h⟩ := kmap_map l
    exact ⟨_, by rw [kmap, h]; rfl⟩
theorem kmap_at (l : List (Nat × Value)) (n : Nat) (z : DataW Value) : (kmap l).atKey (.int .i64 n) z = match kget l n with | some v => .held v | none => z := by
  induction l with
  | nil => rfl
  | cons p l ih =>
    rw [kmap, kget_cons]
    by_cases h : p.1 = n
    · rw [if_pos h, h, atKey_put_same (kmap_map l) (nlit_key n)]
    · rw [if_neg h, atKey_put_other (by intro e; injection e with _ e; exact h (by omega)), ih]
theorem kmap_has (l : List (Nat × Value)) (n : Nat) : has (kmap l) (.int .i64 n) = (kget l n).isSome := by
  induction l with
  | nil => rfl
  | cons p l ih =>
    rw [kmap, kget_cons]
    by_cases h : p.1 = n
    · rw [if_pos h, h, has_put_same (kmap_map l) (nlit_key n)]; rfl
    · rw [if_neg h, has_put_other (by intro e; injection e with _ e; exact h (by omega)), ih]

/-- what is known of a metavariable is right -/
def KnOk (M : List MC) (fp : Nat → Prop) (W : World) (p : Nat × Value) : Prop := ∃ r, (∀ (z : Int) (s : List UInt8), z.toNat = p.1 → Rs M (.mk 6 z s []) r) ∧ isProper r = true ∧ VO fp W r p.2
/-- the memory of the closure -/
structure RdI (M : List MC) (base : Option Addr) (cap C1 C2 C3 C4 bm B : Nat) (W : World) (st : RSt) : Prop where
  m1 : W.heap[C1]? = some (.cells #[.slice base M.length cap] 62 (0, 0))
  m2 : W.heap[C2]? = some (.cells #[.bool st.big] 4 (0, 0))
  m3 : W.heap[C3]? = some (.cells #[.map (some bm)] 120 (0, 0))
  m4 : W.heap[C4]? = some (.cells #[.func (.func 116) #[] #[.pointer (some ⟨C1, 0, none⟩), .pointer (some ⟨C2, 0, none⟩), .pointer (some ⟨C3, 0, none⟩), .pointer (some ⟨C4, 0, none⟩)]] 84 (0, 0))
  own : W.ownsMap Try.prog 3 tokR bm st.known.length (kmap st.known)
  vals : st.big = false → ∀ p ∈ st.known, KnOk M st.fp W p
  flt : ∀ x, st.fp x → x < W.heap.size
  fge : ∀ x, st.fp x → B ≤ x
  room : st.known.length + lft M.length (st.known.map (·.1)) ≤ M.length
theorem rd_hq {M : List MC} {base : Option Addr} {cap C1 C2 C3 C4 bm B : Nat} (h1 : C1 < B) (h2 : C2 < B) (h3 : C3 < B) (h4 : C4 < B) (hb : bm < B) : HQ (RdI M base cap C1 C2 C3 C4 bm B) RSt.fp B := by
  refine ⟨fun W W' st h hs hk => ?_, fun W st h => h.flt⟩
  refine ⟨(hk _ (.inl h1)).trans h.m1, (hk _ (.inl h2)).trans h.m2, (hk _ (.inl h3)).trans h.m3, (hk _ (.inl h4)).trans h.m4, ?_, fun hbig p hp => ?_, fun x hx => Nat.lt_of_lt_of_le (h.flt x hx) hs, h.fge, h.room⟩
  · obtain ⟨es, clock, hh, r⟩ := h.own
    exact ⟨es, clock, (hk _ (.inl hb)).trans hh, r⟩
  · obtain ⟨r, e1, e2, e3⟩ := h.vals hbig p hp
    exact ⟨r, e1, e2, e3.keep (fun _ h => h) (fun q v hq hc => (World.cell?_of_block (hk _ (.inr hq))).trans hc)⟩

section
variable {M : List MC} {base : Option Addr} {cap C1 C2 C3 C4 bm B : Nat} {w0 : World}
/-- what is made of a leaf, and which are known then -/
def RQS (M : List MC) (S : Nat → Prop) (t : Ty) (st : RSt) (r : Ty) (st' : RSt) : Prop := RQ M t st r st' ∧ ∀ p ∈ st'.known, p ∈ st.known ∨ S p.1
theorem RQS.mono {S S' : Nat → Prop} (hS : ∀ k, S k → S' k) {t r : Ty} {st st' : RSt} (h : RQS M S t st r st') : RQS M S' t st r st' := ⟨h.1, fun p hp => (h.2 p hp).imp id (hS _)⟩
theorem rr_mono {σ : Type} {Q Q' : Ty → σ → Ty → σ → Prop} (hQ : ∀ t st r st', Q t st r st' → Q' t st r st') {t r : Ty} {st st' : σ} (h : RR Q t st r st') : RR Q' t st r st' := by
  induction h with
  | leaf h => exact .leaf (hQ _ _ _ _ h)
  | node _ _ ihx ihy => exact .node ihx ihy
theorem rr_known {S : Nat → Prop} {t r : Ty} {st st' : RSt} (h : RR (RQS M S) t st r st') : ∀ p ∈ st'.known, p ∈ st.known ∨ S p.1 := by
  induction h with
  | leaf h => exact h.2
  | node _ _ ihx ihy =>
    intro p hp
    rcases ihy p hp with h1 | h1
    · exact ihx p h1
    · exact .inr h1
theorem rr_rqs (hM : OkM M) {S : Nat → Prop} {t r : Ty} {st st' : RSt} (h : RR (RQS M S) t st r st') (hg : Good t) : RQS M S t st r st' :=
  ⟨rr_rq hM (rr_mono (fun _ _ _ _ h => h.1) h) hg, rr_known h⟩
/-- what is returned where a leaf stays -/
theorem rd_stay (hq : HQ (RdI M base cap C1 C2 C3 C4 bm B) RSt.fp B) {S : Nat → Prop} {op n : Int} {s : List UInt8} (hg : Good (.mk op n s [])) {W W' : World} {st : RSt} (hi : RdI M base cap C1 C2 C3 C4 bm B W st) (hw : B ≤ W.heap.size) (hb : Below W.heap.size W W') (hr : st.big = false → Rs M (.mk op n s []) (.mk op n s [])) {lo : Nat} :
    RebQ (RQS M S) (.mk op n s []) st (RdI M base cap C1 C2 C3 C4 bm B) RSt.fp lo B W (.returned (.agg #[.int .i64 op, .int .i64 n, .string ⟨s.toArray⟩, .slice none 0 0])) W' :=
  ⟨_, st, _, rfl, ⟨none, 0, rfl, leaf_len hg, Nat.zero_le _, .inl rfl⟩, Gr.of hb, hq.next hi hw hb, fun _ h => .inl h, .leaf ⟨⟨hg, fun h => ⟨h, hr h⟩, fun h => .inl h⟩, fun _ h => .inl h⟩⟩

set_option maxHeartbeats 4000000 in
/-- no metavariable -/
theorem resd_other (hq : HQ (RdI M base cap C1 C2 C3 C4 bm B) RSt.fp B) (S : Nat → Prop) (lo : Nat) (W : World) (op n : Int) (s : List UInt8) (k : Nat) (st : RSt) (hg : Good (.mk op n s [])) (h6 : op ≠ 6) (hi : RdI M base cap C1 C2 C3 C4 bm B W st) (hw : B ≤ W.heap.size) :
    Calls Try.prog 116 #[.agg #[.int .i64 op, .int .i64 n, .string ⟨s.toArray⟩, .slice none 0 0], .int .i64 k, .pointer (some ⟨C1, 0, none⟩), .pointer (some ⟨C2, 0, none⟩), .pointer (some ⟨C3, 0, none⟩), .pointer (some ⟨C4, 0, none⟩)] W (RebQ (RQS M S) (.mk op n s []) st (RdI M base cap C1 C2 C3 C4 bm B) RSt.fp lo B W) := by
  have HP := Lib.hid (fun (W' : World) (hb : Below W.heap.size W W') => rd_stay (S := S) (lo := lo) hq hg hi hw hb (fun _ => .stay (fun e => absurd e h6)))
  obtain ⟨ht2, _⟩ := two_boxes W (.int .i64 op) (.int .i64 n) (.string ⟨s.toArray⟩) (.slice none 0 0) (.int .i64 0) (.int .i64 0) (.string ⟨#[]⟩) (.slice none 0 0)
  obtain ⟨_, ht4⟩ := two_boxes W (.int .i64 op) (.int .i64 n) (.string ⟨s.toArray⟩) (.slice none 0 0) (.int .i64 op) (.int .i64 n) (.string ⟨s.toArray⟩) (.slice none 0 0)
  have HT4 := Lib.hid ht4
  obtain ⟨c0, c1, c2, c3⟩ := ht2.cells
  have q1 : (op != 6) = true := by simpa using h6
  clear ht2 ht4 hi hg h6
  go_enter Try.func116, Try.ntmps116
  go_wp2_with fail
  refine bodyPost_ret (results_ty (a := 8) (by kernel_rfl) (B := W.heap.size + 1) (by rfl) HT4.out.cells.1 HT4.out.cells.2.1 HT4.out.cells.2.2.1 HT4.out.cells.2.2.2) rfl ?_
  exact HP.out _ (below_two _ _ _)
set_option maxHeartbeats 4000000 in
/-- a metavariable that is not solved -/
theorem resd_un (hq : HQ (RdI M base cap C1 C2 C3 C4 bm B) RSt.fp B) (S : Nat → Prop) (W : World) (n : Nat) (k : Nat) (st : RSt) (hg : Good (.mk 6 n [] [])) (hn : n < M.length) (hms : Ms w0 base M) (hb0 : Below w0.heap.size w0 W) (hs : (M[n]'hn).sol = false) (hi : RdI M base cap C1 C2 C3 C4 bm B W st) (hw : B ≤ W.heap.size) :
    Calls Try.prog 116 #[.agg #[.int .i64 6, .int .i64 n, .string ⟨#[]⟩, .slice none 0 0], .int .i64 k, .pointer (some ⟨C1, 0, none⟩), .pointer (some ⟨C2, 0, none⟩), .pointer (some ⟨C3, 0, none⟩), .pointer (some ⟨C4, 0, none⟩)] W (RebQ (RQS M S) (.mk 6 n [] []) st (RdI M base cap C1 C2 C3 C4 bm B) RSt.fp w0.heap.size B W) := by
  have HP := Lib.hid (fun (W' : World) (hb : Below W.heap.size W W') => rd_stay (S := S) (lo := w0.heap.size) hq hg hi hw hb (fun _ => .stay (fun _ u ⟨_, h3, _⟩ => by simp only [Int.toNat_natCast] at h3; rw [hs] at h3; cases h3)))
  obtain ⟨ht2, _⟩ := two_boxes W (.int .i64 6) (.int .i64 n) (.string ⟨#[]⟩) (.slice none 0 0) (.int .i64 0) (.int .i64 0) (.string ⟨#[]⟩) (.slice none 0 0)
  obtain ⟨_, ht4⟩ := two_boxes W (.int .i64 6) (.int .i64 n) (.string ⟨#[]⟩) (.slice none 0 0) (.int .i64 6) (.int .i64 n) (.string ⟨#[]⟩) (.slice none 0 0)
  have hbb := below_two W (Obj.cells #[.int .i64 6, .int .i64 n, .string ⟨#[]⟩, .slice none 0 0] 24) (Obj.cells #[.int .i64 0, .int .i64 0, .string ⟨#[]⟩, .slice none 0 0] 24)
  have a1 := one_cell (hq.next hi hw hbb).m1
  obtain ⟨g, o, rfl, _, c5, _⟩ := (hms.next (hb0.trans (hbb.mono hb0.size))).at hn
  rw [hs] at c5
  have HT4 := Lib.hid ht4
  obtain ⟨c0, c1, c2, c3⟩ := ht2.cells
  clear ht2 ht4 hi hg hs hbb hms hb0
  go_enter Try.func116, Try.ntmps116
  go_wp2_with fail
  refine bodyPost_ret (results_ty (a := 8) (by kernel_rfl) (B := W.heap.size + 1) (by rfl) HT4.out.cells.1 HT4.out.cells.2.1 HT4.out.cells.2.2.1 HT4.out.cells.2.2.2) rfl ?_
  exact HP.out _ (below_two _ _ _)
set_option maxHeartbeats 4000000 in
/-- a value was too large -/
theorem resd_big (hq : HQ (RdI M base cap C1 C2 C3 C4 bm B) RSt.fp B) (S : Nat → Prop) (W : World) (n : Nat) (k : Nat) (st : RSt) (hg : Good (.mk 6 n [] [])) (hn : n < M.length) (hms : Ms w0 base M) (hb0 : Below w0.heap.size w0 W) (hs : (M[n]'hn).sol = true) (hbig : st.big = true) (hi : RdI M base cap C1 C2 C3 C4 bm B W st) (hw : B ≤ W.heap.size) :
    Calls Try.prog 116 #[.agg #[.int .i64 6, .int .i64 n, .string ⟨#[]⟩, .slice none 0 0], .int .i64 k, .pointer (some ⟨C1, 0, none⟩), .pointer (some ⟨C2, 0, none⟩), .pointer (some ⟨C3, 0, none⟩), .pointer (some ⟨C4, 0, none⟩)] W (RebQ (RQS M S) (.mk 6 n [] []) st (RdI M base cap C1 C2 C3 C4 bm B) RSt.fp w0.heap.size B W) := by
  have HP := Lib.hid (fun (W' : World) (hb : Below W.heap.size W W') => rd_stay (S := S) (lo := w0.heap.size) hq hg hi hw hb (fun h => by rw [hbig] at h; cases h))
  obtain ⟨ht2, _⟩ := two_boxes W (.int .i64 6) (.int .i64 n) (.string ⟨#[]⟩) (.slice none 0 0) (.int .i64 0) (.int .i64 0) (.string ⟨#[]⟩) (.slice none 0 0)
  obtain ⟨_, ht4⟩ := two_boxes W (.int .i64 6) (.int .i64 n) (.string ⟨#[]⟩) (.slice none 0 0) (.int .i64 6) (.int .i64 n) (.string ⟨#[]⟩) (.slice none 0 0)
  have hbb := below_two W (Obj.cells #[.int .i64 6, .int .i64 n, .string ⟨#[]⟩, .slice none 0 0] 24) (Obj.cells #[.int .i64 0, .int .i64 0, .string ⟨#[]⟩, .slice none 0 0] 24)
  have hin := hq.next hi hw hbb
  have a1 := one_cell hin.m1
  have a2 := one_cell hin.m2
  rw [hbig] at a2
  obtain ⟨g, o, rfl, _, c5, _⟩ := (hms.next (hb0.trans (hbb.mono hb0.size))).at hn
  rw [hs] at c5
  have HT4 := Lib.hid ht4
  obtain ⟨c0, c1, c2, c3⟩ := ht2.cells
  clear ht2 ht4 hi hg hs hbb hms hb0 hin hbig
  go_enter Try.func116, Try.ntmps116
  go_wp2_with fail
  refine bodyPost_ret (results_ty (a := 8) (by kernel_rfl) (B := W.heap.size + 1) (by rfl) HT4.out.cells.1 HT4.out.cells.2.1 HT4.out.cells.2.2.1 HT4.out.cells.2.2.2) rfl ?_
  exact HP.out _ (below_two _ _ _)

theorem known_zero : (zeroValue 24).run Try.prog = fun w => .ok (.agg #[.int .i64 0, .int .i64 0, .string ⟨#[]⟩, .slice none 0 0]) w := by kernel_rfl
theorem tok_inv {u v : Value} {d : DataW Value} {ps : List MemPlace} (hd : d = .held v) (h : tokR u = some (d, ps)) : u = v := by
  unfold tokR at h
  simp only [Option.some.injEq, Prod.mk.injEq] at h
  have := h.1.trans hd
  injection this
/-- known already -/
theorem kn_use {st : RSt} {W : World} {n : Nat} {v : Value} (hi : RdI M base cap C1 C2 C3 C4 bm B W st) (hbig : st.big = false) (hk : kget st.known n = some v) : ∃ r, (∀ (z : Int) (s : List UInt8), z.toNat = n → Rs M (.mk 6 z s []) r) ∧ isProper r = true ∧ VO st.fp W r v := hi.vals hbig _ (kget_mem hk)
set_option maxHeartbeats 8000000 in
set_option maxRecDepth 100000 in
theorem resd_found (hq : HQ (RdI M base cap C1 C2 C3 C4 bm B) RSt.fp B) (S : Nat → Prop) (W : World) (n : Nat) (k : Nat) (st : RSt) (hn : n < M.length) (hM6 : M.length ≤ 600) (hms : Ms w0 base M) (hb0 : Below w0.heap.size w0 W) (hs : (M[n]'hn).sol = true) (hbig : st.big = false) (v : Value) (hk : kget st.known n = some v) (hi : RdI M base cap C1 C2 C3 C4 bm B W st) (hw : B ≤ W.heap.size) :
    Calls Try.prog 116 #[.agg #[.int .i64 6, .int .i64 n, .string ⟨#[]⟩, .slice none 0 0], .int .i64 k, .pointer (some ⟨C1, 0, none⟩), .pointer (some ⟨C2, 0, none⟩), .pointer (some ⟨C3, 0, none⟩), .pointer (some ⟨C4, 0, none⟩)] W (RebQ (RQS M S) (.mk 6 n [] []) st (RdI M base cap C1 C2 C3 C4 bm B) RSt.fp w0.heap.size B W) := by
  obtain ⟨r, hrs, hrp, hrv⟩ := kn_use hi hbig hk
  obtain ⟨rb, rc, rfl, hr1, hr2⟩ := hrv
  have hrv : VO st.fp W r (.agg #[.int .i64 r.op, .int .i64 r.n, .string r.name, .slice rb r.args.length rc]) := ⟨rb, rc, rfl, hr1, hr2⟩
  have hat := kmap_at st.known n (.held (.agg #[.int .i64 0, .int .i64 0, .string ⟨#[]⟩, .slice none 0 0]))
  have hhas := kmap_has st.known n
  rw [hk] at hat hhas
  have hhas : has (kmap st.known) (.int .i64 n) = true := hhas
  have hat : (kmap st.known).atKey (.int .i64 n) (.held (.agg #[.int .i64 0, .int .i64 0, .string ⟨#[]⟩, .slice none 0 0])) = .held (.agg #[.int .i64 r.op, .int .i64 r.n, .string r.name, .slice rb r.args.length rc]) := hat
  obtain ⟨ht2, hz2⟩ := two_boxes W (.int .i64 6) (.int .i64 n) (.string ⟨#[]⟩) (.slice none 0 0) (.int .i64 0) (.int .i64 0) (.string ⟨#[]⟩) (.slice none 0 0)
  have hbb := below_two W (Obj.cells #[.int .i64 6, .int .i64 n, .string ⟨#[]⟩, .slice none 0 0] 24) (Obj.cells #[.int .i64 0, .int .i64 0, .string ⟨#[]⟩, .slice none 0 0] 24)
  have hin := hq.next hi hw hbb
  obtain ⟨W2, hW2⟩ : ∃ W2, W2 = (W.alloc (Obj.cells #[.int .i64 6, .int .i64 n, .string ⟨#[]⟩, .slice none 0 0] 24)).alloc (Obj.cells #[.int .i64 0, .int .i64 0, .string ⟨#[]⟩, .slice none 0 0] 24) := ⟨_, rfl⟩
  have hsz : W2.heap.size = W.heap.size + 2 := by rw [hW2]; simp
  rw [← hW2] at ht2 hz2 hbb hin
  have a1 := one_cell hin.m1
  have a2 := one_cell hin.m2
  have a3 := one_cell hin.m3
  rw [hbig] at a2
  obtain ⟨g, o, rfl, _, c5, _⟩ := (hms.next (hb0.trans (hbb.mono hb0.size))).at hn
  rw [hs] at c5
  have HKEY : Hid (keyOf Try.prog 3 (.int .i64 n) = some (Lit.int .i64 n)) := Lib.hid (keyOf_int_mk Try.underlying3 (int_wf (by omega)))
  have HOWN := Lib.hid hin.own
  have HAT := Lib.hid hat
  have HHAS := Lib.hid hhas
  have HZ : Hid ((zeroValue 24).run Try.prog W2 = .ok (.agg #[.int .i64 0, .int .i64 0, .string ⟨#[]⟩, .slice none 0 0]) W2) := Lib.hid (congrFun known_zero W2)
  have HB := Lib.hid hbb
  have HI := Lib.hid hi
  have HT := Lib.hid hz2
  have HSZ := Lib.hid hsz
  have HV : Hid (V W2 r (.agg #[.int .i64 r.op, .int .i64 r.n, .string r.name, .slice rb r.args.length rc])) := Lib.hid (hrv.weak.next hbb)
  have HRG : Hid (Good r) := Lib.hid (Good.of hrp)
  have HRS := Lib.hid (hrs n [] (by simp))
  obtain ⟨c0, c1, c2, c3⟩ := ht2.cells
  clear ht2 hz2 hbb hin hs hat hhas hk hrs hrp hrv hms hb0 hsz
  go_enter Try.func116, Try.ntmps116
  go_upto_region 1 with fail
  rw [← hW2]
  clear hW2
  have HAN := Lib.hid (fun (W' : World) (hb : B4 W' W2.heap.size (.int .i64 r.op) (.int .i64 r.n) (.string r.name) (.slice rb r.args.length rc)) (hv : V W' r (.agg #[.int .i64 r.op, .int .i64 r.n, .string r.name, .slice rb r.args.length rc])) => anewp_any HRG.out W' W2.heap.size 0 (at_box hb hv))
  have HNX := Lib.hid (fun (W' : World) (hb : Below W.heap.size W W') => hq.next hi hw hb)
  generalize r.op = r0 at *
  generalize r.n = r1 at *
  generalize r.name = r2 at *
  generalize r.args.length = r3 at *
  have HQT : Hid (∀ W', Below W.heap.size W W' → ∀ v', VO (W.heap.size ≤ ·) W' r v' → RebQ (RQS M S) (.mk 6 n [] []) st (RdI M (some ⟨g, o, none⟩) cap C1 C2 C3 C4 bm B) RSt.fp w0.heap.size B W (.returned v') W') := Lib.hid (fun W' hb v' hv' => ⟨r, st, v', rfl, hv', Gr.of hb, HNX.out W' hb, fun _ h => .inl h, .leaf ⟨⟨HRG.out, fun h => ⟨h, HRS.out⟩, fun h => .inl h⟩, fun _ h => .inl h⟩⟩)
  clear hr1 hr2 hi
  go_wp2_with (at_lookup; go_loud (refine wpList_lookup_own_ok _ rfl _ _ 120 rfl 3 24 ikeys Try.underlying120 tokR HZ.out (.held (.agg #[.int .i64 0, .int .i64 0, .string ⟨#[]⟩, .slice none 0 0])) [] rfl bm st.known.length (kmap st.known) rfl HOWN.out _ (.int .i64 n) rfl HKEY.out ?_; intro u ps hu; rw [HHAS.out]; have hu2 := tok_inv HAT.out hu; subst hu2; clear hu))
  have hal : Below W2.heap.size W2 (W2.alloc (Obj.cells #[.int .i64 r0, .int .i64 r1, .string r2, .slice rb r3 rc] 24)) := (Below.refl _ _).alloc (Nat.le_refl _) _
  have HAL := Lib.hid hal
  refine (HAN.out _ (heap_alloc_new _ _) (HV.out.next hal)).mono ?_
  rintro e w3 ⟨v3, rfl, ⟨b9, c9, rfl, hs9, hl9⟩, hb3⟩
  have HB3 := Lib.hid (hal.trans (hb3.mono hal.size))
  have HV9 : Hid (VO (W2.heap.size ≤ ·) w3 r _) := Lib.hid (VO.keep (ok' := (W2.heap.size ≤ ·)) (fun g hg => Nat.le_trans hal.size hg) (fun _ _ _ h => h) ⟨b9, c9, rfl, hs9, hl9⟩)
  have HT3 := Lib.hid (HT.out.next HB3.out)
  clear hal hs9 hl9 hb3 a1 a2 a3 c0 c1 c2 c3 c5 HT HOWN HAT HHAS HAN HV
  obtain ⟨z0, z1, z2, z3⟩ := HT3.out.cells
  have f0 := HT3.out.frozen 0
  have f1 := HT3.out.frozen 1
  have f2 := HT3.out.frozen 2
  have f3 := HT3.out.frozen 3
  go_wp2_with fail
  refine bodyPost_ret (results_ty (a := 8) (by kernel_rfl) (B := W.heap.size + 1) (by rfl) (put4_cells HT3.out _ _ _ _).cells.1 (put4_cells HT3.out _ _ _ _).cells.2.1 (put4_cells HT3.out _ _ _ _).cells.2.2.1 (put4_cells HT3.out _ _ _ _).cells.2.2.2) rfl ?_
  have hsz := HSZ.out
  refine HQT.out _ ((HB.out.trans (HB3.out.mono HB.out.size)).trans (below_put4' (by omega) _ _ _ _)) _ (HV9.out.keep (fun g hg => by show W.heap.size ≤ g; have : W2.heap.size ≤ g := hg; omega) (fun p v hp hc => put4_keep _ _ _ _ p v hc (by have : W2.heap.size ≤ p.block := hp; omega)))
end

end Ty
end Go.Proofs.Ytkedhnahgpmkaaa

/- The closure of resolved at a metavariable whose value is not known yet. Conditions: the values of solved metavariables are proper. -/
namespace Go.Proofs.Ytkedhnahgpmkaaa
open Go.RowKit Go.Maps

namespace Ty
theorem keep_put {w : World} {B b o : Nat} {v0 v1 v2 v3 v : Value} (h : w.cell? ⟨b, o, none⟩ = some v) (hp : b ≠ B) : ((((w.setCell ⟨B, 0, none⟩ v0).setCell ⟨B, 1, none⟩ v1).setCell ⟨B, 2, none⟩ v2).setCell ⟨B, 3, none⟩ v3).cell? ⟨b, o, none⟩ = some v := put4_keep v0 v1 v2 v3 _ v h hp
section
variable {M : List MC} {base : Option Addr} {cap C1 C2 C3 C4 bm B : Nat} {w0 : World}

/-- what is not in X stays -/
structure Ex (X : Nat → Prop) (a b : World) : Prop where
  os : b.os = a.os
  tape : b.tape = a.tape
  output : b.output = a.output
  size : a.heap.size ≤ b.heap.size
  block : ∀ j, j < a.heap.size → ¬ X j → b.heap[j]? = a.heap[j]?
theorem Ex.of_below {X : Nat → Prop} {a b : World} (h : Below a.heap.size a b) : Ex X a b := ⟨h.os, h.tape, h.output, h.size, fun j hj _ => h.block j hj⟩
theorem Ex.trans {X : Nat → Prop} {a b c : World} (h : Ex X a b) (k : Ex X b c) : Ex X a c :=
  ⟨k.os.trans h.os, k.tape.trans h.tape, k.output.trans h.output, Nat.le_trans h.size k.size, fun j hj hx => (k.block j (Nat.lt_of_lt_of_le hj h.size) hx).trans (h.block j hj hx)⟩
theorem Ex.put4 {X : Nat → Prop} {a : World} {B : Nat} (hX : X B) (v0 v1 v2 v3 : Value) : Ex X a (Ty.put4 a B v0 v1 v2 v3) :=
  ⟨rfl, rfl, rfl, by simp [Ty.put4, World.setCell], fun j _ hx => put4_other (fun e => hx (by subst e; exact hX)) _ _ _ _⟩
theorem Ex.setCell {X : Nat → Prop} {a : World} {B o : Nat} (hX : X B) (v : Value) : Ex X a (a.setCell ⟨B, o, none⟩ v) :=
  ⟨rfl, rfl, rfl, by simp [World.setCell], fun _ _ hx => Below.heap_setCell _ _ _ _ (fun e => hx (by subst e; exact hX))⟩
theorem Ex.of_grown {X : Nat → Prop} {a b : World} {m : Nat} (hX : X m) (h : a.grownBy b (some m)) : Ex X a b := ⟨h.os, h.tape, h.output, h.size, fun j hj hx => h.block j hj (fun e => hx (by injection e with e; exact e ▸ hX))⟩
theorem own_heap {w w' : World} {b n : Nat} {D : DataW Value} (h : w.ownsMap Try.prog 3 tokR b n D) (hh : w'.heap[b]? = w.heap[b]?) : w'.ownsMap Try.prog 3 tokR b n D := by
  obtain ⟨es, clock, e, r⟩ := h
  exact ⟨es, clock, hh.trans e, r⟩
theorem Sol.nat {M : List MC} {n : Nat} {z : Int} {u : Ty} (h : Sol M n u) (hz : z.toNat = n) : Sol M z u := by
  subst hz
  obtain ⟨h1, h2, h3⟩ := h
  simp only [Int.toNat_natCast] at h1 h2 h3
  exact ⟨h1, h2, h3⟩
/-- the state behind a value that is new -/
def nextS (n : Nat) (v5 : Value) (r5 : Ty) (S3 s5 : Nat) (st5 : RSt) : RSt := ⟨(n, v5) :: st5.known, st5.big || !(isProper r5), fun x => st5.fp x ∨ (S3 ≤ x ∧ x < s5)⟩
theorem resd_end (hM : OkM M) (h1 : C1 < B) (h2 : w0.heap.size ≤ C2 ∧ C2 < B) (h3 : C3 < B) (h4 : C4 < B) (hbm : w0.heap.size ≤ bm ∧ bm < B) (hc1 : C1 ≠ C2) (hc3 : C3 ≠ C2) (hc4 : C4 ≠ C2) {W w5 Wf : World} {st st5 : RSt} {r5 u : Ty} {v5 vf : Value} {n : Nat} (hn : n < M.length) (hac : Ac (adjM M) n) (hw : B ≤ W.heap.size) (hi : RdI M base cap C1 C2 C3 C4 bm B W st) (hbig : st.big = false) (hk : n ∉ st.known.map (·.1)) (hsol : Sol M n u) (hgu : Good u)
    (hG : Gr w0.heap.size B W w5) (hi5 : RdI M base cap C1 C2 C3 C4 bm B w5 st5) (hrr : RR (RQS M (fun k => Way (adjM M) k n)) u st r5 st5) (hV5 : VO (W.heap.size + 3 ≤ ·) w5 r5 v5) (hF5 : ∀ x, st5.fp x → st.fp x ∨ W.heap.size + 3 ≤ x)
    (hEx : Ex (fun x => x = W.heap.size + 2 ∨ x = bm ∨ x = C2 ∨ x = W.heap.size + 1) w5 Wf) (hm2 : Wf.heap[C2]? = some (.cells #[.bool (st5.big || !(isProper r5))] 4 (0, 0)))
    (hown : Wf.ownsMap Try.prog 3 tokR bm (st5.known.length + 1) ((kmap st5.known).put (.int .i64 n) (.held v5))) (hvf : VO (W.heap.size ≤ ·) Wf r5 vf) :
    RebQ (RQS M (fun k => k = n ∨ Way (adjM M) k n)) (.mk 6 n [] []) st (RdI M base cap C1 C2 C3 C4 bm B) RSt.fp w0.heap.size B W (.returned vf) Wf := by
  obtain ⟨⟨hr5, hq1, hq2⟩, hkn⟩ := rr_rqs hM hrr hgu
  have hsz5 := hG.size
  have hnb : ∀ {c : Nat} {cs : Array Value} {t : TypeId} {z : Nat × Nat}, w5.heap[c]? = some (.cells cs t z) → c ≠ bm := fun {c cs t z} hc e => by
    obtain ⟨es, clock, hb, _⟩ := hi5.own
    rw [e, hb] at hc
    injection hc with hc
    cases hc
  have hkeep : ∀ {c : Nat} {cs : Array Value} {t : TypeId} {z : Nat × Nat}, c < B → c ≠ C2 → w5.heap[c]? = some (.cells cs t z) → Wf.heap[c]? = some (.cells cs t z) := fun {c cs t z} hB hC hc =>
    (hEx.block c (lt_of_block hc) (fun hx => by have := hnb hc; omega)).trans hc
  have hfpk : ∀ x, st5.fp x → Wf.heap[x]? = w5.heap[x]? := fun x hx => hEx.block x (hi5.flt x hx) (fun h => by
    have h5 := hi5.fge x hx
    rcases hF5 x hx with h6 | h6
    · have := hi.flt x h6; omega
    · omega)
  have hnk : n ∉ st5.known.map (·.1) := fun h => by
    obtain ⟨p, hp, he⟩ := List.mem_map.mp h
    rcases hkn p hp with h5 | h5
    · exact hk (List.mem_map.mpr ⟨p, h5, he⟩)
    · rw [he] at h5
      exact ac_no hac h5
  refine ⟨r5, nextS n v5 r5 (W.heap.size + 3) w5.heap.size st5, vf, rfl, hvf, ⟨hEx.os.trans hG.os, hEx.tape.trans hG.tape, hEx.output.trans hG.output, Nat.le_trans hG.size hEx.size, fun j hj hd => (hEx.block j (Nat.lt_of_lt_of_le hj hG.size) (by omega)).trans (hG.block j hj hd)⟩, ?_, fun x hx => ?_, .leaf ⟨⟨hr5, fun h => ⟨hbig, ?_⟩, fun h => ?_⟩, fun p hp => ?_⟩⟩
  · refine ⟨hkeep h1 hc1 hi5.m1, hm2, hkeep h3 hc3 hi5.m3, hkeep h4 hc4 hi5.m4, hown, fun hb p hp => ?_, fun x hx => ?_, fun x hx => ?_, ?_⟩
    · have hb' : (st5.big || !(isProper r5)) = false := hb
      rw [Bool.or_eq_false_iff] at hb'
      obtain ⟨hb5, hp5⟩ := hb'
      have hp5 : isProper r5 = true := by simpa using hp5
      rcases List.mem_cons.mp hp with rfl | hp
      · refine ⟨r5, fun z s hz => .put (hsol.nat hz) (hq1 hb5).2, hp5, ?_⟩
        exact hV5.bound.keep (fun g hg => .inr hg) (fun q v hq hc => (World.cell?_of_block (hEx.block q.block hq.2 (by have := hq.1; omega))).trans hc)
      · obtain ⟨r, e1, e2, e3⟩ := hi5.vals hb5 p hp
        exact ⟨r, e1, e2, e3.keep (fun g hg => .inl hg) (fun q v hq hc => (World.cell?_of_block (hfpk _ hq)).trans hc)⟩
    · rcases hx with hx | hx
      · exact Nat.lt_of_lt_of_le (hi5.flt x hx) hEx.size
      · exact Nat.lt_of_lt_of_le hx.2 hEx.size
    · rcases hx with hx | hx
      · exact hi5.fge x hx
      · omega
    · show (st5.known.length + 1) + lft M.length (n :: st5.known.map (·.1)) ≤ M.length
      have := lft_lt hn hnk
      have := hi5.room
      omega
  · rcases hx with hx | hx
    · rcases hF5 x hx with h5 | h5
      · exact .inl h5
      · exact .inr (by omega)
    · exact .inr (by omega)
  · have hb' : (st5.big || !(isProper r5)) = false := h
    rw [Bool.or_eq_false_iff] at hb'
    exact .put (hsol.nat (by simp)) (hq1 hb'.1).2
  · have hb' : (st5.big || !(isProper r5)) = true := h
    cases hb5 : st5.big with
    | true =>
      rcases hq2 hb5 with h5 | h5
      · exact .inl h5
      · exact .inr (h5.put (hsol.nat (by simp)))
    | false =>
      rw [hb5, Bool.false_or] at hb'
      refine .inr (fun r hr => ?_)
      have := hr.one (.put (hsol.nat (by simp)) (hq1 hb5).2)
      rw [this]
      simpa using hb'
  · rcases List.mem_cons.mp hp with rfl | hp
    · exact .inr (.inl rfl)
    · rcases hkn p hp with h5 | h5
      · exact .inl h5
      · exact .inr (.inr h5)

set_option maxHeartbeats 16000000 in
set_option maxRecDepth 100000 in
theorem resd_new (hM : OkM M) (h1 : C1 < B) (h2 : w0.heap.size ≤ C2 ∧ C2 < B) (h3 : C3 < B) (h4 : C4 < B) (hbm : w0.heap.size ≤ bm ∧ bm < B) (hc1 : C1 ≠ C2) (hc3 : C3 ≠ C2) (hc4 : C4 ≠ C2) (W : World) (n : Nat) (k : Nat) (st : RSt) (hn : n < M.length) (hM6 : M.length ≤ 600) (hac : Ac (adjM M) n) (hms : Ms w0 base M) (hb0 : Below w0.heap.size w0 W) (hs : (M[n]'hn).sol = true) (hbig : st.big = false) (hk : kget st.known n = none) (hi : RdI M base cap C1 C2 C3 C4 bm B W st) (hw : B ≤ W.heap.size)
    (HREP : ∀ (W' : World) (v : Value), V w0 (M[n]'hn).val v → Below w0.heap.size w0 W' → B ≤ W'.heap.size → RdI M base cap C1 C2 C3 C4 bm B W' st → Calls Try.prog 67 #[v, .func (.func 116) #[] #[.pointer (some ⟨C1, 0, none⟩), .pointer (some ⟨C2, 0, none⟩), .pointer (some ⟨C3, 0, none⟩), .pointer (some ⟨C4, 0, none⟩)]] W' (RebQ (RQS M (fun k => Way (adjM M) k n)) (M[n]'hn).val st (RdI M base cap C1 C2 C3 C4 bm B) RSt.fp w0.heap.size B W')) :
    Calls Try.prog 116 #[.agg #[.int .i64 6, .int .i64 n, .string ⟨#[]⟩, .slice none 0 0], .int .i64 k, .pointer (some ⟨C1, 0, none⟩), .pointer (some ⟨C2, 0, none⟩), .pointer (some ⟨C3, 0, none⟩), .pointer (some ⟨C4, 0, none⟩)] W (RebQ (RQS M (fun k => k = n ∨ Way (adjM M) k n)) (.mk 6 n [] []) st (RdI M base cap C1 C2 C3 C4 bm B) RSt.fp w0.heap.size B W) := by
  have hq : HQ (RdI M base cap C1 C2 C3 C4 bm B) RSt.fp B := rd_hq h1 h2.2 h3 h4 hbm.2
  have hat := kmap_at st.known n (.held (.agg #[.int .i64 0, .int .i64 0, .string ⟨#[]⟩, .slice none 0 0]))
  have hhas := kmap_has st.known n
  rw [hk] at hat hhas
  replace hhas : has (kmap st.known) (.int .i64 n) = false := hhas
  replace hat : (kmap st.known).atKey (.int .i64 n) (.held (.agg #[.int .i64 0, .int .i64 0, .string ⟨#[]⟩, .slice none 0 0])) = .held (.agg #[.int .i64 0, .int .i64 0, .string ⟨#[]⟩, .slice none 0 0]) := hat
  obtain ⟨ht2, hz2⟩ := two_boxes W (.int .i64 6) (.int .i64 n) (.string ⟨#[]⟩) (.slice none 0 0) (.int .i64 0) (.int .i64 0) (.string ⟨#[]⟩) (.slice none 0 0)
  have hbb := below_two W (Obj.cells #[.int .i64 6, .int .i64 n, .string ⟨#[]⟩, .slice none 0 0] 24) (Obj.cells #[.int .i64 0, .int .i64 0, .string ⟨#[]⟩, .slice none 0 0] 24)
  have hin := hq.next hi hw hbb
  obtain ⟨W2, hW2⟩ : ∃ W2, W2 = (W.alloc (Obj.cells #[.int .i64 6, .int .i64 n, .string ⟨#[]⟩, .slice none 0 0] 24)).alloc (Obj.cells #[.int .i64 0, .int .i64 0, .string ⟨#[]⟩, .slice none 0 0] 24) := ⟨_, rfl⟩
  have hsz : W2.heap.size = W.heap.size + 2 := by rw [hW2]; simp
  rw [← hW2] at ht2 hz2 hbb hin
  have a1 := one_cell hin.m1
  have a2 := one_cell hin.m2
  have a3 := one_cell hin.m3
  have a4 := one_cell hin.m4
  rw [hbig] at a2
  obtain ⟨g, o, rfl, -, c5, ⟨c6, c7, c8, c9⟩, hvx⟩ := (hms.next (hb0.trans (hbb.mono hb0.size))).at hn
  rw [hs] at c5
  have HKEY : Hid (keyOf Try.prog 3 (.int .i64 n) = some (Lit.int .i64 n)) := Lib.hid (keyOf_int_mk Try.underlying3 (int_wf (by omega)))
  have HOWN := Lib.hid hin.own
  have HAT := Lib.hid hat
  have HHAS := Lib.hid hhas
  have HZ : Hid ((zeroValue 24).run Try.prog W2 = .ok (.agg #[.int .i64 0, .int .i64 0, .string ⟨#[]⟩, .slice none 0 0]) W2) := Lib.hid (congrFun known_zero W2)
  have HB := Lib.hid hbb
  have HI := Lib.hid hi
  have HIN := Lib.hid hin
  have HTA := Lib.hid ht2
  have HT := Lib.hid hz2
  have HSZ := Lib.hid hsz
  have HCELL := Lib.hid (fun (W' : World) (h : Below w0.heap.size w0 W') => (hms.next h).cell hn)
  have HVAL : Hid (V w0 (M[n]'hn).val (.agg #[.int .i64 (M[n]'hn).val.op, .int .i64 (M[n]'hn).val.n, .string (M[n]'hn).val.name, .slice (M[n]'hn).b (M[n]'hn).val.args.length (M[n]'hn).cap])) := Lib.hid (hms.cell hn).2.2
  have HGB : Hid (g < w0.heap.size) := Lib.hid (World.block_lt_of_cell? w0 _ (hms.cell hn).1)
  have HSOL : Hid (Sol M n (M[n]'hn).val) := Lib.hid ⟨by simpa using hn, by simpa using hs, by simp⟩
  have HGV : Hid (Good (M[n]'hn).val) := Lib.hid (Good.of (hM _ (List.getElem_mem hn) hs).1)
  have HRP := Lib.hid HREP
  obtain ⟨x, hx⟩ : ∃ x, x = M[n]'hn := ⟨_, rfl⟩
  rw [← hx] at c6 c7 c8 c9 HCELL HVAL HSOL HGV HRP
  clear HREP hs hvx
  clear hx
  generalize x.val.op = x0 at *
  generalize x.val.n = x1 at *
  generalize x.val.name = x2 at *
  generalize x.val.args.length = x3 at *
  generalize x.b = x4 at *
  generalize x.cap = x5 at *
  have HRPC := Lib.hid (fun (W' : World) (hb : Below w0.heap.size w0 W') (hw : B ≤ W'.heap.size) (hi : RdI M (some ⟨g, o, none⟩) cap C1 C2 C3 C4 bm B W' st) => HRP.out W' _ HVAL.out hb hw hi)
  obtain ⟨c0, c1, c2, c3⟩ := ht2.cells
  have HHK := Lib.hid hk
  have HHN := Lib.hid hn
  have HHB := Lib.hid hb0
  have HAC := Lib.hid hac
  clear ht2 hz2 hbb hin hi hat hhas hk hms hb0 hsz hac hn HRP
  go_enter Try.func116, Try.ntmps116
  go_upto_region 1 with fail
  rw [← hW2]
  clear hW2
  go_upto_region 5 with (at_lookup; go_loud (refine wpList_lookup_own_ok _ rfl _ _ 120 rfl 3 24 ikeys Try.underlying120 tokR HZ.out (.held (.agg #[.int .i64 0, .int .i64 0, .string ⟨#[]⟩, .slice none 0 0])) [] rfl bm st.known.length (kmap st.known) rfl HOWN.out _ (.int .i64 n) rfl HKEY.out ?_; intro u ps hu; rw [HHAS.out]; have hu2 := tok_inv HAT.out hu; subst hu2; clear hu))
  have hal : Below W2.heap.size W2 (W2.alloc (Obj.cells #[.int .i64 0, .int .i64 0, .string ⟨#[]⟩, .slice none 0 0] 24)) := (Below.refl _ _).alloc (Nat.le_refl _) _
  have hnew : B4 (W2.alloc (Obj.cells #[.int .i64 0, .int .i64 0, .string ⟨#[]⟩, .slice none 0 0] 24)) W2.heap.size (.int .i64 0) (.int .i64 0) (.string ⟨#[]⟩) (.slice none 0 0) := two_B4
  obtain ⟨W3, hW3⟩ : ∃ W3, W3 = W2.alloc (Obj.cells #[.int .i64 0, .int .i64 0, .string ⟨#[]⟩, .slice none 0 0] 24) := ⟨_, rfl⟩
  have HS3 : Hid (W3.heap.size = W2.heap.size + 1) := Lib.hid (by rw [hW3]; simp)
  rw [← hW3] at hal hnew ⊢
  clear hW3
  have HI3 := Lib.hid (hq.next HIN.out (by have := HSZ.out; omega) hal)
  have HB3 : Hid (Below w0.heap.size w0 W3) := Lib.hid ((HHB.out.trans (HB.out.mono HHB.out.size)).trans (hal.mono (by have := HHB.out.size; have := HB.out.size; omega)))
  have HTA3 := Lib.hid (HTA.out.next hal)
  have HT3 := Lib.hid (HT.out.next hal)
  have HNEW := Lib.hid hnew
  have HAL := Lib.hid hal
  clear hal hnew a1 a2 a3 a4 c0 c1 c2 c3 c5 c6 c7 c8 c9 HTA HT HOWN HAT HHAS HZ
  have p1 := one_cell HI3.out.m1
  have p4 := one_cell HI3.out.m4
  obtain ⟨-, p2, -⟩ := HTA3.out.cells
  obtain ⟨-, ⟨p6, p7, p8, p9⟩, -⟩ := HCELL.out _ HB3.out
  have q1 : W3.drew.cell? _ = _ := p1
  have q2 : W3.drew.cell? _ = _ := p2
  have q4 : W3.drew.cell? _ = _ := p4
  have q6 : W3.drew.cell? _ = _ := p6
  have q7 : W3.drew.cell? _ = _ := p7
  have q8 : W3.drew.cell? _ = _ := p8
  have q9 : W3.drew.cell? _ = _ := p9
  have hc1 : C1 ≠ W2.heap.size := by have := HSZ.out; omega
  have hc2 : W.heap.size ≠ W2.heap.size := by have := HSZ.out; omega
  have hc4 : C4 ≠ W2.heap.size := by have := HSZ.out; omega
  have hcg : g ≠ W2.heap.size := by have := HSZ.out; have := HGB.out; omega
  go_region_held3 (fun W' => W'.cell? ⟨C1, 0, none⟩ = some (.slice (some ⟨g, o, none⟩) M.length cap) ∧ W'.cell? ⟨W.heap.size, 1, none⟩ = some (.int .i64 n) ∧ W'.cell? ⟨g, o + n * 10 + 6, none⟩ = some (.int .i64 x0) ∧ W'.cell? ⟨g, o + n * 10 + 7, none⟩ = some (.int .i64 x1) ∧ W'.cell? ⟨g, o + n * 10 + 8, none⟩ = some (.string x2) ∧ W'.cell? ⟨g, o + n * 10 + 9, none⟩ = some (.slice x4 x3 x5) ∧ W'.cell? ⟨C4, 0, none⟩ = some (.func (.func 116) #[] #[.pointer (some ⟨C1, 0, none⟩), .pointer (some ⟨C2, 0, none⟩), .pointer (some ⟨C3, 0, none⟩), .pointer (some ⟨C4, 0, none⟩)]))
    (first | (with_reducible exact ⟨p1, p2, p6, p7, p8, p9, p4⟩) | (with_reducible exact ⟨u1, u2, u6, u7, u8, u9, u4⟩) | (with_reducible exact ⟨q1, q2, q6, q7, q8, q9, q4⟩) | (with_reducible exact ⟨keep_put u1 hc1, keep_put u2 hc2, keep_put u6 hcg, keep_put u7 hcg, keep_put u8 hcg, keep_put u9 hcg, keep_put u4 hc4⟩))
    (first
    | (go_at_call 67; refine (HRPC.out _ HB3.out.drew (by have := HS3.out; have := HSZ.out; show B ≤ W3.heap.size; omega) (hq.nx _ _ _ HI3.out (Nat.le_refl _) (fun _ _ => rfl))).mono ?_; rintro e w5 ⟨r5, st5, v5, rfl, ⟨b5, d5, rfl, hs5, hl5⟩, hgr5, hi5, hf5, hrr5⟩; have HV5 := Lib.hid (show VO (W3.heap.size ≤ ·) w5 r5 _ from ⟨b5, d5, rfl, hs5, hl5⟩); have HG5 := Lib.hid (show Gr w0.heap.size B W3 w5 from (Gr.of (drew_below W3)).trans hgr5); have HI5 := Lib.hid hi5; have HF5 := Lib.hid (show ∀ x, st5.fp x → st.fp x ∨ W3.heap.size ≤ x from hf5); have HRR5 := Lib.hid hrr5; clear hs5 hl5 hgr5 hi5 hf5 hrr5; have HB5 : Hid (Below w0.heap.size w0 w5) := Lib.hid (HB3.out.trans (HG5.out.below HB3.out.size)); have HTA5 := Lib.hid (HTA3.out.nextq HG5.out hw); have HNEW5 := Lib.hid (HNEW.out.nextq HG5.out (by have := HSZ.out; omega)); have u1 := one_cell HI5.out.m1; have u4 := one_cell HI5.out.m4; obtain ⟨-, u2, -⟩ := HTA5.out.cells; obtain ⟨-, ⟨u6, u7, u8, u9⟩, -⟩ := HCELL.out _ HB5.out; have f0 := HNEW5.out.frozen 0; have f1 := HNEW5.out.frozen 1; have f2 := HNEW5.out.frozen 2; have f3 := HNEW5.out.frozen 3; obtain ⟨z0, z1, z2, z3⟩ := HNEW5.out.cells))
  rename_i hS
  clear hS u1 u2 u6 u7 u8 u9 u4 z0 z1 z2 z3 f0 f1 f2 f3 p1 p4 p2 p6 p7 p8 p9 q1 q2 q4 q6 q7 q8 q9 hc1 hc2 hc4 hcg
  have HSZ5 : Hid (W3.heap.size ≤ w5.heap.size) := Lib.hid HG5.out.size
  have HI6 : Hid (RdI M (some ⟨g, o, none⟩) cap C1 C2 C3 C4 bm B (put4 w5 W2.heap.size (.int .i64 r5.op) (.int .i64 r5.n) (.string r5.name) (.slice b5 r5.args.length d5)) st5) := Lib.hid (hq.nx _ _ _ HI5.out (by simp [put4, World.setCell]) (fun x hx => put4_other (by
    have := HSZ.out; have := HS3.out
    rcases hx with hx | hx
    · omega
    · rcases HF5.out x hx with h5 | h5
      · have := HI.out.flt x h5; omega
      · omega) _ _ _ _))
  have HX6 : Hid (Ex (fun x => x = W.heap.size + 2 ∨ x = bm ∨ x = C2 ∨ x = W.heap.size + 1) w5 (put4 w5 W2.heap.size (.int .i64 r5.op) (.int .i64 r5.n) (.string r5.name) (.slice b5 r5.args.length d5))) := Lib.hid (Ex.put4 (.inl HSZ.out) _ _ _ _)
  have HN6 := Lib.hid (put4_cells HNEW5.out (.int .i64 r5.op) (.int .i64 r5.n) (.string r5.name) (.slice b5 r5.args.length d5))
  have HTA6 : Hid (B4 (put4 w5 W2.heap.size (.int .i64 r5.op) (.int .i64 r5.n) (.string r5.name) (.slice b5 r5.args.length d5)) W.heap.size _ _ _ _) := Lib.hid ((put4_other (by have := HSZ.out; omega) _ _ _ _).trans HTA5.out)
  have HT6 : Hid (B4 (put4 w5 W2.heap.size (.int .i64 r5.op) (.int .i64 r5.n) (.string r5.name) (.slice b5 r5.args.length d5)) (W.heap.size + 1) _ _ _ _) := Lib.hid ((put4_other (by have := HSZ.out; omega) _ _ _ _).trans (HT3.out.nextq HG5.out (by omega)))
  have HG0 : Hid (Gr w0.heap.size B W w5) := Lib.hid ((Gr.of (HB.out.trans (HAL.out.mono HB.out.size))).trans HG5.out)
  have HV6 : Hid (VO (W.heap.size + 3 ≤ ·) w5 r5 (.agg #[.int .i64 r5.op, .int .i64 r5.n, .string r5.name, .slice b5 r5.args.length d5])) := Lib.hid (HV5.out.keep (fun x hx => by show W.heap.size + 3 ≤ x; have : W3.heap.size ≤ x := hx; have := HSZ.out; have := HS3.out; omega) (fun _ _ _ h => h))
  have HF6 : Hid (∀ x, st5.fp x → st.fp x ∨ W.heap.size + 3 ≤ x) := Lib.hid (fun x hx => (HF5.out x hx).imp id (fun h => by have := HSZ.out; have := HS3.out; omega))
  have HRM : Hid (st5.known.length < maxLen) := Lib.hid (by have := HI5.out.room; unfold maxLen; omega)
  have HGR : Hid (Good r5) := Lib.hid (rr_rqs hM HRR5.out HGV.out).1.1
  have HEND := Lib.hid (fun (Wf : World) (vf : Value) => resd_end (w5 := w5) (Wf := Wf) (vf := vf) hM h1 h2 h3 h4 hbm hc1 hc3 hc4 HHN.out HAC.out hw HI.out hbig (kget_none HHK.out) HSOL.out HGV.out HG0.out HI5.out HRR5.out HV6.out HF6.out)
  have HAN := Lib.hid (fun (W' : World) (hb : B4 W' W2.heap.size (.int .i64 r5.op) (.int .i64 r5.n) (.string r5.name) (.slice b5 r5.args.length d5)) (hv : V W' r5 (.agg #[.int .i64 r5.op, .int .i64 r5.n, .string r5.name, .slice b5 r5.args.length d5])) => anewp_any HGR.out W' W2.heap.size 0 (at_box hb hv))
  have HTY := Lib.hid (fun (W' : World) (hv : V W' r5 (.agg #[.int .i64 r5.op, .int .i64 r5.n, .string r5.name, .slice b5 r5.args.length d5])) => ptype_any r5 _ W' hv)
  obtain ⟨W6, hW6⟩ : ∃ W6, W6 = put4 w5 W2.heap.size (.int .i64 r5.op) (.int .i64 r5.n) (.string r5.name) (.slice b5 r5.args.length d5) := ⟨_, rfl⟩
  rw [← hW6] at HI6 HX6 HN6 HTA6 HT6
  have hW6' := hW6
  unfold put4 at hW6'
  rw [← hW6']
  clear hW6 hW6'
  generalize r5.op = y0 at *
  generalize r5.n = y1 at *
  generalize r5.name = y2 at *
  generalize r5.args.length = y3 at *
  generalize isProper r5 = pr at *
  have a3 := one_cell HI6.out.m3
  obtain ⟨-, p2, -⟩ := HTA6.out.cells
  obtain ⟨t0, t1, t2, t3⟩ := HN6.out.cells
  go_upto_region 7 with (at_mapUpdate; refine wpList_mapUpdate_own _ rfl _ _ _ 120 rfl 3 24 ikeys Try.underlying120 tokR bm st5.known.length (kmap st5.known) rfl HI6.out.own HRM.out _ _ (.int .i64 n) rfl rfl HKEY.out (.held (.agg #[.int .i64 y0, .int .i64 y1, .string y2, .slice b5 y3 d5])) [] rfl ?_; intro w7 hown7 hgr7; have HOWN7 := Lib.hid hown7; have HGR7 := Lib.hid hgr7; clear hown7 hgr7)
  have hnb : ∀ {c : Nat} {cs : Array Value} {t : TypeId} {z : Nat × Nat}, W6.heap[c]? = some (.cells cs t z) → w7.heap[c]? = some (.cells cs t z) := fun {c cs t z} hc =>
    (HGR7.out.block c (lt_of_block hc) (fun e => by
      injection e with e
      obtain ⟨es, clock, hb, _⟩ := HI6.out.own
      rw [e, hb] at hc
      injection hc with hc
      cases hc)).trans hc
  have HM2 := Lib.hid (hnb HI6.out.m2)
  have HN7 : Hid (B4 w7 W2.heap.size (.int .i64 y0) (.int .i64 y1) (.string y2) (.slice b5 y3 d5)) := Lib.hid (hnb HN6.out)
  have HT7 : Hid (B4 w7 (W.heap.size + 1) (.int .i64 0) (.int .i64 0) (.string ⟨#[]⟩) (.slice none 0 0)) := Lib.hid (hnb HT6.out)
  have HX7 : Hid (Ex (fun x => x = W.heap.size + 2 ∨ x = bm ∨ x = C2 ∨ x = W.heap.size + 1) w5 w7) := Lib.hid (HX6.out.trans (Ex.of_grown (.inr (.inl rfl)) HGR7.out))
  have HW5 : Hid (W.heap.size + 3 ≤ w5.heap.size) := Lib.hid (by have := HSZ5.out; have := HS3.out; have := HSZ.out; omega)
  have HVW : Hid (∀ W', Ex (fun x => x = W.heap.size + 2 ∨ x = bm ∨ x = C2 ∨ x = W.heap.size + 1) w5 W' → VO (W.heap.size + 3 ≤ ·) W' r5 (.agg #[.int .i64 y0, .int .i64 y1, .string y2, .slice b5 y3 d5])) := Lib.hid (fun W' hx =>
    HV6.out.bound.keep (fun g hg => hg.1) (fun q v hq hc => (World.cell?_of_block (hx.block q.block hq.2 (by have := hq.1; omega))).trans hc))
  clear hnb a3 p2 t0 t1 t2 t3 HI6 HX6 HN6 HTA6 HT6 HGR7 HI5 HF5 HRR5 HB5 HTA5 HNEW5 HI3 HB3 HTA3 HT3 HNEW HCELL HVAL HRPC HV5
  obtain ⟨t0, t1, t2, t3⟩ := HN7.out.cells
  have k2 := one_cell HM2.out
  have f2 := one_frozen HM2.out
  cases hb5 : st5.big with
  | true =>
    rw [hb5] at k2
    have HBG : Hid ((st5.big || !pr) = true) := Lib.hid (by rw [hb5]; rfl)
    clear hb5
    go_upto_region 8 with fail
    obtain ⟨W8, hW8⟩ : ∃ W8, W8 = w7.setCell ⟨C2, 0, none⟩ (.bool true) := ⟨_, rfl⟩
    have HX8 : Hid (Ex (fun x => x = W.heap.size + 2 ∨ x = bm ∨ x = C2 ∨ x = W.heap.size + 1) w5 W8) := Lib.hid (HX7.out.trans (by rw [hW8]; exact Ex.setCell (.inr (.inr (.inl rfl))) _))
    have HM8 : Hid (W8.heap[C2]? = some (.cells #[.bool (st5.big || !pr)] 4 (0, 0))) := Lib.hid (by rw [hW8, HBG.out]; exact one_same HM2.out)
    have HN8 : Hid (B4 W8 W2.heap.size (.int .i64 y0) (.int .i64 y1) (.string y2) (.slice b5 y3 d5)) := Lib.hid (by rw [hW8]; exact one_other HN7.out (by have := HSZ.out; omega))
    have HT8 : Hid (B4 W8 (W.heap.size + 1) (.int .i64 0) (.int .i64 0) (.string ⟨#[]⟩) (.slice none 0 0)) := Lib.hid (by rw [hW8]; exact one_other HT7.out (by omega))
    have hbc : bm ≠ C2 := fun e => by
      obtain ⟨es, clock, hb, _⟩ := HOWN7.out
      have hm := HM2.out
      rw [← e, hb] at hm
      injection hm with hm
      cases hm
    have HOWN8 := Lib.hid (own_heap (w' := W8) HOWN7.out (by rw [hW8]; exact Below.heap_setCell _ _ _ _ hbc))
    rw [← hW8]
    clear hW8 hbc k2 f2 t0 t1 t2 t3
    obtain ⟨s0, s1, s2, s3⟩ := HN8.out.cells
    go_wp2_with fail
    refine (HAN.out _ HN8.out (HVW.out _ HX8.out).weak).mono ?_
    rintro e w9 ⟨v9, rfl, ⟨b9, c9, rfl, hs9, hl9⟩, hb9⟩
    have HV9 : Hid (VO (W8.heap.size ≤ ·) w9 r5 _) := Lib.hid ⟨b9, c9, rfl, hs9, hl9⟩
    have HB9 := Lib.hid hb9
    have HT9 := Lib.hid (HT8.out.next hb9)
    clear hs9 hl9 hb9 s0 s1 s2 s3
    obtain ⟨z0, z1, z2, z3⟩ := HT9.out.cells
    have f0 := HT9.out.frozen 0
    have f1 := HT9.out.frozen 1
    have f2 := HT9.out.frozen 2
    have f3 := HT9.out.frozen 3
    go_wp2_with fail
    refine bodyPost_ret (results_ty (a := 8) (by kernel_rfl) (B := W.heap.size + 1) (by rfl) (put4_cells HT9.out _ _ _ _).cells.1 (put4_cells HT9.out _ _ _ _).cells.2.1 (put4_cells HT9.out _ _ _ _).cells.2.2.1 (put4_cells HT9.out _ _ _ _).cells.2.2.2) rfl ?_
    have hsz8 : W.heap.size + 3 ≤ W8.heap.size := Nat.le_trans HW5.out HX8.out.size
    refine HEND.out _ _ ((HX8.out.trans (Ex.of_below HB9.out)).trans (Ex.put4 (.inr (.inr (.inr rfl))) _ _ _ _)) ((put4_other (by omega) _ _ _ _).trans ((HB9.out.block _ (lt_of_block HM8.out)).trans HM8.out)) (own_heap HOWN8.out ((put4_other (by omega) _ _ _ _).trans (HB9.out.block _ HOWN8.out.lt))) ?_
    exact HV9.out.keep (fun g hg => by show W.heap.size ≤ g; have : W8.heap.size ≤ g := hg; omega) (fun p v hp hc => put4_keep _ _ _ _ p v hc (by have : W8.heap.size ≤ p.block := hp; omega))
  | false =>
    rw [hb5] at k2
    have HB5F : Hid (st5.big = false) := Lib.hid hb5
    clear hb5
    go_wp2_with fail
    refine (HTY.out _ (HVW.out _ HX7.out).weak).mono ?_
    rintro e w8 ⟨rfl, hb8⟩
    have HBG : Hid ((st5.big || !pr) = !pr) := Lib.hid (by rw [HB5F.out]; rfl)
    have HM2 := Lib.hid ((hb8.block _ (lt_of_block HM2.out)).trans HM2.out)
    have HN7 := Lib.hid (HN7.out.next hb8)
    have HT7 := Lib.hid (HT7.out.next hb8)
    have HX7 := Lib.hid (HX7.out.trans (Ex.of_below hb8))
    have HOWN7 := Lib.hid (own_heap HOWN7.out (hb8.block _ HOWN7.out.lt))
    clear hb8 k2 f2 t0 t1 t2 t3
    obtain ⟨t0, t1, t2, t3⟩ := HN7.out.cells
    have k2 := one_cell HM2.out
    have f2 := one_frozen HM2.out
    go_upto_region 8 with fail
    obtain ⟨W8, hW8⟩ : ∃ W8, W8 = w8.setCell ⟨C2, 0, none⟩ (.bool (!pr)) := ⟨_, rfl⟩
    have HX8 : Hid (Ex (fun x => x = W.heap.size + 2 ∨ x = bm ∨ x = C2 ∨ x = W.heap.size + 1) w5 W8) := Lib.hid (HX7.out.trans (by rw [hW8]; exact Ex.setCell (.inr (.inr (.inl rfl))) _))
    have HM8 : Hid (W8.heap[C2]? = some (.cells #[.bool (st5.big || !pr)] 4 (0, 0))) := Lib.hid (by rw [hW8, HBG.out]; exact one_same HM2.out)
    have HN8 : Hid (B4 W8 W2.heap.size (.int .i64 y0) (.int .i64 y1) (.string y2) (.slice b5 y3 d5)) := Lib.hid (by rw [hW8]; exact one_other HN7.out (by have := HSZ.out; omega))
    have HT8 : Hid (B4 W8 (W.heap.size + 1) (.int .i64 0) (.int .i64 0) (.string ⟨#[]⟩) (.slice none 0 0)) := Lib.hid (by rw [hW8]; exact one_other HT7.out (by omega))
    have hbc : bm ≠ C2 := fun e => by
      obtain ⟨es, clock, hb, _⟩ := HOWN7.out
      have hm := HM2.out
      rw [← e, hb] at hm
      injection hm with hm
      cases hm
    have HOWN8 := Lib.hid (own_heap (w' := W8) HOWN7.out (by rw [hW8]; exact Below.heap_setCell _ _ _ _ hbc))
    rw [← hW8]
    clear hW8 hbc k2 f2 t0 t1 t2 t3
    obtain ⟨s0, s1, s2, s3⟩ := HN8.out.cells
    go_wp2_with fail
    refine (HAN.out _ HN8.out (HVW.out _ HX8.out).weak).mono ?_
    rintro e w9 ⟨v9, rfl, ⟨b9, c9, rfl, hs9, hl9⟩, hb9⟩
    have HV9 : Hid (VO (W8.heap.size ≤ ·) w9 r5 _) := Lib.hid ⟨b9, c9, rfl, hs9, hl9⟩
    have HB9 := Lib.hid hb9
    have HT9 := Lib.hid (HT8.out.next hb9)
    clear hs9 hl9 hb9 s0 s1 s2 s3
    obtain ⟨z0, z1, z2, z3⟩ := HT9.out.cells
    have f0 := HT9.out.frozen 0
    have f1 := HT9.out.frozen 1
    have f2 := HT9.out.frozen 2
    have f3 := HT9.out.frozen 3
    go_wp2_with fail
    refine bodyPost_ret (results_ty (a := 8) (by kernel_rfl) (B := W.heap.size + 1) (by rfl) (put4_cells HT9.out _ _ _ _).cells.1 (put4_cells HT9.out _ _ _ _).cells.2.1 (put4_cells HT9.out _ _ _ _).cells.2.2.1 (put4_cells HT9.out _ _ _ _).cells.2.2.2) rfl ?_
    have hsz8 : W.heap.size + 3 ≤ W8.heap.size := Nat.le_trans HW5.out HX8.out.size
    refine HEND.out _ _ ((HX8.out.trans (Ex.of_below HB9.out)).trans (Ex.put4 (.inr (.inr (.inr rfl))) _ _ _ _)) ((put4_other (by omega) _ _ _ _).trans ((HB9.out.block _ (lt_of_block HM8.out)).trans HM8.out)) (own_heap HOWN8.out ((put4_other (by omega) _ _ _ _).trans (HB9.out.block _ HOWN8.out.lt))) ?_
    exact HV9.out.keep (fun g hg => by show W.heap.size ≤ g; have : W8.heap.size ≤ g := hg; omega) (fun p v hp hc => put4_keep _ _ _ _ p v hc (by have : W8.heap.size ≤ p.block := hp; omega))
end

end Ty
end Go.Proofs.Ytkedhnahgpmkaaa

/- resolved and Resolve: the type with the values of solved metavariables, or an error. Conditions: at most 600 metavariables. -/
namespace Go.Proofs.Ytkedhnahgpmkaaa
open Go.RowKit Go.Maps

namespace Ty
theorem RebQ.to {σ : Type} {Q Q' : Ty → σ → Ty → σ → Prop} (hQ : ∀ t st r st', Q t st r st' → Q' t st r st') {t : Ty} {st : σ} {I : World → σ → Prop} {fp : σ → Nat → Prop} {lo base : Nat} {w : World} {e : Ending} {w' : World} (h : RebQ Q t st I fp lo base w e w') : RebQ Q' t st I fp lo base w e w' := by
  obtain ⟨r, st', v, h1, h2, h3, h4, h5, h6⟩ := h
  exact ⟨r, st', v, h1, h2, h3, h4, h5, rr_mono hQ h6⟩
theorem good_meta {n : Int} {s : List UInt8} (h : Good (.mk 6 n s [])) : s = [] ∧ ((n.toNat : Nat) : Int) = n := by
  cases h with
  | var op n h1 h2 h3 => exact ⟨rfl, by omega⟩
section
variable {M : List MC} {base : Option Addr} {cap C1 C2 C3 C4 bm B : Nat} {w0 : World}
theorem resd_meta (hM : OkM M) (h1 : C1 < B) (h2 : w0.heap.size ≤ C2 ∧ C2 < B) (h3 : C3 < B) (h4 : C4 < B) (hbm : w0.heap.size ≤ bm ∧ bm < B) (hlo : w0.heap.size ≤ B) (hc1 : C1 ≠ C2) (hc3 : C3 ≠ C2) (hc4 : C4 ≠ C2) (hM6 : M.length ≤ 600) (hms : Ms w0 base M) {n : Nat} (hac : Ac (adjM M) n) :
    n < M.length → ∀ (W : World) (k : Nat) (st : RSt), Good (.mk 6 n [] []) → RdI M base cap C1 C2 C3 C4 bm B W st → B ≤ W.heap.size → Below w0.heap.size w0 W →
      Calls Try.prog 116 #[.agg #[.int .i64 6, .int .i64 n, .string ⟨#[]⟩, .slice none 0 0], .int .i64 k, .pointer (some ⟨C1, 0, none⟩), .pointer (some ⟨C2, 0, none⟩), .pointer (some ⟨C3, 0, none⟩), .pointer (some ⟨C4, 0, none⟩)] W (RebQ (RQS M (fun k => k = n ∨ Way (adjM M) k n)) (.mk 6 n [] []) st (RdI M base cap C1 C2 C3 C4 bm B) RSt.fp w0.heap.size B W) := by
  have hq : HQ (RdI M base cap C1 C2 C3 C4 bm B) RSt.fp B := rd_hq h1 h2.2 h3 h4 hbm.2
  induction hac with
  | intro n ha ih =>
    intro hn W k st hg hi hw hb0
    cases hs : (M[n]'hn).sol with
    | false => exact resd_un hq _ W n k st hg hn hms hb0 hs hi hw
    | true =>
      cases hbig : st.big with
      | true => exact resd_big hq _ W n k st hg hn hms hb0 hs hbig hi hw
      | false =>
        cases hk : kget st.known n with
        | some v => exact resd_found hq _ W n k st hn hM6 hms hb0 hs hbig v hk hi hw
        | none =>
          obtain ⟨hp, hin⟩ := hM _ (List.getElem_mem hn) hs
          have hr := colT_range (Good.of hp)
          have hgp : GP (fun u => u.op = 6 → u.n.toNat < M.length ∧ u.n.toNat ∈ adjM M n) (M[n]'hn).val := by
            refine gp_col (Good.of hp) (S := fun z => z.toNat < M.length ∧ z.toNat ∈ adjM M n) (fun x hx => ?_)
            have := hin x hx
            have := hr x hx
            exact ⟨by omega, by rw [adjM_sol hn hs]; exact List.mem_map_of_mem hx⟩
          refine resd_new hM h1 h2 h3 h4 hbm hc1 hc3 hc4 W n k st hn hM6 (Acc.intro n ha) hms hb0 hs hbig hk hi hw (fun W' v hv hb hw' hi' => ?_)
          refine repq_of (bd := 1000000) (rebq_116 (P := fun u => u.op = 6 → u.n.toNat < M.length ∧ u.n.toNat ∈ adjM M n) ?_ hq hlo (by omega) _ hgp) hq v st W' hv hb hw' hi' (by have := proper_nodes _ hp; omega)
          intro W op n' s k st hg hP hi hw hb hk
          by_cases h6 : op = 6
          · subst h6
            obtain ⟨hs', hcast⟩ := good_meta hg
            subst hs'
            obtain ⟨h5, h6⟩ := hP rfl
            have hg' := hg
            rw [← hcast] at hg'
            have := ih _ h6 h5 W k st hg' hi hw hb
            simp only [Ty.n] at this
            rw [hcast] at this
            refine this.mono fun e w' h => h.to (fun _ _ _ _ h => h.mono (fun k hk => ?_))
            rcases hk with rfl | hk
            · exact .one h6
            · exact hk.trans (.one h6)
          · exact resd_other hq _ _ W op n' s k st hg h6 hi hw
/-- whatever a leaf is -/
theorem resd_leafs (hM : OkM M) (h1 : C1 < B) (h2 : w0.heap.size ≤ C2 ∧ C2 < B) (h3 : C3 < B) (h4 : C4 < B) (hbm : w0.heap.size ≤ bm ∧ bm < B) (hlo : w0.heap.size ≤ B) (hc1 : C1 ≠ C2) (hc3 : C3 ≠ C2) (hc4 : C4 ≠ C2) (hM6 : M.length ≤ 600) (hms : Ms w0 base M) (bd : Nat) :
    LeafsQ 116 #[.pointer (some ⟨C1, 0, none⟩), .pointer (some ⟨C2, 0, none⟩), .pointer (some ⟨C3, 0, none⟩), .pointer (some ⟨C4, 0, none⟩)] (Fin M) (RQS M (fun _ => True)) (RdI M base cap C1 C2 C3 C4 bm B) RSt.fp w0 B bd := by
  intro W op n' s k st hg hP hi hw hb _
  by_cases h6 : op = 6
  · subst h6
    obtain ⟨hs', hcast⟩ := good_meta hg
    subst hs'
    obtain ⟨h5, h6⟩ := hP rfl
    have hg' := hg
    rw [← hcast] at hg'
    have := resd_meta (cap := cap) hM h1 h2 h3 h4 hbm hlo hc1 hc3 hc4 hM6 hms h6 h5 W k st hg' hi hw hb
    simp only [Ty.n] at this
    rw [hcast] at this
    exact this.mono fun e w' h => h.to (fun _ _ _ _ h => h.mono (fun _ _ => trivial))
  · exact resd_other (rd_hq h1 h2.2 h3 h4 hbm.2) _ _ W op n' s k st hg h6 hi hw
end

/-- the type that is resolved, or an error -/
def ResdP (M : List MC) (t : Ty) (w : World) (e : Ending) (w' : World) : Prop := ∃ r, Rs M t r ∧ Good r ∧ (∃ v, e = .returned (fullV r v) ∧ (isProper r = true → VO (w.heap.size ≤ ·) w' r v)) ∧ Below w.heap.size w w'
theorem fin_top {M : List MC} {t : Ty} (hp : isProper t = true) (hin : inM M t = true) (hnr : NoRing M) : GP (Fin M) t := by
  have hr := colT_range (Good.of hp)
  refine gp_col (Good.of hp) (S := fun z => z.toNat < M.length ∧ Ac (adjM M) z.toNat) (fun x hx => ?_)
  have h1 := inM_iff.mp hin x hx
  have h2 := hr x hx
  have h3 : x.toNat < M.length := by omega
  exact ⟨h3, hnr _ h3⟩

/-- the memory as it begins -/
def resW3 (M : List MC) (base : Option Addr) (cap : Nat) (v0 v1 v2 v3 : Value) (w : World) : World := ((w.alloc (Obj.cells #[.slice base M.length cap] 62)).alloc (Obj.cells #[v0, v1, v2, v3] 24)).alloc (Obj.cells #[.int .i64 0, .int .i64 0, .string ⟨#[]⟩, .slice none 0 0] 24)
def resW7 (s : Nat) (W : World) : World := (((W.alloc (.map #[] 0)).alloc (Obj.cells #[.map (some (s + 3))] 120)).alloc (Obj.cells #[.bool false] 4)).alloc (Obj.cells #[.func (.func 116) #[] #[.pointer (some ⟨s, 0, none⟩), .pointer (some ⟨s + 5, 0, none⟩), .pointer (some ⟨s + 4, 0, none⟩), .pointer (some ⟨s + 6, 0, none⟩)]] 84)
theorem own_mkR {w : World} {n : Nat} (h : w.heap.size = n) : (w.alloc (.map #[] 0)).ownsMap (H := Value) Try.prog 3 tokR n 0 (.map []) := by
  subst h
  exact World.ownsMap_made w Try.prog 3 tokR
theorem res_new (M : List MC) (base : Option Addr) (cap : Nat) (v0 v1 v2 v3 : Value) (w : World) :
    Below w.heap.size w (resW3 M base cap v0 v1 v2 v3 w) ∧ (resW3 M base cap v0 v1 v2 v3 w).heap.size = w.heap.size + 3 ∧ B4 (resW3 M base cap v0 v1 v2 v3 w) (w.heap.size + 1) v0 v1 v2 v3 ∧ B4 (resW3 M base cap v0 v1 v2 v3 w) (w.heap.size + 2) (.int .i64 0) (.int .i64 0) (.string ⟨#[]⟩) (.slice none 0 0) ∧
    RdI M base cap w.heap.size (w.heap.size + 5) (w.heap.size + 4) (w.heap.size + 6) (w.heap.size + 3) (w.heap.size + 7) (resW7 w.heap.size (resW3 M base cap v0 v1 v2 v3 w)) ⟨[], false, fun _ => False⟩ ∧ (resW7 w.heap.size (resW3 M base cap v0 v1 v2 v3 w)).heap.size = w.heap.size + 7 ∧
    Below (w.heap.size + 3) (resW3 M base cap v0 v1 v2 v3 w) (resW7 w.heap.size (resW3 M base cap v0 v1 v2 v3 w)) := by
  unfold resW3 resW7
  refine ⟨?_, by simp, ?_, ?_, ⟨?_, ?_, ?_, ?_, ?_, fun _ p hp => (nomatch hp), fun x hx => hx.elim, fun x hx => hx.elim, ?_⟩, by simp, ?_⟩
  · exact (((Below.refl _ _).alloc (Nat.le_refl _) _).alloc (by simp) _).alloc (by simp; omega) _
  · exact push_old (push_at _ _ _ (by simp))
  · exact push_at _ _ _ (by simp)
  · exact push_old (push_old (push_old (push_old (push_old (push_old (push_at _ _ _ rfl))))))
  · exact push_old (push_at _ _ _ (by simp))
  · exact push_old (push_old (push_at _ _ _ (by simp)))
  · exact push_at _ _ _ (by simp)
  · exact (((own_mkR (by simp)).alloc _).alloc _).alloc _
  · have := lft_le M.length []
    simpa using this
  · exact ((((Below.refl _ _).alloc (by simp) _).alloc (by simp) _).alloc (by simp) _).alloc (by simp) _

set_option maxHeartbeats 16000000 in
set_option maxRecDepth 100000 in
theorem resolved_any (M : List MC) (hM : OkM M) (hM6 : M.length ≤ 600) (hnr : NoRing M) (t : Ty) (hp : isProper t = true) (hin : inM M t = true) (base : Option Addr) (cap : Nat) (v : Value) (w : World) (hms : Ms w base M) (hv : V w t v) : Calls Try.prog 85 #[.slice base M.length cap, v] w (ResdP M t w) := by
  have hft := fin_top hp hin hnr
  have hv0 := hv
  obtain ⟨b, c, ev, _, _⟩ := hv
  subst ev
  obtain ⟨hb3, hs3, hbt, hbr, hI7, hs7, hb7⟩ := res_new M base cap (.int .i64 t.op) (.int .i64 t.n) (.string t.name) (.slice b t.args.length c) w
  have hcall := repq_of (bd := 1000000) (rebq_116 (w0 := resW3 M base cap (.int .i64 t.op) (.int .i64 t.n) (.string t.name) (.slice b t.args.length c) w) (base := w.heap.size + 7)
    (resd_leafs (base := base) (cap := cap) (C1 := w.heap.size) (C2 := w.heap.size + 5) (C3 := w.heap.size + 4) (C4 := w.heap.size + 6) (bm := w.heap.size + 3) hM (by omega) ⟨by omega, by omega⟩ (by omega) (by omega) ⟨by omega, by omega⟩ (by omega) (by omega) (by omega) (by omega) hM6 (hms.next hb3) 1000000)
    (rd_hq (by omega) (by omega) (by omega) (by omega) (by omega)) (by omega) (by omega) t hft) (rd_hq (by omega) (by omega) (by omega) (by omega) (by omega)) _ _ _ (hv0.next hb3) (hb7.mono (by omega)) (by omega) hI7 (by have := proper_nodes _ hp; omega)
  have HFIN := Lib.hid (rs_fin hM hft)
  have HM := Lib.hid hM
  have HGT : Hid (Good t) := Lib.hid (Good.of hp)
  obtain ⟨n, hn⟩ : ∃ n, n = M.length := ⟨_, rfl⟩
  have hw : resW7 w.heap.size (resW3 M base cap (.int .i64 t.op) (.int .i64 t.n) (.string t.name) (.slice b t.args.length c) w) = (((((((w.alloc (Obj.cells #[.slice base n cap] 62)).alloc (Obj.cells #[.int .i64 t.op, .int .i64 t.n, .string t.name, .slice b t.args.length c] 24)).alloc (Obj.cells #[.int .i64 0, .int .i64 0, .string ⟨#[]⟩, .slice none 0 0] 24)).alloc (.map #[] 0)).alloc (Obj.cells #[.map (some (w.heap.size + 3))] 120)).alloc (Obj.cells #[.bool false] 4)).alloc (Obj.cells #[.func (.func 116) #[] #[.pointer (some ⟨w.heap.size, 0, none⟩), .pointer (some ⟨w.heap.size + 5, 0, none⟩), .pointer (some ⟨w.heap.size + 4, 0, none⟩), .pointer (some ⟨w.heap.size + 6, 0, none⟩)]] 84)) := by rw [hn]; rfl
  rw [← hn]
  rw [hs3] at hcall
  obtain ⟨W3, hW3⟩ : ∃ W3, W3 = resW3 M base cap (.int .i64 t.op) (.int .i64 t.n) (.string t.name) (.slice b t.args.length c) w := ⟨_, rfl⟩
  rw [← hW3] at hb3 hs3 hbt hbr hI7 hs7 hb7 hcall hw
  obtain ⟨W7, hW7⟩ : ∃ W7, W7 = resW7 w.heap.size W3 := ⟨_, rfl⟩
  rw [← hW7] at hI7 hs7 hb7 hcall hw
  clear hW3 hW7
  have HW := Lib.hid hw
  have HC := Lib.hid hcall
  have HI7 := Lib.hid hI7
  have HBT : Hid (B4 W7 (w.heap.size + 1) (.int .i64 t.op) (.int .i64 t.n) (.string t.name) (.slice b t.args.length c)) := Lib.hid ((hb7.block _ (by omega)).trans hbt)
  have HBR : Hid (B4 W7 (w.heap.size + 2) (.int .i64 0) (.int .i64 0) (.string ⟨#[]⟩) (.slice none 0 0)) := Lib.hid ((hb7.block _ (by omega)).trans hbr)
  have HB7 : Hid (Below w.heap.size w W7) := Lib.hid (hb3.trans (hb7.mono (by omega)))
  have HS7 := Lib.hid hs7
  have hmm := @run_makeMap Try.prog
  clear hft hcall hw hI7 hbt hbr hb3 hs3 hs7 hb7 hms hp hin hnr hv0 hM hn hM6
  generalize t.op = x0 at *
  generalize t.n = x1 at *
  generalize t.name = x2 at *
  generalize t.args.length = x3 at *
  go_enter Try.func85, Try.ntmps85
  go_upto_region 5 with fail
  rw [show w.heap.size + 1 + 1 + 1 + 1 + 1 + 1 = w.heap.size + 6 from rfl, show w.heap.size + 1 + 1 + 1 + 1 + 1 = w.heap.size + 5 from rfl, show w.heap.size + 1 + 1 + 1 + 1 = w.heap.size + 4 from rfl, show w.heap.size + 1 + 1 + 1 = w.heap.size + 3 from rfl, show w.heap.size + 1 + 1 = w.heap.size + 2 from rfl, ← HW.out]
  clear HW hmm
  obtain ⟨c0, c1, c2, c3⟩ := HBT.out.cells
  have a4 := one_cell HI7.out.m4
  go_wp2_with fail
  refine HC.out.mono ?_
  rintro e w2 ⟨r, st2, v, rfl, ⟨b9, c9, rfl, hs9, hl9⟩, hgr, hi2, _, hrr⟩
  obtain ⟨⟨hg2, hq1, hq2⟩, _⟩ := rr_rqs HM.out hrr HGT.out
  have HV2 : Hid (VO (W7.heap.size ≤ ·) w2 r (.agg #[.int .i64 r.op, .int .i64 r.n, .string r.name, .slice b9 r.args.length c9])) := Lib.hid ⟨b9, c9, rfl, hs9, hl9⟩
  have HR2 := Lib.hid (show B4 w2 (w.heap.size + 2) _ _ _ _ from hgr.heap (.inl (by omega)) HBR.out)
  have HB2 : Hid (Below w.heap.size w w2) := Lib.hid (HB7.out.trans ((hgr.below (by have := HS7.out; omega)).mono (by omega)))
  have HM2 := Lib.hid hi2.m2
  have HSZ2 : Hid (w.heap.size + 7 ≤ w2.heap.size) := Lib.hid (by have := hgr.size; have := HS7.out; omega)
  have HG2 := Lib.hid hg2
  have HQ1 := Lib.hid hq1
  have HQ2 := Lib.hid hq2
  clear hs9 hl9 hgr hi2 hrr hg2 hq1 hq2 c0 c1 c2 c3 a4 HI7 HBT HC HBR
  have k2 := one_cell HM2.out
  have hal : Below w2.heap.size w2 (w2.alloc (Obj.cells #[.int .i64 r.op, .int .i64 r.n, .string r.name, .slice b9 r.args.length c9] 24)) := (Below.refl _ _).alloc (Nat.le_refl _) _
  have HAL := Lib.hid hal
  have hbox : B4 (w2.alloc (Obj.cells #[.int .i64 r.op, .int .i64 r.n, .string r.name, .slice b9 r.args.length c9] 24)) w2.heap.size (.int .i64 r.op) (.int .i64 r.n) (.string r.name) (.slice b9 r.args.length c9) := two_B4
  have HBX := Lib.hid hbox
  have HFUL := Lib.hid (fun (W : World) (hv : V W r (.agg #[.int .i64 r.op, .int .i64 r.n, .string r.name, .slice b9 r.args.length c9])) => ptype_any r _ W hv)
  clear hal hbox
  generalize r.op = y0 at *
  generalize r.n = y1 at *
  generalize r.name = y2 at *
  generalize r.args.length = y3 at *
  have HR3 := Lib.hid (HR2.out.next HAL.out)
  cases hb2 : st2.big with
  | true =>
    rw [hb2] at k2
    have HBAD : Hid (Bad M t) := Lib.hid ((HQ2.out hb2).resolve_left Bool.false_ne_true)
    clear hb2
    go_upto_region 6 with fail
    have k3 := keeps HAL.out _ _ k2
    obtain ⟨z0, z1, z2, z3⟩ := HR3.out.cells
    have f0 := HR3.out.frozen 0
    have f1 := HR3.out.frozen 1
    have f2 := HR3.out.frozen 2
    have f3 := HR3.out.frozen 3
    go_wp2_with fail
    refine bodyPost_ret (results_two (a := 4) (b := 5) (by kernel_rfl) (B := w.heap.size + 2) (by rfl) (by rfl) (put4_cells HR3.out _ _ _ _).cells.1 (put4_cells HR3.out _ _ _ _).cells.2.1 (put4_cells HR3.out _ _ _ _).cells.2.2.1 (put4_cells HR3.out _ _ _ _).cells.2.2.2) rfl ?_
    obtain ⟨r0, hr0⟩ := HFIN.out
    have hbad := HBAD.out r0 hr0
    exact ⟨r0, hr0, hr0.good HM.out HGT.out, ⟨zeroV, by rw [fullV_bad hbad]; rfl, fun h => by rw [hbad] at h; cases h⟩, (HB2.out.trans (HAL.out.mono HB2.out.size)).trans (below_put4' (by omega) _ _ _ _)⟩
  | false =>
    rw [hb2] at k2
    have HRS : Hid (Rs M t r) := Lib.hid (HQ1.out hb2).2
    clear hb2
    go_upto_region 6 with fail
    have k3 := keeps HAL.out _ _ k2
    obtain ⟨s0, s1, s2, s3⟩ := HBX.out.cells
    go_wp2_with fail
    refine (HFUL.out _ (HV2.out.weak.next HAL.out)).mono ?_
    rintro e w4 ⟨rfl, hb4⟩
    have HR4 := Lib.hid (HR3.out.next hb4)
    have HB4 : Hid (Below w.heap.size w w4) := Lib.hid ((HB2.out.trans (HAL.out.mono HB2.out.size)).trans (hb4.mono (by have := HB2.out.size; have := HAL.out.size; omega)))
    have HV4 : Hid (VO (w.heap.size + 7 ≤ ·) w4 r (.agg #[.int .i64 y0, .int .i64 y1, .string y2, .slice b9 y3 c9])) := Lib.hid (((HV2.out.next HAL.out).next hb4).keep (fun g hg => by show w.heap.size + 7 ≤ g; have : W7.heap.size ≤ g := hg; have := HS7.out; omega) (fun _ _ _ h => h))
    have HBX4 := Lib.hid (HBX.out.next hb4)
    clear hb4 k2 k3 s0 s1 s2 s3
    obtain ⟨z0, z1, z2, z3⟩ := HR4.out.cells
    have f0 := HR4.out.frozen 0
    have f1 := HR4.out.frozen 1
    have f2 := HR4.out.frozen 2
    have f3 := HR4.out.frozen 3
    obtain ⟨s0, s1, s2, s3⟩ := HBX4.out.cells
    cases hpr : isProper r with
    | true =>
      have HPR := Lib.hid hpr
      clear hpr
      go_wp2_with fail
      refine bodyPost_ret (results_two (a := 4) (b := 5) (by kernel_rfl) (B := w.heap.size + 2) (by rfl) (by rfl) (put4_cells HR4.out _ _ _ _).cells.1 (put4_cells HR4.out _ _ _ _).cells.2.1 (put4_cells HR4.out _ _ _ _).cells.2.2.1 (put4_cells HR4.out _ _ _ _).cells.2.2.2) rfl ?_
      refine ⟨r, HRS.out, HG2.out, ⟨.agg #[.int .i64 y0, .int .i64 y1, .string y2, .slice b9 y3 c9], by rw [fullV_ok HPR.out]; rfl, fun _ => ?_⟩, HB4.out.trans (below_put4' (by omega) _ _ _ _)⟩
      exact HV4.out.keep (fun g hg => by show w.heap.size ≤ g; have : w.heap.size + 7 ≤ g := hg; omega) (fun p v hp hc => put4_keep _ _ _ _ p v hc (by have : w.heap.size + 7 ≤ p.block := hp; omega))
    | false =>
      have HPR := Lib.hid hpr
      clear hpr
      go_wp2_with fail
      refine bodyPost_ret (results_two (a := 4) (b := 5) (by kernel_rfl) (B := w.heap.size + 2) (by rfl) (by rfl) (put4_cells HR4.out _ _ _ _).cells.1 (put4_cells HR4.out _ _ _ _).cells.2.1 (put4_cells HR4.out _ _ _ _).cells.2.2.1 (put4_cells HR4.out _ _ _ _).cells.2.2.2) rfl ?_
      exact ⟨r, HRS.out, HG2.out, ⟨zeroV, by rw [fullV_bad HPR.out]; rfl, fun h => by rw [HPR.out] at h; cases h⟩, HB4.out.trans (below_put4' (by omega) _ _ _ _)⟩

end Ty
end Go.Proofs.Ytkedhnahgpmkaaa

/- Resolve: the type with the values of solved metavariables, or an error. Conditions: none. -/
namespace Go.Proofs.Ytkedhnahgpmkaaa
open Go.RowKit Go.Maps

namespace Ty
/-- whether there is something to resolve -/
def PRes (M : List MC) (t : Ty) : Prop := isProper t = true ∧ M.length ≤ 600 ∧ ResOK M t
def PResP (M : List MC) (t : Ty) (w : World) (e : Ending) (w' : World) : Prop := (¬ PRes M t ∧ BadP 2 w e w') ∨ (PRes M t ∧ ResdP M t w e w')

set_option maxHeartbeats 16000000 in
set_option maxRecDepth 100000 in
theorem presolve_any (M : List MC) (t : Ty) (base : Option Addr) (cap : Nat) (v : Value) (w : World) (hms : Ms w base M) (hv : V w t v) : Calls Try.prog 45 #[.slice base M.length cap, v] w (PResP M t w) := by
  have hla := hms.1
  unfold maxLen at hla
  have HTY := Lib.hid (fun W (hb : Below w.heap.size w W) => ptype_any t v W (hv.next hb))
  have HRB := Lib.hid (fun (h6 : M.length ≤ 600) (hp : isProper t = true) W (hb : Below w.heap.size w W) => resolvable_any M h6 t hp base cap v W (hms.next hb) (hv.next hb))
  have HRD := Lib.hid (fun (h6 : M.length ≤ 600) (hp : isProper t = true) (hok : ResOK M t) W (hb : Below w.heap.size w W) => resolved_any M hok.1.ok h6 hok.2.2 t hp hok.2.1 base cap v W (hms.next hb) (hv.next hb))
  have HPR := Lib.hid (show PRes M t ↔ isProper t = true ∧ M.length ≤ 600 ∧ ResOK M t from Iff.rfl)
  obtain ⟨b, c, ev, _, _⟩ := hv
  subst ev
  obtain ⟨ht1, ht2⟩ := two_boxes w (.int .i64 t.op) (.int .i64 t.n) (.string t.name) (.slice b t.args.length c) (.int .i64 0) (.int .i64 0) (.string ⟨#[]⟩) (.slice none 0 0)
  have hbb := below_two w (Obj.cells #[.int .i64 t.op, .int .i64 t.n, .string t.name, .slice b t.args.length c] 24) (Obj.cells #[.int .i64 0, .int .i64 0, .string ⟨#[]⟩, .slice none 0 0] 24)
  have HB := Lib.hid hbb
  have HT1 := Lib.hid ht1
  have HT2 := Lib.hid ht2
  obtain ⟨p, hp⟩ : ∃ p, p = isProper t := ⟨_, rfl⟩
  rw [← hp] at HTY HRB HRD HPR
  clear hbb ht1 ht2 hms hp
  generalize t.op = x0 at *
  generalize t.n = x1 at *
  generalize t.name = x2 at *
  generalize t.args.length = x3 at *
  generalize M.length = n at *
  go_enter Try.func45, Try.ntmps45
  go_upto_region 1 with fail
  obtain ⟨W2, hW2⟩ : ∃ W2, W2 = (w.alloc (Obj.cells #[.int .i64 x0, .int .i64 x1, .string x2, .slice b x3 c] 24)).alloc (Obj.cells #[.int .i64 0, .int .i64 0, .string ⟨#[]⟩, .slice none 0 0] 24) := ⟨_, rfl⟩
  rw [← hW2] at HB HT1 HT2 ⊢
  clear hW2
  obtain ⟨c0, c1, c2, c3⟩ := HT1.out.cells
  cases p with
  | false =>
    go_wp2_with fail
    refine (HTY.out W2 HB.out).mono ?_
    rintro e w2 ⟨rfl, hb⟩
    have HB2 := Lib.hid (HB.out.trans (hb.mono HB.out.size))
    have HR := Lib.hid (HT2.out.next hb)
    clear hb c0 c1 c2 c3 HRB HRD HTY
    obtain ⟨z0, z1, z2, z3⟩ := HR.out.cells
    have f0 := HR.out.frozen 0
    have f1 := HR.out.frozen 1
    have f2 := HR.out.frozen 2
    have f3 := HR.out.frozen 3
    go_wp2_with fail
    refine bodyPost_ret (results_two (a := 4) (b := 5) (by kernel_rfl) (B := w.heap.size + 1) (by rfl) (by rfl) (put4_cells HR.out _ _ _ _).cells.1 (put4_cells HR.out _ _ _ _).cells.2.1 (put4_cells HR.out _ _ _ _).cells.2.2.1 (put4_cells HR.out _ _ _ _).cells.2.2.2) rfl ?_
    exact .inl ⟨fun h => (nomatch (HPR.out.mp h).1), rfl, below_put4 HB2.out (by omega) _ _ _ _⟩
  | true =>
    go_wp2_with fail
    refine (HTY.out W2 HB.out).mono ?_
    rintro e w2 ⟨rfl, hb⟩
    have HB2 := Lib.hid (HB.out.trans (hb.mono HB.out.size))
    have HR := Lib.hid (HT2.out.next hb)
    have HT := Lib.hid (HT1.out.next hb)
    clear hb c0 c1 c2 c3 HTY
    by_cases h6 : n ≤ 600
    · have q1 : decide ((600 : Int) < (n : Int)) = false := decide_eq_false (by omega)
      have HN6 := Lib.hid h6
      clear h6
      obtain ⟨c0, c1, c2, c3⟩ := HT.out.cells
      go_wp2_with fail
      refine (HRB.out HN6.out (by first | rfl | trivial) _ HB2.out).mono ?_
      rintro e w3 ⟨r, rfl, hr, hb⟩
      have HB3 := Lib.hid (HB2.out.trans (hb.mono HB2.out.size))
      have HR3 := Lib.hid (HR.out.next hb)
      have HT3 := Lib.hid (HT.out.next hb)
      have HRR := Lib.hid hr
      clear hb c0 c1 c2 c3 HRB HR HT hr
      cases r with
      | false =>
        have HNO : Hid (¬ ResOK M t) := Lib.hid (fun h => Bool.false_ne_true (HRR.out.mpr h))
        obtain ⟨z0, z1, z2, z3⟩ := HR3.out.cells
        have f0 := HR3.out.frozen 0
        have f1 := HR3.out.frozen 1
        have f2 := HR3.out.frozen 2
        have f3 := HR3.out.frozen 3
        clear HRD HRR
        go_wp2_with fail
        refine bodyPost_ret (results_two (a := 4) (b := 5) (by kernel_rfl) (B := w.heap.size + 1) (by rfl) (by rfl) (put4_cells HR3.out _ _ _ _).cells.1 (put4_cells HR3.out _ _ _ _).cells.2.1 (put4_cells HR3.out _ _ _ _).cells.2.2.1 (put4_cells HR3.out _ _ _ _).cells.2.2.2) rfl ?_
        exact .inl ⟨fun h => HNO.out (HPR.out.mp h).2.2, rfl, below_put4 HB3.out (by omega) _ _ _ _⟩
      | true =>
        have HOK : Hid (ResOK M t) := Lib.hid (HRR.out.mp rfl)
        have HYES : Hid (PRes M t) := Lib.hid (HPR.out.mpr ⟨by first | rfl | trivial, HN6.out, HOK.out⟩)
        obtain ⟨c0, c1, c2, c3⟩ := HT3.out.cells
        clear HRR
        go_wp2_with fail
        refine (HRD.out HN6.out (by first | rfl | trivial) HOK.out _ HB3.out).mono ?_
        rintro e w4 ⟨r, hrs, hgr, ⟨v, rfl, hvo⟩, hb⟩
        have HB4 := Lib.hid (HB3.out.trans (hb.mono HB3.out.size))
        have HR4 := Lib.hid (HR3.out.next hb)
        have HRS := Lib.hid hrs
        have HGR := Lib.hid hgr
        have HZ3 : Hid (w.heap.size + 2 ≤ w3.heap.size) := Lib.hid (lt_of_block HR3.out)
        clear hb hrs hgr c0 c1 c2 c3 HRD
        obtain ⟨z0, z1, z2, z3⟩ := HR4.out.cells
        have f0 := HR4.out.frozen 0
        have f1 := HR4.out.frozen 1
        have f2 := HR4.out.frozen 2
        have f3 := HR4.out.frozen 3
        cases hpr : isProper r with
        | true =>
          obtain ⟨b9, c9, rfl, hs9, hl9⟩ := hvo hpr
          have HV9 : Hid (VO (w3.heap.size ≤ ·) w4 r _) := Lib.hid ⟨b9, c9, rfl, hs9, hl9⟩
          rw [fullV_ok hpr]
          have HPV := Lib.hid hpr
          clear hpr hvo hs9 hl9
          go_wp2_with fail
          refine bodyPost_ret (results_two (a := 4) (b := 5) (by kernel_rfl) (B := w.heap.size + 1) (by rfl) (by rfl) (put4_cells HR4.out _ _ _ _).cells.1 (put4_cells HR4.out _ _ _ _).cells.2.1 (put4_cells HR4.out _ _ _ _).cells.2.2.1 (put4_cells HR4.out _ _ _ _).cells.2.2.2) rfl ?_
          have hz3 := HZ3.out
          exact .inr ⟨HYES.out, r, HRS.out, HGR.out, ⟨_, by rw [fullV_ok HPV.out]; rfl, fun _ => HV9.out.keep (fun g hg => by show w.heap.size ≤ g; have : w3.heap.size ≤ g := hg; omega) (fun p v hp hc => put4_keep _ _ _ _ p v hc (by have : w3.heap.size ≤ p.block := hp; omega))⟩, below_put4 HB4.out (by omega) _ _ _ _⟩
        | false =>
          rw [fullV_bad hpr]
          have HPV := Lib.hid hpr
          clear hpr hvo
          go_wp2_with fail
          refine bodyPost_ret (results_two (a := 4) (b := 5) (by kernel_rfl) (B := w.heap.size + 1) (by rfl) (by rfl) (put4_cells HR4.out _ _ _ _).cells.1 (put4_cells HR4.out _ _ _ _).cells.2.1 (put4_cells HR4.out _ _ _ _).cells.2.2.1 (put4_cells HR4.out _ _ _ _).cells.2.2.2) rfl ?_
          exact .inr ⟨HYES.out, r, HRS.out, HGR.out, ⟨zeroV, by rw [fullV_bad HPV.out]; rfl, fun h => by rw [HPV.out] at h; cases h⟩, below_put4 HB4.out (by omega) _ _ _ _⟩
    · have q1 : decide ((600 : Int) < (n : Int)) = true := decide_eq_true (by omega)
      have HNO : Hid (¬ PRes M t) := Lib.hid (fun h => h6 (HPR.out.mp h).2.1)
      clear h6 HRB HRD
      obtain ⟨z0, z1, z2, z3⟩ := HR.out.cells
      have f0 := HR.out.frozen 0
      have f1 := HR.out.frozen 1
      have f2 := HR.out.frozen 2
      have f3 := HR.out.frozen 3
      go_wp2_with fail
      refine bodyPost_ret (results_two (a := 4) (b := 5) (by kernel_rfl) (B := w.heap.size + 1) (by rfl) (by rfl) (put4_cells HR.out _ _ _ _).cells.1 (put4_cells HR.out _ _ _ _).cells.2.1 (put4_cells HR.out _ _ _ _).cells.2.2.1 (put4_cells HR.out _ _ _ _).cells.2.2.2) rfl ?_
      exact .inl ⟨HNO.out, rfl, below_put4 HB2.out (by omega) _ _ _ _⟩

end Ty
end Go.Proofs.Ytkedhnahgpmkaaa
