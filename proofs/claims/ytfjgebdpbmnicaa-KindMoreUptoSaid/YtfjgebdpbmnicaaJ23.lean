/- What the program's Fun returns. Conditions: the types lie in memory and are proper. -/
import Derived.Test.YtfjgebdpbmnicaaJ09
import Derived.Test.YtfjgebdpbmnicaaJ20
import Derived.Test.YtfjgebdpbmnicaaJ21
import Derived.Test.YtfjgebdpbmnicaaJ22
import Derived.Stop.RegionWithIn
namespace Go.Proofs.Ytfjgebdpbmnicaa
open Go.RowKit Go.Shelf

attribute [local go_sem] Oper.semAt_some

namespace Ty
/-- a type put around by the arguments at these places -/
def folT (l : List Ty) (t : Ty) (pre : List (Dn l.length)) : Ty := pre.foldl (fun acc x => arrow (l[x.1]'x.2) acc) t
theorem folT_snoc (l : List Ty) (t : Ty) (pre : List (Dn l.length)) (x : Dn l.length) : folT l t (pre ++ [x]) = arrow (l[x.1]'x.2) (folT l t pre) := by
  unfold folT
  rw [List.foldl_append]
  rfl
theorem folT_drop (l : List Ty) (t : Ty) : ∀ k, k ≤ l.length → folT l t (dnto l.length k) = funT t (l.drop (l.length - k))
  | 0, _ => by rw [Nat.sub_zero, List.drop_length]; rfl
  | k + 1, h => by
    have hq : l.length - (k + 1) < l.length := by omega
    have e := dnto_succ hq
    rw [show l.length - (l.length - (k + 1)) = k + 1 from by omega, show l.length - (l.length - (k + 1) + 1) = k from by omega] at e
    rw [e, folT_snoc, folT_drop l t k (by omega), funT_drop t hq, show l.length - (k + 1) + 1 = l.length - k from by omega]
theorem folT_all (l : List Ty) (t : Ty) : folT l t (dnto l.length l.length) = funT t l := by
  rw [folT_drop l t _ (Nat.le_refl _), Nat.sub_self, List.drop_zero]
theorem not_cells {W : World} {r : Nat} {p : Addr} {v : Value} {o : Obj} (h : W.heap[r]? = some o) (ho : o.isCells = false) (hc : W.cell? p = some v) : some p.block ≠ some r := fun e => by
  injection e with e
  unfold World.cell? at hc
  rw [e, h] at hc
  cases o <;> simp [Obj.isCells] at ho hc
theorem b4_kept {W W' : World} {row : Option Nat} {B : Nat} {v0 v1 v2 v3 : Value} (h : B4 W B v0 v1 v2 v3) (hg : W.grownBy W' row) (hr : ∀ r, row = some r → ∃ o : Obj, W.heap[r]? = some o ∧ o.isCells = false) : B4 W' B v0 v1 v2 v3 :=
  (hg.block B (lt_of_block h) (fun e => by
    obtain ⟨o, h1, h2⟩ := hr B e.symm
    have h' : W.heap[B]? = some (Obj.cells #[v0, v1, v2, v3] 36) := h
    rw [h'] at h1
    injection h1 with h1
    rw [← h1] at h2
    cases h2)).trans h
theorem ApS.kept {w W W' : World} {row : Option Nat} {B : Nat} {t : Ty} {b : Option Addr} {c : Nat} (h : ApS w B t b c W) (hg : W.grownBy W' row) (hr : ∀ r, row = some r → w.heap.size ≤ r ∧ ∃ o : Obj, W.heap[r]? = some o ∧ o.isCells = false) : ApS w B t b c W' :=
  ⟨h.below.grown hg h.below.size (fun j hj => (hr j hj).1), h.big, b4_kept h.res hg (fun r e => (hr r e).2), b4_kept h.box hg (fun r e => (hr r e).2), h.v.keep (fun _ h => h) (fun p v _ hc => hg.cell hc (fun e => by
    obtain ⟨_, o, h1, h2⟩ := hr p.block e.symm
    exact not_cells h1 h2 hc rfl))⟩

theorem fun_fin {w W : World} {B D : Nat} {t : Ty} {v : Value} (v0 v1 v2 v3 : Value) (hB : Below w.heap.size w W) (hR : B4 W (w.heap.size + 1) (.int .i64 0) (.int .i64 0) (.string ⟨#[]⟩) (.slice none 0 0)) (hV : VO (fun g => w.heap.size ≤ g ∧ g ≠ w.heap.size + 1 ∧ g ≠ B) W t v) (hD : w.heap.size + 1 < D) (hK : W.heap[D]? = some (.deferred (some []))) :
    (put4 W (w.heap.size + 1) v0 v1 v2 v3).heap[D]? = some (.deferred (some [])) ∧ B4 ((put4 W (w.heap.size + 1) v0 v1 v2 v3).putObj D (.deferred none)) (w.heap.size + 1) v0 v1 v2 v3 ∧ VO (w.heap.size ≤ ·) ((put4 W (w.heap.size + 1) v0 v1 v2 v3).putObj D (.deferred none)) t v ∧ Below w.heap.size w ((put4 W (w.heap.size + 1) v0 v1 v2 v3).putObj D (.deferred none)) := by
  have k1 : (put4 W (w.heap.size + 1) v0 v1 v2 v3).heap[D]? = some (.deferred (some [])) := (put4_other (by omega) _ _ _ _).trans hK
  have k2 := put4_cells hR v0 v1 v2 v3
  have k3 : VO (w.heap.size ≤ ·) (put4 W (w.heap.size + 1) v0 v1 v2 v3) t v := hV.keep (fun g hg => hg.1) (fun p v hp hc => put4_keep _ _ _ _ p v hc hp.2.1)
  have k4 := below_put4 (B := w.heap.size + 1) hB (by omega) v0 v1 v2 v3
  generalize put4 W (w.heap.size + 1) v0 v1 v2 v3 = X at *
  have hg := grownBy_putObj' X D (.deferred none)
  refine ⟨k1, b4_kept k2 hg (fun r e => by cases e; exact ⟨_, k1, rfl⟩), k3.keep (fun _ h => h) (fun p v _ hc => hg.cell hc (not_cells k1 rfl hc)), k4.trans ?_⟩
  exact belowK_b (w := w) (Nat.le_refl _) X D _ _ (by omega) k1 rfl rfl
/-- a round: beside the state a part's box, the arrow's box, and since when -/
structure FuT (w W0 : World) (B Bx Bc : Nat) (t : Ty) (b : Option Addr) (c : Nat) (x : Ty) (q : TC) (W : World) : Prop where
  s : ApS w B t b c W
  x4 : B4 W Bx (.int .i64 q.op) (.int .i64 q.n) (.string q.name) (.slice q.b q.len q.cap)
  c4 : B4 W Bc (.int .i64 2) (.int .i64 0) (.string ⟨#[45, 62]⟩) (.slice none 0 0)
  vx : V W x (.agg #[.int .i64 q.op, .int .i64 q.n, .string q.name, .slice q.b q.len q.cap])
  bl : Below W0.heap.size W0 W
theorem FuT.next {w W0 W W' : World} {B Bx Bc : Nat} {t x : Ty} {b : Option Addr} {c : Nat} {q : TC} (h : FuT w W0 B Bx Bc t b c x q W) (hb : Below W.heap.size W W') : FuT w W0 B Bx Bc t b c x q W' :=
  ⟨h.s.next hb, h.x4.next hb, h.c4.next hb, h.vx.next hb, h.bl.trans (hb.mono h.bl.size)⟩
theorem FuT.drew {w W0 W : World} {B Bx Bc : Nat} {t x : Ty} {b : Option Addr} {c : Nat} {q : TC} (h : FuT w W0 B Bx Bc t b c x q W) : FuT w W0 B Bx Bc t b c x q W.drew := h.next (Below.refl _ _).drew
theorem fut_end {w W0 W : World} {B Bx Bc C : Nat} {t x t' : Ty} {b b' : Option Addr} {c c' : Nat} {q : TC} (h : FuT w W0 B Bx Bc t b c x q W) (hC : B < C) (hv : VO (fun g => w.heap.size ≤ g ∧ g ≠ w.heap.size + 1 ∧ g ≠ B) W t' (.agg #[.int .i64 t'.op, .int .i64 t'.n, .string t'.name, .slice b' t'.args.length c'])) :
    KeepsFrom C W0 (put4 W B (.int .i64 t'.op) (.int .i64 t'.n) (.string t'.name) (.slice b' t'.args.length c')) ∧ KC (fun g => g = B + 1 ∨ g < w.heap.size) W0 (put4 W B (.int .i64 t'.op) (.int .i64 t'.n) (.string t'.name) (.slice b' t'.args.length c')) ∧ ApS w B t' b' c' (put4 W B (.int .i64 t'.op) (.int .i64 t'.n) (.string t'.name) (.slice b' t'.args.length c')) := by
  refine ⟨⟨?_, fun k o hB hk _ => ?_⟩, fun p v hp hc => ?_, h.s.put hv⟩
  · have := h.bl.size
    unfold put4
    simpa [World.setCell] using this
  · exact (put4_other (by omega) _ _ _ _).trans ((h.bl.block k (Array.getElem?_eq_some_iff.1 hk).1).trans hk)
  · have h1 := h.s.big
    exact put4_keep _ _ _ _ p v (keeps h.bl p v hc) (by rcases hp with hp | hp <;> omega)

set_option maxRecDepth 100000 in
set_option maxHeartbeats 8000000 in
theorem pfun_ok (t : Ty) (l : List Ty) (v : Value) (base : Option Addr) (cap : Nat) (w : World) (hv : V w t v) (hl : Sl w base l) (hpt : isProper t = true) (hpl : propersT l = true) : Calls Try.prog 30 #[.slice base l.length cap, v] w (PApP (funT t l) w) := by
  have hty := fun W (hb : Below w.heap.size w W) => ptype_any t v W (hv.next hb)
  have hli := fun W (hb : Below w.heap.size w W) => plist_any l base cap W (hl.next hb)
  rw [hpt] at hty
  rw [← propersB_eq] at hpl
  rw [hpl] at hli
  unfold propersB at hpl
  rw [Bool.and_eq_true, decide_eq_true_eq] at hpl
  obtain ⟨hl6, hall⟩ := hpl
  have hgl : ∀ i (h : i < l.length), Good (l[i]'h) ∧ nodes (l[i]'h) ≤ 1000000 := fun i h => by
    have h := allB_true.mp hall i h
    exact ⟨Good.of h, by have := proper_nodes _ h; omega⟩
  have hnt := proper_nodes t hpt
  have hv0 := hv
  have HGL := Lib.hid hgl
  have HLL := Lib.hid hl
  obtain ⟨b, c, ev, _, _⟩ := hv
  subst ev
  obtain ⟨ht3, ht6⟩ := two_boxes w (.int .i64 t.op) (.int .i64 t.n) (.string t.name) (.slice b t.args.length c) (.int .i64 0) (.int .i64 0) (.string ⟨#[]⟩) (.slice none 0 0)
  have hb2 : Below w.heap.size w ((w.alloc (Obj.cells #[.int .i64 t.op, .int .i64 t.n, .string t.name, .slice b t.args.length c] 36)).alloc (Obj.cells #[.int .i64 0, .int .i64 0, .string ⟨#[]⟩, .slice none 0 0] 36)) := below_two w _ _
  have HT3 := Lib.hid ht3
  have HT6 := Lib.hid ht6
  have HB2 := Lib.hid hb2
  have HC := Lib.hid hty
  have HL := Lib.hid hli
  have han := fun (W : World) (hb : Below w.heap.size w W) (hx : B4 W w.heap.size (.int .i64 t.op) (.int .i64 t.n) (.string t.name) (.slice b t.args.length c)) => anewp_any (Good.of hpt) W w.heap.size 0 (at_box hx (hv0.next hb))
  have HAN := Lib.hid han
  clear ht3 ht6 hb2 hty hli hl han hgl hall hpt hnt hv0
  obtain ⟨r, hr⟩ : ∃ r, r = funT t l := ⟨_, rfl⟩
  rw [← hr]
  have HRR := Lib.hid hr
  clear hr
  refine (callsIn_wide (n := 6)).1 ?_
  refine callsIn_of_wp_marks Try.func30 rfl trivial ?_ rfl
  simp only [Try.ntmps30, List.size_toArray, List.length_cons, List.length_nil, Nat.reduceAdd, Nat.reduceSub, Array.replicate_succ, Array.replicate_zero, List.push_toArray, List.append_toArray, List.nil_append, List.cons_append]
  gi_wp2
  refine ⟨trivial, callsIn_wide.2 ((HL.out _ HB2.out).mono ?_)⟩
  rintro e w2 ⟨rfl, hb⟩
  have HT := Lib.hid (HT3.out.next hb)
  have HR := Lib.hid (HT6.out.next hb)
  have HB := Lib.hid (HB2.out.trans (hb.mono HB2.out.size))
  clear hb HT3 HT6 HB2 HL
  obtain ⟨c0, c1, c2, c3⟩ := HT.out.cells
  gi_wp2
  refine ⟨trivial, callsIn_wide.2 ((HC.out _ HB.out).mono ?_)⟩
  rintro e w3 ⟨rfl, hb⟩
  have HB3 := Lib.hid (HB.out.trans (hb.mono HB.out.size))
  have HT3 := Lib.hid (HT.out.next hb)
  have HR3 := Lib.hid (HR.out.next hb)
  clear hb HR HB HT HC c0 c1 c2 c3
  obtain ⟨c0, c1, c2, c3⟩ := HT3.out.cells
  gi_wp2
  refine ⟨trivial, callsIn_wide.2 ((HAN.out w3 HB3.out HT3.out).mono ?_)⟩
  rintro e w4 ⟨v4, rfl, ⟨b4, c4, rfl, hs4, hl4⟩, hb⟩
  have HV4 : Hid (VO (w3.heap.size ≤ ·) w4 t _) := Lib.hid ⟨b4, c4, rfl, hs4, hl4⟩
  have HB4 := Lib.hid (HB3.out.trans (hb.mono HB3.out.size))
  have HR4 := Lib.hid (HR3.out.next hb)
  have HLT : Hid (w.heap.size + 1 < w3.heap.size ∧ w3.heap.size ≤ w4.heap.size) := Lib.hid ⟨lt_of_block HR3.out, hb.size⟩
  clear hs4 hl4 hb HT3 HR3 HB3 HAN c0 c1 c2 c3
  gi_wp2
  refine ⟨trivial, (back74 Fence.wide _ trivial rfl _ _ _ _).mono ?_⟩
  rintro e w5 ⟨rfl, rfl⟩
  gi_wp2
  obtain ⟨B, hB⟩ : ∃ B, B = w4.heap.size := ⟨_, rfl⟩
  obtain ⟨W5, hW5⟩ : ∃ W5, W5 = w4.alloc (Obj.cells #[.int .i64 t.op, .int .i64 t.n, .string t.name, .slice b4 t.args.length c4] 36) := ⟨_, rfl⟩
  have hb5 : Below w4.heap.size w4 W5 := by rw [hW5]; exact (Below.refl _ _).alloc (Nat.le_refl _) _
  have ht5 : B4 W5 B (.int .i64 t.op) (.int .i64 t.n) (.string t.name) (.slice b4 t.args.length c4) := by rw [hW5, hB]; exact heap_alloc_new _ _
  have hs5 : W5.heap.size = B + 1 := by rw [hW5, hB]; simp
  rw [← hW5, ← hB]
  have HST5 : Hid (ApS w B t b4 c4 W5) := Lib.hid ⟨HB4.out.trans (hb5.mono HB4.out.size), by have := HLT.out; omega, HR4.out.next hb5, ht5, (HV4.out.bound.keep (fun g hg => by have h1 := HLT.out; have h2 : w3.heap.size ≤ g := hg.1; have h3 := hg.2; exact ⟨by omega, by omega, by omega⟩) (fun p v _ hc => keeps hb5 p v hc))⟩
  clear hW5 hb5 ht5 HR4 HV4
  obtain ⟨W6, hW6⟩ : ∃ W6, W6 = W5.alloc (Obj.cells #[.slice base l.length cap] 32) := ⟨_, rfl⟩
  have hb6 : Below W5.heap.size W5 W6 := by rw [hW6]; exact (Below.refl _ _).alloc (Nat.le_refl _) _
  have hl6' : W6.heap[B + 1]? = some (.cells #[.slice base l.length cap] 32 (0, 0)) := by rw [hW6, ← hs5]; exact heap_alloc_new _ _
  have hs6 : W6.heap.size = B + 2 := by rw [hW6]; simp [hs5]
  rw [← hW6]
  have HST := Lib.hid (HST5.out.next hb6)
  clear hW6 hb6 HST5 HLT HB4 hs5
  have hBw : w.heap.size + 1 < B := HST.out.big
  have hseq : ∃ ts : Nat → TC, (∀ j (h : j < l.length), V w (l[j]'h) (.agg #[.int .i64 (ts j).op, .int .i64 (ts j).n, .string (ts j).name, .slice (ts j).b (ts j).len (ts j).cap])) ∧ SeqStopsK Fence.wide 5 Try.prog 79 #[.pointer (some ⟨B + 1, 0, none⟩)] (encD ts (len := l.length)) (KC (fun g => g = B + 1 ∨ g < w.heap.size)) (fun ys => ys = dnto l.length l.length) (fun _ => True) l.length W6 := by
    by_cases hne : l = []
    · subst hne
      exact ⟨fun _ => ⟨0, 0, ⟨#[]⟩, none, 0, 0⟩, fun j h => absurd h (Nat.not_lt_zero _), back_stops_nil Fence.wide 5 trivial rfl (B + 1) base cap _ _ W6 (by omega) (one_cell hl6')⟩
    · obtain ⟨g, o, e, hg, ts, hts⟩ := sl_tcs HLL.out hne
      subst e
      refine ⟨ts, fun j h => (hts j h).2, back_stops Fence.wide 5 trivial rfl (by omega) (B + 1) g o l.length cap _ ts (by omega) W6 (.inr hg) (.inl rfl) (fun g hg => by rcases hg with hg | hg <;> omega) (one_cell hl6') (fun j h => ?_)⟩
      obtain ⟨⟨h1, h2, h3, h4⟩, _⟩ := hts j h
      exact ⟨keeps HST.out.below _ _ h1, keeps HST.out.below _ _ h2, keeps HST.out.below _ _ h3, keeps HST.out.below _ _ h4⟩
  obtain ⟨ts, hts, hseq⟩ := hseq
  have HS6 := Lib.hid hs6
  have HTS := Lib.hid hts
  clear hB hs6 hts hl6'
  refine wpIn_rangeFunc_ownH (n := 6) rfl (by decide) (gf := 79) (lb := #[.pointer (some ⟨B + 1, 0, none⟩)]) rfl trivial (enters_of Try.func79 (by kernel_rfl) rfl) hseq (fun h k => KC.trans h k) (fun W l o o' _ h ho _ => KC.putObj W l o o' h ho) (Below.refl _ _) (fun _ => rfl)
    (fun pre W => ∃ b c, ApS w B (folT l t pre) b c W) (fun _ _ _ => False)
    (fun pre W W' row hs hg hr => by obtain ⟨b, c, hs⟩ := hs; exact ⟨b, c, hs.kept hg (fun r e => ⟨by have := (hr r e).1; have := HS6.out; omega, (hr r e).2⟩)⟩)
    (fun _ _ _ _ _ hs _ _ => hs)
    ⟨b4, c4, HST.out⟩
    (fun x a' W => ∃ Bx, B < Bx ∧ B4 W Bx (.int .i64 (ts x.1).op) (.int .i64 (ts x.1).n) (.string (ts x.1).name) (.slice (ts x.1).b (ts x.1).len (ts x.1).cap) ∧ a' = { tmps := #[.slice base l.length cap, .agg #[.int .i64 t.op, .int .i64 t.n, .string t.name, .slice b t.args.length c], undef, .pointer (some ⟨w.heap.size, 0, none⟩), .pointer (some ⟨w.heap.size + 1, 0, none⟩), .int .i64 0, .pointer (some ⟨B, 0, none⟩), undef, .pointer (some ⟨Bx, 0, none⟩), undef, .slice base l.length cap, .bool true, .bool false, .bool false, .agg #[.int .i64 t.op, .int .i64 t.n, .string t.name, .slice b t.args.length c], .bool true, .bool false, .bool false, undef, .agg #[.int .i64 t.op, .int .i64 t.n, .string t.name, .slice b4 t.args.length c4], .slice base l.length cap, .func (.func 79) #[] #[.pointer (some ⟨B + 1, 0, none⟩)], .int .i64 (x.1 : Int), .agg #[.int .i64 (ts x.1).op, .int .i64 (ts x.1).n, .string (ts x.1).name, .slice (ts x.1).b (ts x.1).len (ts x.1).cap], undef, undef, undef, undef, undef, undef, undef, undef, undef, undef], defers := [] })
    (fun x a' _ X Y row hs hg hr => by obtain ⟨Bx, h1, h2, h3⟩ := hs; exact ⟨Bx, h1, b4_kept h2 hg (fun r e => (hr r e).2), h3⟩)
    ?assign ?body ?done ?stop
  case assign =>
    rintro lp pre x W K ⟨b2, c2, hs⟩ hK
    unfold encD
    gi_wp2
    have hb := (Below.refl W.heap.size W).alloc (Nat.le_refl _) (Obj.cells #[.int .i64 (ts x.1).op, .int .i64 (ts x.1).n, .string (ts x.1).name, .slice (ts x.1).b (ts x.1).len (ts x.1).cap] 36)
    exact hK _ _ ((KeepsOthers.alloc _ _).from _) (fun p v _ hc => keeps hb _ _ hc) ⟨b2, c2, hs.next hb⟩ ⟨W.heap.size, lt_of_block hs.box, heap_alloc_new _ _, rfl⟩
  case body =>
    rintro lp pre x a' W hlp ⟨r, hr⟩ ⟨b2, c2, hs⟩ ⟨Bx, hBx, hx4, rfl⟩ hlt
    obtain ⟨x0, x1, x2, x3⟩ := B4.cells hx4
    gi_wp2
    obtain ⟨Wc, hWc⟩ : ∃ Wc, Wc = W.alloc (Obj.cells #[.int .i64 2, .int .i64 0, .string ⟨#[45, 62]⟩, .slice none 0 0] 36) := ⟨_, rfl⟩
    obtain ⟨Bc, hBc⟩ : ∃ Bc, Bc = W.heap.size := ⟨_, rfl⟩
    have hbc : Below W.heap.size W Wc := by rw [hWc]; exact (Below.refl _ _).alloc (Nat.le_refl _) _
    have hc4 : B4 Wc Bc (.int .i64 2) (.int .i64 0) (.string ⟨#[45, 62]⟩) (.slice none 0 0) := by rw [hWc, hBc]; exact heap_alloc_new _ _
    rw [← hWc, ← hBc]
    obtain ⟨q, hq⟩ : ∃ q, q = ts x.1 := ⟨_, rfl⟩
    obtain ⟨y, hy⟩ : ∃ y, y = l[x.1]'x.2 := ⟨_, rfl⟩
    obtain ⟨hgx, hnx⟩ := HGL.out x.1 x.2
    have hvx := (HTS.out x.1 x.2).next hs.below
    rw [← hy] at hgx hnx hvx
    rw [← hq] at hvx hx4 ⊢
    have HT : Hid (FuT w W B Bx Bc (folT l t pre) b2 c2 y q Wc) := Lib.hid ⟨hs.next hbc, hx4.next hbc, hc4, hvx.next hbc, hbc⟩
    have HGX := Lib.hid hgx
    have HNX := Lib.hid hnx
    have HE : Hid (folT l t (pre ++ [x]) = arrow y (folT l t pre)) := Lib.hid (by rw [folT_snoc, hy])
    obtain ⟨t', ht'⟩ : ∃ t', t' = folT l t pre := ⟨_, rfl⟩
    rw [← ht'] at HT HE
    clear hWc hBc hbc hc4 hq hy hgx hnx hvx hx4 hs x0 x1 x2 x3 ht'
    obtain ⟨x0, x1, x2, x3⟩ := HT.out.x4.cells
    obtain ⟨y0, y1, y2, y3⟩ := HT.out.c4.cells
    obtain ⟨z0, z1, z2, z3⟩ := HT.out.s.box.cells
    have f0 := HT.out.s.box.frozen 0
    have f1 := HT.out.s.box.frozen 1
    have f2 := HT.out.s.box.frozen 2
    have f3 := HT.out.s.box.frozen 3
    first | (gi_region_with (first
      | (refine ⟨trivial, ?_⟩; gi_at_call 58; refine (CallsIn.inRound lp (callsIn_wide.2 (anewp_any HGX.out _ Bx 0 (by first | exact at_box HT.out.x4 HT.out.vx | exact at_box HT.out.drew.x4 HT.out.drew.vx)))).mono ?_; rintro e w5 ⟨v5, rfl, ⟨b5, c5, rfl, hs5, hl5⟩, hb⟩; have HV5 := Lib.hid (show VO (fun g => w.heap.size ≤ g ∧ g ≠ w.heap.size + 1 ∧ g ≠ B) w5 y (.agg #[.int .i64 y.op, .int .i64 y.n, .string y.name, .slice b5 y.args.length c5]) from VO.keep (fun g hg => new_ok HT.out.s (by first | exact hg)) (fun _ _ _ h => h) ⟨b5, c5, rfl, hs5, hl5⟩); clear hs5 hl5; have HU := Lib.hid (by first | exact HT.out.next hb | exact HT.out.drew.next hb); clear x0 x1 x2 x3 y0 y1 y2 y3 z0 z1 z2 z3 f0 f1 f2 f3 HT hb; have HT := HU; clear HU; obtain ⟨x0, x1, x2, x3⟩ := HT.out.x4.cells; obtain ⟨y0, y1, y2, y3⟩ := HT.out.c4.cells; obtain ⟨z0, z1, z2, z3⟩ := HT.out.s.box.cells; have f0 := HT.out.s.box.frozen 0; have f1 := HT.out.s.box.frozen 1; have f2 := HT.out.s.box.frozen 2; have f3 := HT.out.s.box.frozen 3)
      | (refine ⟨trivial, ?_⟩; gi_at_call 60; refine (CallsIn.inRound lp (callsIn_wide.2 (papp_o (ok := (fun g => w.heap.size ≤ g ∧ g ≠ w.heap.size + 1 ∧ g ≠ B)) _ t' _ _ _ (fun g hg => new_ok HT.out.s (by first | exact hg)) HV6.out HT.out.s.v))).mono ?_; rintro e w7 ⟨v7, rfl, ⟨b7, c7, rfl, hs7, hl7⟩, hb⟩; have HV7 := Lib.hid (show VO (fun g => w.heap.size ≤ g ∧ g ≠ w.heap.size + 1 ∧ g ≠ B) w7 (arrow y t') _ from ⟨b7, c7, rfl, hs7, hl7⟩); clear hs7 hl7 HV6; have HU := Lib.hid (by first | exact HT.out.next hb | exact HT.out.drew.next hb); clear x0 x1 x2 x3 y0 y1 y2 y3 z0 z1 z2 z3 f0 f1 f2 f3 HT hb; have HT := HU; clear HU; obtain ⟨x0, x1, x2, x3⟩ := HT.out.x4.cells; obtain ⟨y0, y1, y2, y3⟩ := HT.out.c4.cells; obtain ⟨z0, z1, z2, z3⟩ := HT.out.s.box.cells; have f0 := HT.out.s.box.frozen 0; have f1 := HT.out.s.box.frozen 1; have f2 := HT.out.s.box.frozen 2; have f3 := HT.out.s.box.frozen 3)
      | (refine ⟨trivial, ?_⟩; gi_at_call 60; refine (CallsIn.inRound lp (callsIn_wide.2 (papp_o (ok := (fun g => w.heap.size ≤ g ∧ g ≠ w.heap.size + 1 ∧ g ≠ B)) (.mk 2 0 [45, 62] []) y _ _ _ (fun g hg => new_ok HT.out.s (by first | exact hg)) (vo_leaf _ _ 2 0 ⟨#[45, 62]⟩ (by decide)) HV5.out))).mono ?_; rintro e w6 ⟨v6, rfl, ⟨b6, c6, rfl, hs6, hl6⟩, hb⟩; have HV6 := Lib.hid (show VO (fun g => w.heap.size ≤ g ∧ g ≠ w.heap.size + 1 ∧ g ≠ B) w6 (.mk 3 0 [] [.mk 2 0 [45, 62] [], y]) _ from ⟨b6, c6, rfl, hs6, hl6⟩); clear hs6 hl6 HV5; have HU := Lib.hid (by first | exact HT.out.next hb | exact HT.out.drew.next hb); clear x0 x1 x2 x3 y0 y1 y2 y3 z0 z1 z2 z3 f0 f1 f2 f3 HT hb; have HT := HU; clear HU; obtain ⟨x0, x1, x2, x3⟩ := HT.out.x4.cells; obtain ⟨y0, y1, y2, y3⟩ := HT.out.c4.cells; obtain ⟨z0, z1, z2, z3⟩ := HT.out.s.box.cells; have f0 := HT.out.s.box.frozen 0; have f1 := HT.out.s.box.frozen 1; have f2 := HT.out.s.box.frozen 2; have f3 := HT.out.s.box.frozen 3))) | fail
    all_goals
      gi_wp2
      obtain ⟨g1, g2, g3⟩ := fut_end HT.out (by have := HS6.out; omega : B < W6.heap.size) HV7.out
      first
      | exact ⟨g1, g2, b7, c7, by rw [HE.out]; exact g3⟩
      | exact ⟨⟨g1.1, g1.2⟩, fun p v h1 h2 => g2 p v h1 h2, b7, c7, by rw [HE.out]; exact g3.next (Below.refl _ _).drew⟩
  case done =>
    rintro D xs W hD hxs ⟨b2, c2, hs⟩ hK
    subst hxs
    rw [folT_all, ← HRR.out] at hs
    have hD1 : w.heap.size + 1 < D := by have := HS6.out; omega
    clear hD hseq
    obtain ⟨z0, z1, z2, z3⟩ := hs.box.cells
    cases hq : isProper r with
    | true =>
      gi_wp2
      refine ⟨trivial, callsIn_wide.2 ((full_any r _ W hs.v.weak).mono ?_)⟩
      rintro e w5 ⟨he, hb⟩
      rw [fullV_ok hq] at he
      subst he
      have hR5 := hs.res.next hb
      obtain ⟨k1, k2, k3, k4⟩ := fun_fin (D := D) (.int .i64 r.op) (.int .i64 r.n) (.string r.name) (.slice b2 r.args.length c2) (hs.below.trans (hb.mono hs.below.size)) hR5 (hs.v.next hb) (by omega) ((hb.block D (Array.getElem?_eq_some_iff.1 hK).1).trans hK)
      clear z0 z1 z2 z3
      obtain ⟨z0, z1, z2, z3⟩ := B4.cells hR5
      have f0 := B4.frozen hR5 0
      have f1 := B4.frozen hR5 1
      have f2 := B4.frozen hR5 2
      have f3 := B4.frozen hR5 3
      gi_wp2
      refine ⟨by simp, .inl ⟨_, _, rfl, run_takeDeferred k1, ?_⟩⟩
      refine ⟨_, results_two (a := 4) (b := 5) (by kernel_rfl) (B := w.heap.size + 1) (by rfl) (by rfl) k2.cells.1 k2.cells.2.1 k2.cells.2.2.1 k2.cells.2.2.2, ?_⟩
      exact ⟨(.agg #[.int .i64 r.op, .int .i64 r.n, .string r.name, .slice b2 r.args.length c2]), by rw [fullV_ok hq]; rfl, k3, k4⟩
    | false =>
      gi_wp2
      refine ⟨trivial, callsIn_wide.2 ((full_any r _ W hs.v.weak).mono ?_)⟩
      rintro e w5 ⟨he, hb⟩
      rw [fullV_bad hq] at he
      subst he
      have hR5 := hs.res.next hb
      obtain ⟨k1, k2, k3, k4⟩ := fun_fin (D := D) (.int .i64 0) (.int .i64 0) (.string ⟨#[]⟩) (.slice none 0 0) (hs.below.trans (hb.mono hs.below.size)) hR5 (hs.v.next hb) (by omega) ((hb.block D (Array.getElem?_eq_some_iff.1 hK).1).trans hK)
      clear z0 z1 z2 z3
      obtain ⟨z0, z1, z2, z3⟩ := B4.cells hR5
      have f0 := B4.frozen hR5 0
      have f1 := B4.frozen hR5 1
      have f2 := B4.frozen hR5 2
      have f3 := B4.frozen hR5 3
      gi_wp2
      refine ⟨by simp, .inl ⟨_, _, rfl, run_takeDeferred k1, ?_⟩⟩
      refine ⟨_, results_two (a := 4) (b := 5) (by kernel_rfl) (B := w.heap.size + 1) (by rfl) (by rfl) k2.cells.1 k2.cells.2.1 k2.cells.2.2.1 k2.cells.2.2.2, ?_⟩
      exact ⟨(.agg #[.int .i64 r.op, .int .i64 r.n, .string r.name, .slice b2 r.args.length c2]), by rw [fullV_bad hq]; rfl, k3, k4⟩
  case stop =>
    rintro D c pre W _ _ h _
    exact h.elim
end Ty
end Go.Proofs.Ytfjgebdpbmnicaa
