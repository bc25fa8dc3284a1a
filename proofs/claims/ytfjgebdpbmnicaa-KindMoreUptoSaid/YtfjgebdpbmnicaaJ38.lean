/- What within returns: the walker with one kind more. Conditions: the context lies in memory, at most 1000 kinds. -/
import Derived.Test.YtfjgebdpbmnicaaJ37
import Derived.Test.YtfjgebdpbmnicaaJ10
import Derived.Deep.RegionLawGrows
import Derived.Deep.RegionHeld3
namespace Go.Proofs.Ytfjgebdpbmnicaa
open Go.RowKit

namespace Ty
def ldw6 : Oper := { dst := some 6, op := Op.load 32 (Operand.tmp 5), type := 32, pos := "walk.go:19", after := #[{ on := 0, ground := Ground.data }], guard := none }
theorem ldw6_eq : ldw6 = { dst := some 6, op := Op.load 32 (Operand.tmp 5), type := 32, pos := "walk.go:19", after := #[{ on := 0, ground := Ground.data }], guard := none } := rfl
def ldw8 : Oper := { dst := some 8, op := Op.load 32 (Operand.tmp 7), type := 32, pos := "walk.go:19", after := #[{ on := 2, ground := Ground.data }], guard := none }
theorem ldw8_eq : ldw8 = { dst := some 8, op := Op.load 32 (Operand.tmp 7), type := 32, pos := "walk.go:19", after := #[{ on := 2, ground := Ground.data }], guard := none } := rfl
def ldw11 : Oper := { dst := some 11, op := Op.load 32 (Operand.tmp 10), type := 32, pos := "walk.go:19", after := #[{ on := 5, ground := Ground.data }], guard := none }
theorem ldw11_eq : ldw11 = { dst := some 11, op := Op.load 32 (Operand.tmp 10), type := 32, pos := "walk.go:19", after := #[{ on := 5, ground := Ground.data }], guard := none } := rfl
theorem results_wk {fn : Func} {a : Tmp} (hfn : fn.results = #[.cell a 61]) {tmps : Array Value} {w : World} {B : Nat} {v0 v1 v2 v3 : Value} (h : tmps.getD a undef = .pointer (some ⟨B, 0, none⟩)) (hB : W4 w B v0 v1 v2 v3) :
    (results fn tmps).run Try.prog w = .ok (.agg #[v0, v1, v2, v3]) w := by
  have h' : tmps[a]?.getD undef = .pointer (some ⟨B, 0, none⟩) := by rw [← h]; simp
  obtain ⟨c0, c1, c2, c3⟩ := hB.cells
  simp [results, hfn, h', c0, c1, c2, c3, go_sem]
theorem sl_lt {w : World} {b : Option Addr} {l : List Ty} (h : Sl w b l) : SlO (· < w.heap.size) w b l := by
  obtain ⟨h1, h2 | ⟨g, o, e, h2⟩⟩ := h
  · exact ⟨h1, .inl h2⟩
  · cases l with
    | nil => exact ⟨h1, .inl rfl⟩
    | cons t l =>
      have hg : g < w.heap.size := by
        obtain ⟨_, _, c0, _⟩ := at_v h2.1
        exact World.block_lt_of_cell? w _ c0
      exact ⟨h1, .inr ⟨g, o, e, hg, Row.bound h2⟩⟩
theorem rowO_tc {ok : Nat → Prop} {w : World} {g : Nat} : ∀ (l : List Ty) (o : Nat), RowO ok w g o l → ∃ ds, TC.AllOf ok w ds l ∧ ∀ j u, (TC.all ds)[j]? = some u → w.cell? ⟨g, o + j, none⟩ = some u
  | [], o, _ => ⟨[], ⟨rfl, fun i h => absurd h (Nat.not_lt_zero _)⟩, fun j u h => by unfold TC.all at h; simp at h⟩
  | t :: l, o, hr => by
    obtain ⟨ds, ⟨h1, h2⟩, h3⟩ := rowO_tc l (o + 4) hr.2
    obtain ⟨c0, c1, c2, hs, b, cap, c3, hsl⟩ := atO_iff.mp hr.1
    refine ⟨⟨t.op, t.n, t.name, b, t.args.length, cap⟩ :: ds, ⟨by simp [h1], fun i h h' => ?_⟩, fun j u hu => ?_⟩
    · cases i with
      | zero => exact ⟨rfl, rfl, rfl, rfl, hs, hsl⟩
      | succ i => exact h2 i (by simpa using h) (by simpa using h')
    · unfold TC.all at hu h3
      rw [List.flatMap_cons] at hu
      by_cases hj : j < 4
      · rw [List.getElem?_append_left (by rw [TC.enc_len]; exact hj)] at hu
        match j, hj, hu with
        | 0, _, hu => injection hu with hu; rw [← hu]; exact c0
        | 1, _, hu => injection hu with hu; rw [← hu]; exact c1
        | 2, _, hu => injection hu with hu; rw [← hu]; exact c2
        | 3, _, hu => injection hu with hu; rw [← hu]; exact c3
      · rw [List.getElem?_append_right (by rw [TC.enc_len]; omega), TC.enc_len] at hu
        have := h3 (j - 4) u hu
        rwa [show o + 4 + (j - 4) = o + j from by omega] at this
/-- a kind appended to a context that came in, without room -/
theorem step_ctx {ok : Nat → Prop} {ops : Array Oper} {o : Oper} {a : Act} {w : World} {K : Act → World → Prop} {Q : Exit → Act → World → Prop} {E : Prop} (hg : o.guard = none) (s x : Operand)
    (hop : o.op = Op.call { callee := Callee.builtin Builtin.append, args := #[s, x], argTypes := #[32, 32] }) {xb : Option Addr} {n : Nat} {ctx : List Ty} (hn : ctx.length = n) (h1000 : n ≤ 1000) (hs : a.eval s = .slice xb n n) (hsl : SlO ok w xb ctx)
    {D : Nat} {k : Ty} {kb : Option Addr} {kc : Nat} (hx : a.eval x = .slice (some ⟨D, 0, none⟩) 1 1) (hD : B4 w D (.int .i64 k.op) (.int .i64 k.n) (.string k.name) (.slice kb k.args.length kc)) (hk : VO ok w k (.agg #[.int .i64 k.op, .int .i64 k.n, .string k.name, .slice kb k.args.length kc]))
    (hK : ∀ nb nc w', n + 1 ≤ nc → SlO (fun g => ok g ∨ w.heap.size ≤ g) w' nb (ctx ++ [k]) → Below w.heap.size w w' → K (a.put o.dst (.slice nb (n + 1) nc)) w') :
    if Region.wanted o (yielded ops a.tmps) = true then Oper.wp Try.prog o a w K Q else E := by
  subst hn
  obtain ⟨i0, hi0, hz0, hz1, hz2⟩ := info_parts info24
  obtain ⟨ks, ksl⟩ := vo_parts hk
  have hkof : TC.Of ok w ⟨k.op, k.n, k.name, kb, k.args.length, kc⟩ k := ⟨rfl, rfl, rfl, rfl, ks, ksl⟩
  obtain ⟨ds, hds, hcells⟩ : ∃ ds, TC.AllOf ok w ds ctx ∧ ∀ b, xb = some b → ∀ j u, (TC.all ds)[j]? = some u → w.cell? (b.add j) = some u := by
    rcases hsl.2 with h | ⟨g, o, h, _, hr⟩
    · subst h
      exact ⟨[], ⟨rfl, fun i h => absurd h (Nat.not_lt_zero _)⟩, fun b _ j u h => by unfold TC.all at h; simp at h⟩
    · subst h
      obtain ⟨ds, h1, h2⟩ := rowO_tc ctx o hr
      refine ⟨ds, h1, fun b hb j u hu => ?_⟩
      have hb' := Option.some.inj hb
      rw [← hb']
      have h3 := h2 j u hu
      rwa [← Addr.add_lit] at h3
  obtain ⟨c0, c1, c2, c3⟩ := hD.cells
  refine step_append_grows hg s x 32 hop 36 i0 _ 4 56 Try.underlying32 hi0 hz0 hz1 hz2 rfl (by omega) xb ctx.length ctx.length (TC.all ds) hs (fun h => ?_) (by rw [TC.all_len, hds.1]) hcells ⟨D, 0, none⟩ 1 1 (TC.enc ⟨k.op, k.n, k.name, kb, k.args.length, kc⟩) hx rfl ?_ (TC.enc_one _) (by omega) (by unfold maxLen; omega) (by omega) ?_
  · subst h
    rcases hsl.2 with h | ⟨g, o, h, _, _⟩
    · rw [h]; exact ⟨rfl, rfl⟩
    · cases h
  · intro j u hu
    rw [Addr.add_lit]
    unfold TC.enc at hu
    match j, hu with
    | 0, hu => simp at hu; rw [← hu]; exact c0
    | 1, hu => simp at hu; rw [← hu]; exact c1
    | 2, hu => simp at hu; rw [← hu]; exact c2
    | 3, hu => simp at hu; rw [← hu]; exact c3
  · intro v' w' hown hgr
    have hall := hds.snoc hkof
    have hb : Below w.heap.size w w' := ⟨hgr.os, hgr.tape, hgr.output, hgr.size, fun j hj => hgr.block j hj (by simp)⟩
    rw [← TC.all_snoc] at hown
    have hlen : (ds ++ [(⟨k.op, k.n, k.name, kb, k.args.length, kc⟩ : TC)]).length = ctx.length + 1 := by simp [hds.1]
    rw [← hlen] at hown
    obtain ⟨g, nc, rfl, hg, hh⟩ := cells_own hown (by simp)
    have hcap : ctx.length + 1 ≤ nc := by
      rcases hown.2 with ⟨_, h0⟩ | ⟨g, cap, cur, hv, _, _, hle, _⟩
      · simp at h0
      · injection hv with _ _ h3
        rw [h3]
        rw [hlen] at hle
        exact hle
    have hro := row_held hh (hall.keep (ok' := fun q => ok q ∨ w.heap.size ≤ q) (fun _ h => .inl h) (fun p v hp hc => keeps hb p v hc))
    rw [hlen]
    exact hK _ nc w' hcap ⟨by simp; unfold maxLen; omega, .inr ⟨g, 0, rfl, .inr hg, hro⟩⟩ hb
/-- a walker's box, a kind's and the result's -/
structure Wi3 (w W : World) (a0 a1 a2 a3 b0 b1 b2 b3 : Value) : Prop where
  below : Below w.heap.size w W
  wk : W4 W w.heap.size a0 a1 a2 a3
  k : B4 W (w.heap.size + 1) b0 b1 b2 b3
  r : W4 W (w.heap.size + 2) (.pointer none) (.slice none 0 0) (.slice none 0 0) (.slice none 0 0)
theorem Wi3.new (w : World) (a0 a1 a2 a3 b0 b1 b2 b3 : Value) : Wi3 w (((w.alloc (Obj.cells #[a0, a1, a2, a3] 61)).alloc (Obj.cells #[b0, b1, b2, b3] 36)).alloc (Obj.cells #[.pointer none, .slice none 0 0, .slice none 0 0, .slice none 0 0] 61)) a0 a1 a2 a3 b0 b1 b2 b3 := by
  have e1 : (w.alloc (Obj.cells #[a0, a1, a2, a3] 61)).heap.size = w.heap.size + 1 := by simp
  have e2 : ((w.alloc (Obj.cells #[a0, a1, a2, a3] 61)).alloc (Obj.cells #[b0, b1, b2, b3] 36)).heap.size = w.heap.size + 2 := by simp
  refine ⟨(below_two w _ _).alloc (by simp; omega) _, ?_, ?_, ?_⟩
  · exact (Below.heap_alloc _ _ _ (by rw [e2]; omega)).trans ((Below.heap_alloc _ _ _ (by rw [e1]; omega)).trans (heap_alloc_new w _))
  · have := heap_alloc_new (w.alloc (Obj.cells #[a0, a1, a2, a3] 61)) (Obj.cells #[b0, b1, b2, b3] 36)
    rw [e1] at this
    exact (Below.heap_alloc _ _ _ (by rw [e2]; omega)).trans this
  · have := heap_alloc_new ((w.alloc (Obj.cells #[a0, a1, a2, a3] 61)).alloc (Obj.cells #[b0, b1, b2, b3] 36)) (Obj.cells #[.pointer none, .slice none 0 0, .slice none 0 0, .slice none 0 0] 61)
    rw [e2] at this
    exact this
theorem Wi3.next {w W W' : World} {a0 a1 a2 a3 b0 b1 b2 b3 : Value} (h : Wi3 w W a0 a1 a2 a3 b0 b1 b2 b3) (hb : Below W.heap.size W W') : Wi3 w W' a0 a1 a2 a3 b0 b1 b2 b3 :=
  ⟨h.below.trans (hb.mono h.below.size), h.wk.next hb, h.k.next hb, h.r.next hb⟩
theorem putW_cells {w : World} {B : Nat} {u0 u1 u2 u3 : Value} (h : W4 w B u0 u1 u2 u3) (v0 v1 v2 v3 : Value) : W4 (put4 w B v0 v1 v2 v3) B v0 v1 v2 v3 := by
  have h' : w.heap[B]? = some (Obj.cells #[u0, u1, u2, u3] 61) := h
  unfold W4 put4
  simp [World.setCell, Array.getElem?_modify, h']
theorem sl_weak {ok : Nat → Prop} {w : World} {base : Option Addr} {l : List Ty} (h : SlO ok w base l) : Sl w base l := by
  obtain ⟨h1, h2 | ⟨g, o, e, _, h2⟩⟩ := h
  · exact ⟨h1, .inl h2⟩
  · exact ⟨h1, .inr ⟨g, o, e, RowO.weak h2⟩⟩
theorem one_put {W : World} {B o : Nat} {p0 p1 p2 p3 : Addr} {c0 c1 c2 c3 : Value} (h0 : W.cell? p0 = some c0) (h1 : W.cell? p1 = some c1) (h2 : W.cell? p2 = some c2) (h3 : W.cell? p3 = some c3) (v : Value) (hne : p0.block ≠ B ∧ p1.block ≠ B ∧ p2.block ≠ B ∧ p3.block ≠ B) :
    (W.setCell ⟨B, o, none⟩ v).cell? p0 = some c0 ∧ (W.setCell ⟨B, o, none⟩ v).cell? p1 = some c1 ∧ (W.setCell ⟨B, o, none⟩ v).cell? p2 = some c2 ∧ (W.setCell ⟨B, o, none⟩ v).cell? p3 = some c3 :=
  ⟨(World.cell?_setCell_other _ _ _ _ (fun e => hne.1 (by rw [← e]))).trans h0, (World.cell?_setCell_other _ _ _ _ (fun e => hne.2.1 (by rw [← e]))).trans h1, (World.cell?_setCell_other _ _ _ _ (fun e => hne.2.2.1 (by rw [← e]))).trans h2, (World.cell?_setCell_other _ _ _ _ (fun e => hne.2.2.2 (by rw [← e]))).trans h3⟩

set_option maxHeartbeats 8000000 in
theorem within_any (E ml mc rl rc : Nat) (mb rb : Option Addr) (ctx : List Ty) (xb : Option Addr) (xc : Nat) (k : Ty) (kv : Value) (w : World) (h1000 : ctx.length ≤ 1000) (hcx : ctx.length ≤ xc) (hsl : Sl w xb ctx) (hk : V w k kv) :
    Calls Try.prog 48 #[.agg #[(.pointer (some ⟨E, 0, none⟩)), (.slice mb ml mc), (.slice rb rl rc), .slice xb ctx.length xc], kv] w fun e w' => Below w.heap.size w w' ∧ ∃ b c, e = .returned (.agg #[(.pointer (some ⟨E, 0, none⟩)), (.slice mb ml mc), (.slice rb rl rc), .slice b (ctx.length + 1) c]) ∧ ctx.length + 1 ≤ c ∧ Sl w' b (ctx ++ [k]) := by
  have HVK := Lib.hid hk
  obtain ⟨kb, kc, ev, _, _⟩ := hk
  subst ev
  have HSL := Lib.hid hsl
  have HPOST := Lib.hid (fun (e : Ending) (w' : World) (b : Option Addr) (c : Nat) (h1 : Below w.heap.size w w') (h2 : e = .returned (.agg #[(.pointer (some ⟨E, 0, none⟩)), (.slice mb ml mc), (.slice rb rl rc), .slice b (ctx.length + 1) c])) (h3 : ctx.length + 1 ≤ c) (h4 : Sl w' b (ctx ++ [k])) => show Below w.heap.size w w' ∧ ∃ b c, e = .returned (.agg #[(.pointer (some ⟨E, 0, none⟩)), (.slice mb ml mc), (.slice rb rl rc), .slice b (ctx.length + 1) c]) ∧ ctx.length + 1 ≤ c ∧ Sl w' b (ctx ++ [k]) from ⟨h1, b, c, h2, h3, h4⟩)
  obtain ⟨n, hn⟩ : ∃ n, n = ctx.length := ⟨_, rfl⟩
  rw [← hn] at h1000 hcx HPOST ⊢
  have HN := Lib.hid hn.symm
  have HM := Lib.hid (Wi3.new w (.pointer (some ⟨E, 0, none⟩)) (.slice mb ml mc) (.slice rb rl rc) (.slice xb n xc) (.int .i64 k.op) (.int .i64 k.n) (.string k.name) (.slice kb k.args.length kc))
  have H1000 := Lib.hid h1000
  have hcx' : (n : Int) ≤ xc := by omega
  clear hn hsl h1000
  go_enter Try.func48, Try.ntmps48
  go_upto_region 1 with fail
  obtain ⟨W1, hW1⟩ : ∃ W1, W1 = ((w.alloc (Obj.cells #[(.pointer (some ⟨E, 0, none⟩)), (.slice mb ml mc), (.slice rb rl rc), .slice xb n xc] 61)).alloc (Obj.cells #[.int .i64 k.op, .int .i64 k.n, .string k.name, .slice kb k.args.length kc] 36)).alloc (Obj.cells #[.pointer none, .slice none 0 0, .slice none 0 0, .slice none 0 0] 61) := ⟨_, rfl⟩
  rw [← hW1] at HM ⊢
  clear hW1
  obtain ⟨_, _, _, d3⟩ := HM.out.wk.cells
  obtain ⟨k0, k1, k2, k3⟩ := HM.out.k.cells
  have hal : Below W1.heap.size W1 (W1.alloc (Obj.cells #[.int .i64 k.op, .int .i64 k.n, .string k.name, .slice kb k.args.length kc] 36)).drew := ((Below.refl _ _).alloc (Nat.le_refl _) _).drew
  have g3 := keeps hal _ _ d3
  have g4 := keeps hal _ _ k0
  have g5 := keeps hal _ _ k1
  have g6 := keeps hal _ _ k2
  have g7 := keeps hal _ _ k3
  have HD : Hid (B4 (W1.alloc (Obj.cells #[.int .i64 k.op, .int .i64 k.n, .string k.name, .slice kb k.args.length kc] 36)).drew W1.heap.size (.int .i64 k.op) (.int .i64 k.n) (.string k.name) (.slice kb k.args.length kc)) := Lib.hid (heap_alloc_new W1 _)
  have HMA := Lib.hid (HM.out.next hal)
  have HVA := Lib.hid (HVK.out.bound.next HMA.out.below)
  have HSA := Lib.hid ((sl_lt HSL.out).keep (fun _ h => h) (fun p v _ hc => keeps HMA.out.below p v hc))
  have hdr := drew_below W1
  have d3 := keeps hdr _ _ d3
  have k0 := keeps hdr _ _ k0
  have k1 := keeps hdr _ _ k1
  have k2 := keeps hdr _ _ k2
  have k3 := keeps hdr _ _ k3
  have HNE : Hid (w.heap.size + 1 ≠ w.heap.size ∧ w.heap.size + 1 ≠ w.heap.size ∧ w.heap.size + 1 ≠ w.heap.size ∧ w.heap.size + 1 ≠ w.heap.size) := Lib.hid (by omega)
  clear hal hdr
  have hl6 := ldw6_eq
  have hl8 := ldw8_eq
  have hl11 := ldw11_eq
  rw [← ldw6_eq, ← ldw8_eq, ← ldw11_eq]
  go_region_held3 (fun W => W.cell? ⟨w.heap.size + 1, 0, none⟩ = some (.int .i64 k.op) ∧ W.cell? ⟨w.heap.size + 1, 1, none⟩ = some (.int .i64 k.n) ∧ W.cell? ⟨w.heap.size + 1, 2, none⟩ = some (.string k.name) ∧ W.cell? ⟨w.heap.size + 1, 3, none⟩ = some (.slice kb k.args.length kc))
    (first | (with_reducible exact ⟨k0, k1, k2, k3⟩) | (with_reducible exact ⟨g4, g5, g6, g7⟩) | (with_reducible exact ⟨u4, u5, u6, u7⟩) | (with_reducible exact one_put u4 u5 u6 u7 _ HNE.out))
    (first
    | (refine step_ctx (by rfl) _ _ (by rfl) HN.out H1000.out (by rfl) HSA.out (by rfl) HD.out HVA.out ?_; intro nb nc w5 hnc hs5 hb5; have HNC := Lib.hid hnc; have HS5 := Lib.hid hs5; have HM5 := Lib.hid (HMA.out.next hb5); have u4 := keeps hb5 _ _ g4; have u5 := keeps hb5 _ _ g5; have u6 := keeps hb5 _ _ g6; have u7 := keeps hb5 _ _ g7; clear hnc hs5 hb5; obtain ⟨e0, e1, e2, e3⟩ := HM5.out.wk.cells; have f3 := HM5.out.wk.frozen 3))
  all_goals
    rename_i hS
    clear hS
    obtain ⟨W6, hW6⟩ : ∃ W6, W6 = w5.setCell ⟨w.heap.size, 3, none⟩ (.slice nb (n + 1) nc) := ⟨_, rfl⟩
    have hz := lt_of_block HM.out.r
    have hbs : Below w.heap.size w5 W6 := by rw [hW6]; exact (Below.refl w.heap.size w5).setCell (show w.heap.size ≤ (⟨w.heap.size, 3, none⟩ : Addr).block from Nat.le_refl _) _
    have HB6 : Hid (Below w.heap.size w W6) := Lib.hid (HM5.out.below.trans hbs)
    have HW6 : Hid (W4 W6 w.heap.size (.pointer (some ⟨E, 0, none⟩)) (.slice mb ml mc) (.slice rb rl rc) (.slice nb (n + 1) nc)) := Lib.hid (by have h := HM5.out.wk; rw [hW6]; unfold W4 at h ⊢; simp [World.setCell, Array.getElem?_modify, h])
    have HR6 : Hid (W4 W6 (w.heap.size + 2) (.pointer none) (.slice none 0 0) (.slice none 0 0) (.slice none 0 0)) := Lib.hid (by rw [hW6]; exact (Below.heap_setCell _ _ _ _ (by show w.heap.size + 2 ≠ w.heap.size; omega)).trans HM5.out.r)
    have HS6 : Hid (SlO (fun g => g < w.heap.size ∨ w.heap.size + 3 ≤ g) W6 nb (ctx ++ [k])) := Lib.hid (HS5.out.keep (fun g hg => by rcases hg with hg | hg; exact .inl hg; exact .inr (by have : W1.heap.size ≤ g := Nat.le_trans (by simp [World.drew]) hg; omega)) (fun p v hp hc => by rw [hW6]; exact (World.cell?_setCell_other _ _ _ _ (fun e => by rw [← e] at hp; rcases hp with hp | hp; (have : w.heap.size < w.heap.size := hp; omega); (have : W1.heap.size ≤ w.heap.size := Nat.le_trans (by simp [World.drew]) hp; omega))).trans hc))
    rw [← hW6]
    clear hW6 hbs
    obtain ⟨y0, y1, y2, y3⟩ := HW6.out.cells
    obtain ⟨z0, z1, z2, z3⟩ := HR6.out.cells
    have f0 := HR6.out.frozen 0
    have f1 := HR6.out.frozen 1
    have f2 := HR6.out.frozen 2
    have f3 := HR6.out.frozen 3
    go_wp2_with fail
    refine bodyPost_ret (results_wk (a := 4) (by kernel_rfl) (B := w.heap.size + 2) (by rfl) (putW_cells HR6.out _ _ _ _)) rfl ?_
    refine HPOST.out _ _ nb nc (below_put4 HB6.out (by omega) _ _ _ _) rfl HNC.out (sl_weak (HS6.out.keep (ok' := fun _ => True) (fun _ _ => trivial) (fun p v hp hc => put4_keep _ _ _ _ p v hc (by rcases hp with hp | hp <;> omega))))
end Ty
end Go.Proofs.Ytfjgebdpbmnicaa
