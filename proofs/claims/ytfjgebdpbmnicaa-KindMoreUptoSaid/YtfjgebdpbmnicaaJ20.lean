/- What the program's isFunction returns. Conditions: the type lies in memory and is well formed. -/
import Derived.Test.YtfjgebdpbmnicaaJ18
import Derived.Test.YtfjgebdpbmnicaaJ09
import Derived.Test.YtfjgebdpbmnicaaJ19
import Derived.RangeFuncNested
import Derived.RangeFuncBound
import Derived.RangeFuncCalls
import Derived.RangeFuncLeaves
import Derived.Shelf.Abstract
import Derived.Shelf.RegionOpen
import Derived.OwnWalkIn
import Derived.TacticsInMore
import Derived.LoopNIn
import Derived.LoopIn
import Derived.Deep.Slices
namespace Go.Proofs.Ytfjgebdpbmnicaa
open Go.RowKit

namespace Ty
/-- a type is a function's -/
def isFun (t : Ty) : Bool := t.op == 3 && (match t.args with | f :: _ => f.op == 3 && (match f.args with | h :: _ => h.op == 2 && decide (h.s = [45, 62]) | [] => false) | [] => false)
theorem isFun_no {t : Ty} (h : t.op ≠ 3) : isFun t = false := by
  unfold isFun
  rw [show (t.op == 3) = false from by simpa using h]
  rfl
theorem isFun_no2 {n : Int} {s : List UInt8} {f x : Ty} (h : f.op ≠ 3) : isFun (.mk 3 n s [f, x]) = false := by
  unfold isFun
  show ((3 : Int) == 3 && (f.op == 3 && _)) = false
  rw [show (f.op == 3) = false from by simpa using h]
  rfl
theorem isFun_eq {n m : Int} {s q : List UInt8} {h a x : Ty} : isFun (.mk 3 n s [.mk 3 m q [h, a], x]) = (h.op == 2 && decide (h.s = [45, 62])) := rfl
theorem isFun_form {t : Ty} (hg : Good t) (h : isFun t = true) : ∃ k a r, t = .mk 3 0 [] [.mk 3 0 [] [k, a], r] ∧ Good k ∧ Good a ∧ Good r := by
  cases hg with
  | var op n h1 h2 h3 => rw [isFun_no (t := .mk op n [] []) (show op ≠ 3 by omega)] at h; cases h
  | con s h1 h2 => rw [isFun_no (t := .mk 2 0 s []) (show (2 : Int) ≠ 3 by decide)] at h; cases h
  | node op f x hop hf hx =>
    by_cases h3 : op = 3
    · subst h3
      by_cases hf3 : f.op = 3
      · cases hf with
        | var op n h1 h2 h3 => exact absurd hf3 (show op ≠ 3 by omega)
        | con s h1 h2 => exact absurd hf3 (show (2 : Int) ≠ 3 by decide)
        | node op2 k a hop2 hk ha =>
          have e : op2 = 3 := hf3
          subst e
          exact ⟨k, a, x, rfl, hk, ha, hx⟩
      · rw [isFun_no2 hf3] at h; cases h
    · rw [isFun_no (t := .mk op 0 [] [f, x]) (show op ≠ 3 from h3)] at h; cases h

theorem name_is (t : Ty) : (t.name.toList == (⟨#[45, 62]⟩ : ByteArray).toList) = decide (t.s = [45, 62]) := by
  rw [Lib.toList_data, Lib.toList_data]
  unfold Ty.name
  show (t.s.toArray.toList == [45, 62]) = _
  rw [List.toList_toArray]
  by_cases h : t.s = [45, 62]
  · rw [decide_eq_true h, h]; rfl
  · rw [decide_eq_false h]; simpa using h
end Ty
end Go.Proofs.Ytfjgebdpbmnicaa

/- What the program's Arguments returns. Conditions: the type lies in memory. -/
namespace Go.Proofs.Ytfjgebdpbmnicaa
open Go.RowKit

namespace Ty
/-- a type has these arguments, and this result behind them -/
inductive ArgR : Ty → List Ty → Ty → Prop where
  | done (t : Ty) : isFun t = false → ArgR t [] t
  | app (k a r h : Ty) (l : List Ty) : isFun (.mk 3 0 [] [.mk 3 0 [] [k, a], r]) = true → ArgR r l h → ArgR (.mk 3 0 [] [.mk 3 0 [] [k, a], r]) (a :: l) h
theorem ArgR.one {t h h' : Ty} {l l' : List Ty} (a : ArgR t l h) (b : ArgR t l' h') : l = l' ∧ h = h' := by
  induction a generalizing h' l' with
  | done t hne =>
    cases b with
    | done _ _ => exact ⟨rfl, rfl⟩
    | app k a r h l hr _ => rw [hne] at hr; cases hr
  | app k a r h l hf hr ih =>
    cases b with
    | done _ hne => rw [hf] at hne; cases hne
    | app _ _ _ _ _ _ hr' =>
      obtain ⟨e1, e2⟩ := ih hr'
      exact ⟨by rw [e1], e2⟩
def PArgP (t : Ty) (w : World) (e : Ending) (w' : World) : Prop :=
  ∃ h acc v bb cap, ArgR t acc h ∧ e = .returned (.tuple #[.slice bb acc.length cap, v, .int .i64 0]) ∧ VO (w.heap.size ≤ ·) w' h v ∧ SlO (fun _ => True) w' bb acc ∧ Below w.heap.size w w'
/-- where the loop stands -/
structure AgS (w : World) (t t' : Ty) (b : Option Addr) (c : Nat) (ov : Value) (acc : List Ty) (W : World) : Prop where
  below : Below w.heap.size w W
  box : B4 W w.heap.size (.int .i64 t'.op) (.int .i64 t'.n) (.string t'.name) (.slice b t'.args.length c)
  res : B4 W (w.heap.size + 1) (.int .i64 0) (.int .i64 0) (.string ⟨#[]⟩) (.slice none 0 0)
  v : V w t' (.agg #[.int .i64 t'.op, .int .i64 t'.n, .string t'.name, .slice b t'.args.length c])
  good : Good t'
  few : nodes t' + acc.length ≤ nodes t
  own : OwnL (w.heap.size + 2) ov acc W
  rest : ∀ h l, ArgR t' l h → ArgR t (acc ++ l) h

theorem results_targ {fn : Func} {a b d : Tmp} (hfn : fn.results = #[.tmp b, .cell a 36, .tmp d]) {tmps : Array Value} {w : World} {B o : Nat} {v0 v1 v2 v3 u y : Value} (h : tmps.getD a undef = .pointer (some ⟨B, o, none⟩)) (hu : tmps.getD b undef = u) (hy : tmps.getD d undef = y)
    (c0 : w.cell? ⟨B, o, none⟩ = some v0) (c1 : w.cell? ⟨B, o + 1, none⟩ = some v1) (c2 : w.cell? ⟨B, o + 2, none⟩ = some v2) (c3 : w.cell? ⟨B, o + 3, none⟩ = some v3) :
    (results fn tmps).run Try.prog w = .ok (.tuple #[u, .agg #[v0, v1, v2, v3], y]) w := by
  have h' : tmps[a]?.getD undef = .pointer (some ⟨B, o, none⟩) := by rw [← h]; simp
  have hu' : tmps[b]?.getD undef = u := by rw [← hu]; simp
  have hy' : tmps[d]?.getD undef = y := by rw [← hy]; simp
  simp [results, hfn, h', hu', hy', c0, c1, c2, c3, go_sem]
theorem own_slk {base : Nat} {ov : Value} {ts : List Ty} {W : World} (h : OwnL base ov ts W) (hn : ts.length ≤ maxLen) : ∃ bb cap, ov = .slice bb ts.length cap ∧ SlO (base ≤ ·) W bb ts := by
  obtain ⟨bb, cap, e⟩ := h.len
  refine ⟨bb, cap, e, hn, ?_⟩
  obtain ⟨ds, h1, h2⟩ := h
  by_cases hne : ds = []
  · left
    have := h2.1
    rw [hne] at this
    exact List.length_eq_zero_iff.mp this.symm
  · obtain ⟨g, cap', e', hg, hk⟩ := cells_own h1 hne
    rw [e] at e'
    injection e' with e1 _ _
    exact .inr ⟨g, 0, e1, hg, row_held hk (h2.keep (fun _ h => h.1) (fun _ _ _ hc => hc))⟩

end Ty
end Go.Proofs.Ytfjgebdpbmnicaa

/- What the program's Spine and Fun return for what is not proper, and what the reference's SameAll returns. Conditions: the types lie in memory. -/
namespace Go.Proofs.Ytfjgebdpbmnicaa
open Go.RowKit

namespace Ty
set_option maxHeartbeats 8000000 in
theorem pfun_bad (t : Ty) (l : List Ty) (v : Value) (base : Option Addr) (cap : Nat) (w : World) (hv : V w t v) (hl : Sl w base l) (hbad : isProper t = false ∨ propersT l = false) : Calls Try.prog 30 #[.slice base l.length cap, v] w (BadP 2 w) := by
  have hty := fun W (hb : Below w.heap.size w W) => ptype_any t v W (hv.next hb)
  have hli := fun W (hb : Below w.heap.size w W) => plist_any l base cap W (hl.next hb)
  obtain ⟨b, c, ev, _, _⟩ := hv
  subst ev
  obtain ⟨ht3, ht6⟩ := two_boxes w (.int .i64 t.op) (.int .i64 t.n) (.string t.name) (.slice b t.args.length c) (.int .i64 0) (.int .i64 0) (.string ⟨#[]⟩) (.slice none 0 0)
  have hb2 : Below w.heap.size w ((w.alloc (Obj.cells #[.int .i64 t.op, .int .i64 t.n, .string t.name, .slice b t.args.length c] 36)).alloc (Obj.cells #[.int .i64 0, .int .i64 0, .string ⟨#[]⟩, .slice none 0 0] 36)) := below_two w _ _
  have HT3 := Lib.hid ht3
  have HT6 := Lib.hid ht6
  have HB2 := Lib.hid hb2
  have HC := Lib.hid hty
  have HL := Lib.hid hli
  rw [← propersB_eq] at hbad
  clear ht3 ht6 hb2 hty hli hl
  generalize hp : isProper t = p at *
  generalize hq : propersB l = q at *
  have HBAD := Lib.hid hbad
  clear hp hq hbad
  generalize l.length = n at *
  go_enter Try.func30, Try.ntmps30
  go_upto_region 1 with fail
  obtain ⟨W2, hW2⟩ : ∃ W2, W2 = (w.alloc (Obj.cells #[.int .i64 t.op, .int .i64 t.n, .string t.name, .slice b t.args.length c] 36)).alloc (Obj.cells #[.int .i64 0, .int .i64 0, .string ⟨#[]⟩, .slice none 0 0] 36) := ⟨_, rfl⟩
  rw [← hW2] at HT3 HT6 HB2 ⊢
  clear hW2
  obtain ⟨c0, c1, c2, c3⟩ := HT3.out.cells
  cases q with
  | false =>
    clear c0 c1 c2 c3
    go_wp2_with fail
    refine (HL.out W2 HB2.out).mono ?_
    rintro e w2 ⟨rfl, hb⟩
    have HR := Lib.hid (HT6.out.next hb)
    have HB := Lib.hid (HB2.out.trans (hb.mono HB2.out.size))
    clear hb HT3 HT6 HB2
    obtain ⟨z0, z1, z2, z3⟩ := HR.out.cells
    have f0 := HR.out.frozen 0
    have f1 := HR.out.frozen 1
    have f2 := HR.out.frozen 2
    have f3 := HR.out.frozen 3
    go_wp2_with fail
    refine bodyPost_ret (results_two (a := 4) (b := 5) (by kernel_rfl) (B := w.heap.size + 1) (by rfl) (by rfl) (put4_cells HR.out _ _ _ _).cells.1 (put4_cells HR.out _ _ _ _).cells.2.1 (put4_cells HR.out _ _ _ _).cells.2.2.1 (put4_cells HR.out _ _ _ _).cells.2.2.2) rfl ?_
    exact ⟨rfl, below_put4 HB.out (by omega) _ _ _ _⟩
  | true =>
    have hq : p = false := by rcases HBAD.out with h | h; exact h; cases h
    subst hq
    clear c0 c1 c2 c3
    go_wp2_with fail
    refine (HL.out W2 HB2.out).mono ?_
    rintro e w2 ⟨rfl, hb⟩
    have HR := Lib.hid (HT6.out.next hb)
    have HT := Lib.hid (HT3.out.next hb)
    have HB := Lib.hid (HB2.out.trans (hb.mono HB2.out.size))
    clear hb HT3 HT6 HB2
    obtain ⟨c0, c1, c2, c3⟩ := HT.out.cells
    go_wp2_with fail
    refine (HC.out w2 HB.out).mono ?_
    rintro e w3 ⟨rfl, hb⟩
    have HB3 := Lib.hid (HB.out.trans (hb.mono HB.out.size))
    have HR3 := Lib.hid (HR.out.next hb)
    clear hb HR HB c0 c1 c2 c3
    obtain ⟨z0, z1, z2, z3⟩ := HR3.out.cells
    have f0 := HR3.out.frozen 0
    have f1 := HR3.out.frozen 1
    have f2 := HR3.out.frozen 2
    have f3 := HR3.out.frozen 3
    go_wp2_with fail
    refine bodyPost_ret (results_two (a := 4) (b := 5) (by kernel_rfl) (B := w.heap.size + 1) (by rfl) (by rfl) (put4_cells HR3.out _ _ _ _).cells.1 (put4_cells HR3.out _ _ _ _).cells.2.1 (put4_cells HR3.out _ _ _ _).cells.2.2.1 (put4_cells HR3.out _ _ _ _).cells.2.2.2) rfl ?_
    exact ⟨rfl, below_put4 HB3.out (by omega) _ _ _ _⟩

end Ty
end Go.Proofs.Ytfjgebdpbmnicaa

/- What slices.Backward hands over: the types of a row, the last one first. Conditions: the row lies in memory. -/
namespace Go.Proofs.Ytfjgebdpbmnicaa
open Go.RowKit Go.Shelf

attribute [local go_sem] Oper.semAt_some

namespace Ty
/-- a place in a list -/
abbrev Dn (len : Nat) := { k : Nat // k < len }
/-- what has come when k rounds are over: the last k places, the last one first -/
def dnto (len : Nat) : Nat → List (Dn len)
  | 0 => []
  | k + 1 => dnto len k ++ (if h : len - 1 - k < len then [⟨len - 1 - k, h⟩] else [])
theorem dnto_succ {len q : Nat} (h : q < len) : dnto len (len - q) = dnto len (len - (q + 1)) ++ [⟨q, h⟩] := by
  obtain ⟨k, hk⟩ : ∃ k, len - (q + 1) = k := ⟨_, rfl⟩
  have e : len - q = k + 1 := by omega
  have eq : len - 1 - k = q := by omega
  subst eq
  rw [e, hk, dnto, dif_pos h]
theorem dnto_length {len : Nat} : ∀ k, k ≤ len → (dnto len k).length = k
  | 0, _ => rfl
  | k + 1, h => by
    rw [dnto, dif_pos (by omega), List.length_append, dnto_length k (by omega)]
    rfl
def encD (ts : Nat → TC) {len : Nat} (x : Dn len) : Array Value := #[.int .i64 (x.1 : Int), .agg #[.int .i64 (ts x.1).op, .int .i64 (ts x.1).n, .string (ts x.1).name, .slice (ts x.1).b (ts x.1).len (ts x.1).cap]]

/-- what lies in the blocks that are named is kept -/
def KC (ok : Nat → Prop) (W W' : World) : Prop := ∀ (p : Addr) v, ok p.block → W.cell? p = some v → W'.cell? p = some v
theorem KC.refl (ok : Nat → Prop) (W : World) : KC ok W W := fun _ _ _ h => h
theorem KC.trans {ok : Nat → Prop} {A B C : World} (h : KC ok A B) (k : KC ok B C) : KC ok A C := fun p v h1 h2 => k p v h1 (h p v h1 h2)
theorem KC.putObj {ok : Nat → Prop} (W : World) (l : Nat) (o o' : Obj) (h : W.heap[l]? = some o) (ho : o.isCells = false) : KC ok W (W.putObj l o') := fun p v _ hc =>
  (grownBy_putObj' W l o').cell hc (fun e => by
    injection e with e
    unfold World.cell? at hc
    rw [e, h] at hc
    cases o <;> simp [Obj.isCells] at ho hc)

set_option maxRecDepth 100000 in
set_option maxHeartbeats 4000000 in
theorem back107 (F : Fence) (n : Nat) (h107 : F.fn 79) (hro : F.round = none) (hn : 1 ≤ n) (l Bs b off len cap : Nat) (ok : Nat → Prop) (ts : Nat → TC) (hreach : len ≤ 1000000) (hb : ok b) (hBn : ok Bs) (J Jx : List (Dn len) → World → Prop)
    (hY : ∀ pre x W, J pre W → pre.length < len → YieldAt F (n - 1) Try.prog l (encD ts x) W fun e W' =>
      (e = .returned (.bool true) ∧ J (pre ++ [x]) W' ∧ KC ok W W') ∨ (e = .returned (.bool false) ∧ Jx (pre ++ [x]) W'))
    (W : World) (hBs : W.cell? ⟨Bs, 0, none⟩ = some (.slice (some ⟨b, off, none⟩) len cap))
    (hc : ∀ j, j < len → W.cell? ⟨b, off + j * 4, none⟩ = some (.int .i64 (ts j).op) ∧ W.cell? ⟨b, off + j * 4 + 1, none⟩ = some (.int .i64 (ts j).n) ∧ W.cell? ⟨b, off + j * 4 + 2, none⟩ = some (.string (ts j).name) ∧ W.cell? ⟨b, off + j * 4 + 3, none⟩ = some (.slice (ts j).b (ts j).len (ts j).cap)) (h0 : J [] W) :
    CallsIn F n Try.prog 79 #[.func (.yield l) #[] #[], .pointer (some ⟨Bs, 0, none⟩)] W fun e W' => (∃ v, e = .returned v) ∧
      ((∃ ys, ys = dnto len len ∧ J ys W') ∨ (∃ pre, True ∧ Jx pre W')) := by
  refine callsIn_of_wp Try.func79 rfl h107 ?_ hro
  simp only [Try.ntmps79, List.size_toArray, List.length_cons, List.length_nil, Nat.reduceAdd, Nat.reduceSub, Array.replicate_succ, Array.replicate_zero, List.push_toArray, List.append_toArray, List.nil_append, List.cons_append]
  gi_wp2
  gi_loopw [3] (fun i wr => ∃ m : Nat, m ≤ len ∧ i = .int .i64 ((m : Int) - 1) ∧ J (dnto len (len - m)) wr ∧ KC ok W wr) (fun i _ => (intOf i + 1).toNat)
  case atStart => exact ⟨len, Nat.le_refl _, rfl, by rw [Nat.sub_self]; exact h0, KC.refl _ _⟩
  case round =>
    obtain ⟨m, hm, rfl, hJs, hnx⟩ := hrel
    have hBs' := hnx ⟨Bs, 0, none⟩ _ hBn hBs
    by_cases hlt : 0 < m
    · obtain ⟨q, rfl⟩ : ∃ q, m = q + 1 := ⟨m - 1, by omega⟩
      have hq : q < len := by omega
      obtain ⟨fn, tmps, assign, body, hy, hR⟩ := hY _ ⟨q, hq⟩ wr hJs (by rw [dnto_length _ (by omega)]; omega)
      unfold encD at hy
      dsimp only at hy
      have ek : ((q + 1 : Nat) : Int) - 1 = (q : Int) := by omega
      rw [ek]
      obtain ⟨c0, c1, c2, c3⟩ := hc q hq
      have c0 := hnx ⟨b, off + q * 4, none⟩ _ hb c0
      have c1 := hnx ⟨b, off + q * 4 + 1, none⟩ _ hb c1
      have c2 := hnx ⟨b, off + q * 4 + 2, none⟩ _ hb c2
      have c3 := hnx ⟨b, off + q * 4 + 3, none⟩ _ hb c3
      gi_wp2
      refine hR.mono ?_
      rintro e W3 (⟨rfl, hJ3, hk3⟩ | ⟨rfl, hJx3⟩)
      · gi_wp2
        go_roundw
        case rel => exact ⟨q, by omega, by go_num, by rw [dnto_succ hq]; exact hJ3, hnx.trans hk3⟩
        case measure => simp [intOf]
      · gi_wp2
        refine bodyPost_ret (results_none rfl _ _ _) rfl ?_
        exact ⟨⟨_, rfl⟩, .inr ⟨_, trivial, hJx3⟩⟩
    · obtain rfl : m = 0 := by omega
      gi_wp2
      go_end0
      exact ⟨⟨_, rfl⟩, .inl ⟨_, rfl, hJs⟩⟩

set_option maxRecDepth 100000 in
set_option maxHeartbeats 1000000 in
/-- of an empty slice: no round -/
theorem back107_nil (F : Fence) (n : Nat) (h107 : F.fn 79) (hro : F.round = none) (l Bs : Nat) (a0 : Option Addr) (cap : Nat) (J : List (Dn 0) → World → Prop) (W : World) (hBs : W.cell? ⟨Bs, 0, none⟩ = some (.slice a0 0 cap)) (h0 : J [] W) :
    CallsIn F n Try.prog 79 #[.func (.yield l) #[] #[], .pointer (some ⟨Bs, 0, none⟩)] W fun e W' => (∃ v, e = .returned v) ∧ J [] W' := by
  refine callsIn_of_wp Try.func79 rfl h107 ?_ hro
  simp only [Try.ntmps79, List.size_toArray, List.length_cons, List.length_nil, Nat.reduceAdd, Nat.reduceSub, Array.replicate_succ, Array.replicate_zero, List.push_toArray, List.append_toArray, List.nil_append, List.cons_append]
  gi_wp2
  gi_loopw [3] (fun i wr => i = .int .i64 (-1) ∧ J [] wr) (fun _ _ => 0)
  case atStart => exact ⟨by go_num, h0⟩
  case round =>
    obtain ⟨rfl, hJs⟩ := hrel
    gi_wp2
    go_end0
    exact ⟨⟨_, rfl⟩, hJs⟩

set_option maxHeartbeats 1000000 in
/-- slices.Backward: the slice lies in a box; the function value has the box -/
theorem back74 (F : Fence) (n : Nat) (h74 : F.fn 59) (hro : F.round = none) (a : Option Addr) (len cap : Nat) (w : World) :
    CallsIn F n Try.prog 59 #[.slice a len cap] w fun e w' => e = .returned (.func (.func 79) #[] #[.pointer (some ⟨w.heap.size, 0, none⟩)]) ∧ w' = w.alloc (.cells #[.slice a len cap] 32) := by
  refine callsIn_of_wp Try.func59 rfl h74 ?_ hro
  simp only [Try.ntmps59, List.size_toArray, List.length_cons, List.length_nil, Nat.reduceAdd, Nat.reduceSub, Array.replicate_succ, Array.replicate_zero, List.push_toArray, List.append_toArray, List.nil_append, List.cons_append]
  gi_wp2
  go_ret
  exact ⟨rfl, rfl⟩

/-- the cells of a list of types -/
theorem sl_tcs {w : World} {base : Option Addr} {l : List Ty} (hl : Sl w base l) (hne : l ≠ []) : ∃ g o, base = some ⟨g, o, none⟩ ∧ g < w.heap.size ∧ ∃ ts : Nat → TC, ∀ j (h : j < l.length), (w.cell? ⟨g, o + j * 4, none⟩ = some (.int .i64 (ts j).op) ∧ w.cell? ⟨g, o + j * 4 + 1, none⟩ = some (.int .i64 (ts j).n) ∧ w.cell? ⟨g, o + j * 4 + 2, none⟩ = some (.string (ts j).name) ∧ w.cell? ⟨g, o + j * 4 + 3, none⟩ = some (.slice (ts j).b (ts j).len (ts j).cap)) ∧
    V w (l[j]'h) (.agg #[.int .i64 (ts j).op, .int .i64 (ts j).n, .string (ts j).name, .slice (ts j).b (ts j).len (ts j).cap]) := by
  rcases hl.2 with h0 | ⟨g, o, e, hrow⟩
  · exact absurd h0 hne
  refine ⟨g, o, e, row_lt hrow hne, ?_⟩
  have each : ∀ j, j < l.length → ∃ t : TC, ∃ h : j < l.length, (w.cell? ⟨g, o + j * 4, none⟩ = some (.int .i64 t.op) ∧ w.cell? ⟨g, o + j * 4 + 1, none⟩ = some (.int .i64 t.n) ∧ w.cell? ⟨g, o + j * 4 + 2, none⟩ = some (.string t.name) ∧ w.cell? ⟨g, o + j * 4 + 3, none⟩ = some (.slice t.b t.len t.cap)) ∧
      V w (l[j]'h) (.agg #[.int .i64 t.op, .int .i64 t.n, .string t.name, .slice t.b t.len t.cap]) := fun j h => by
    obtain ⟨xb, xc, d0, d1, d2, d3, hv⟩ := at_v (row_at h hrow)
    exact ⟨⟨(l[j]'h).op, (l[j]'h).n, (l[j]'h).name, xb, (l[j]'h).args.length, xc⟩, h, ⟨d0, d1, d2, d3⟩, hv⟩
  have : Inhabited TC := ⟨⟨0, 0, ⟨#[]⟩, none, 0, 0⟩⟩
  obtain ⟨f, hf⟩ := Go.Deep.choose_lt each
  exact ⟨f, fun j h => by obtain ⟨_, h1, h2⟩ := hf j h; exact ⟨h1, h2⟩⟩

/-- what Backward hands over stops, at whatever keeps the row and the box -/
theorem back_stops (F : Fence) (n : Nat) (h107 : F.fn 79) (hro : F.round = none) (hn : 1 ≤ n) (Bs g o len cap : Nat) (ok : Nat → Prop) (ts : Nat → TC) (hreach : len ≤ 1000000) (w : World) (hg : ok g) (hBn : ok Bs) (hok : ∀ g, ok g → g < w.heap.size)
    (hBs : w.cell? ⟨Bs, 0, none⟩ = some (.slice (some ⟨g, o, none⟩) len cap))
    (hc : ∀ j, j < len → w.cell? ⟨g, o + j * 4, none⟩ = some (.int .i64 (ts j).op) ∧ w.cell? ⟨g, o + j * 4 + 1, none⟩ = some (.int .i64 (ts j).n) ∧ w.cell? ⟨g, o + j * 4 + 2, none⟩ = some (.string (ts j).name) ∧ w.cell? ⟨g, o + j * 4 + 3, none⟩ = some (.slice (ts j).b (ts j).len (ts j).cap)) :
    SeqStopsK F n Try.prog 79 #[.pointer (some ⟨Bs, 0, none⟩)] (encD ts (len := len)) (KC ok) (fun ys => ys = dnto len len) (fun _ => True) len w := fun l J Jx W hW _ _ hY h0 => by
  have hk : ∀ (p : Addr) v, ok p.block → w.cell? p = some v → W.cell? p = some v := fun p v hp hcl => (hW.cell (p := p) (hok _ hp)).trans hcl
  exact back107 F n h107 hro hn l Bs g o len cap ok ts hreach hg hBn J Jx hY W (hk _ _ hBn hBs) (fun j hj => by obtain ⟨h1, h2, h3, h4⟩ := hc j hj; exact ⟨hk _ _ hg h1, hk _ _ hg h2, hk _ _ hg h3, hk _ _ hg h4⟩) h0
theorem back_stops_nil (F : Fence) (n : Nat) (h107 : F.fn 79) (hro : F.round = none) (Bs : Nat) (a0 : Option Addr) (cap : Nat) (ts : Nat → TC) (ok : Nat → Prop) (w : World) (hB : Bs < w.heap.size) (hBs : w.cell? ⟨Bs, 0, none⟩ = some (.slice a0 0 cap)) :
    SeqStopsK F n Try.prog 79 #[.pointer (some ⟨Bs, 0, none⟩)] (encD ts (len := 0)) (KC ok) (fun ys => ys = dnto 0 0) (fun _ => True) 0 w := fun l J _ W hW _ _ _ h0 =>
  (back107_nil F n h107 hro l Bs a0 cap J W ((hW.cell (p := ⟨Bs, 0, none⟩) hB).trans hBs) h0).mono fun _ _ ⟨h1, h2⟩ => ⟨h1, .inl ⟨_, rfl, h2⟩⟩
end Ty
end Go.Proofs.Ytfjgebdpbmnicaa
