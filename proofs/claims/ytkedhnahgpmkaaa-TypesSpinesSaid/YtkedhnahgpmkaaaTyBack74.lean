/- What slices.Backward hands over: the types of a row, the last one first. Conditions: the row lies in memory. -/
import Derived.Test.YtkedhnahgpmkaaaTySpBad
import Derived.RangeFuncNested
import Derived.RangeFuncBound
import Derived.RangeFuncCalls
import Derived.RangeFuncLeaves
import Derived.Shelf.Abstract
import Derived.Shelf.RegionOpen
import Derived.OwnWalkIn
import Derived.TacticsInMore
import Derived.LoopNIn
import Derived.LoopIn
import Derived.Deep.Slices
namespace Go.Proofs.Ytkedhnahgpmkaaa
open Go.RowKit Go.Shelf

attribute [local go_sem] Oper.semAt_some

namespace Ty
/-- a place in a list -/
abbrev Dn (len : Nat) := { k : Nat // k < len }
/-- what has come when k rounds are over: the last k places, the last one first -/
def dnto (len : Nat) : Nat → List (Dn len)
  | 0 => []
  | k + 1 => dnto len k ++ (if h : len - 1 - k < len then [⟨len - 1 - k, h⟩] else [])
theorem dnto_succ {len q : Nat} (h : q < len) : dnto len (len - q) = dnto len (len - (q + 1)) ++ [⟨q, h⟩] := by
  obtain ⟨k, hk⟩ : ∃ k, len - (q + 1) = k := ⟨_, rfl⟩
  have e : len - q = k + 1 := by omega
  have eq : len - 1 - k = q := by omega
  subst eq
  rw [e, hk, dnto, dif_pos h]
theorem dnto_length {len : Nat} : ∀ k, k ≤ len → (dnto len k).length = k
  | 0, _ => rfl
  | k + 1, h => by
    rw [dnto, dif_pos (by omega), List.length_append, dnto_length k (by omega)]
    rfl
def encD (ts : Nat → TC) {len : Nat} (x : Dn len) : Array Value := #[.int .i64 (x.1 : Int), .agg #[.int .i64 (ts x.1).op, .int .i64 (ts x.1).n, .string (ts x.1).name, .slice (ts x.1).b (ts x.1).len (ts x.1).cap]]

/-- what lies in the blocks that are named is kept -/
def KC (ok : Nat → Prop) (W W' : World) : Prop := ∀ (p : Addr) v, ok p.block → W.cell? p = some v → W'.cell? p = some v
theorem KC.refl (ok : Nat → Prop) (W : World) : KC ok W W := fun _ _ _ h => h
theorem KC.trans {ok : Nat → Prop} {A B C : World} (h : KC ok A B) (k : KC ok B C) : KC ok A C := fun p v h1 h2 => k p v h1 (h p v h1 h2)
theorem KC.putObj {ok : Nat → Prop} (W : World) (l : Nat) (o o' : Obj) (h : W.heap[l]? = some o) (ho : o.isCells = false) : KC ok W (W.putObj l o') := fun p v _ hc =>
  (grownBy_putObj' W l o').cell hc (fun e => by
    injection e with e
    unfold World.cell? at hc
    rw [e, h] at hc
    cases o <;> simp [Obj.isCells] at ho hc)

set_option maxRecDepth 100000 in
set_option maxHeartbeats 4000000 in
theorem back107 (F : Fence) (n : Nat) (h107 : F.fn 107) (hro : F.round = none) (hn : 1 ≤ n) (l Bs b off len cap : Nat) (ok : Nat → Prop) (ts : Nat → TC) (hreach : len ≤ 1000000) (hb : ok b) (hBn : ok Bs) (J Jx : List (Dn len) → World → Prop)
    (hY : ∀ pre x W, J pre W → pre.length < len → YieldAt F (n - 1) Try.prog l (encD ts x) W fun e W' =>
      (e = .returned (.bool true) ∧ J (pre ++ [x]) W' ∧ KC ok W W') ∨ (e = .returned (.bool false) ∧ Jx (pre ++ [x]) W'))
    (W : World) (hBs : W.cell? ⟨Bs, 0, none⟩ = some (.slice (some ⟨b, off, none⟩) len cap))
    (hc : ∀ j, j < len → W.cell? ⟨b, off + j * 4, none⟩ = some (.int .i64 (ts j).op) ∧ W.cell? ⟨b, off + j * 4 + 1, none⟩ = some (.int .i64 (ts j).n) ∧ W.cell? ⟨b, off + j * 4 + 2, none⟩ = some (.string (ts j).name) ∧ W.cell? ⟨b, off + j * 4 + 3, none⟩ = some (.slice (ts j).b (ts j).len (ts j).cap)) (h0 : J [] W) :
    CallsIn F n Try.prog 107 #[.func (.yield l) #[] #[], .pointer (some ⟨Bs, 0, none⟩)] W fun e W' => (∃ v, e = .returned v) ∧
      ((∃ ys, ys = dnto len len ∧ J ys W') ∨ (∃ pre, True ∧ Jx pre W')) := by
  refine callsIn_of_wp Try.func107 rfl h107 ?_ hro
  simp only [Try.ntmps107, List.size_toArray, List.length_cons, List.length_nil, Nat.reduceAdd, Nat.reduceSub, Array.replicate_succ, Array.replicate_zero, List.push_toArray, List.append_toArray, List.nil_append, List.cons_append]
  gi_wp2
  gi_loopw [3] (fun i wr => ∃ m : Nat, m ≤ len ∧ i = .int .i64 ((m : Int) - 1) ∧ J (dnto len (len - m)) wr ∧ KC ok W wr) (fun i _ => (intOf i + 1).toNat)
  case atStart => exact ⟨len, Nat.le_refl _, rfl, by rw [Nat.sub_self]; exact h0, KC.refl _ _⟩
  case round =>
    obtain ⟨m, hm, rfl, hJs, hnx⟩ := hrel
    have hBs' := hnx ⟨Bs, 0, none⟩ _ hBn hBs
    by_cases hlt : 0 < m
    · obtain ⟨q, rfl⟩ : ∃ q, m = q + 1 := ⟨m - 1, by omega⟩
      have hq : q < len := by omega
      obtain ⟨fn, tmps, assign, body, hy, hR⟩ := hY _ ⟨q, hq⟩ wr hJs (by rw [dnto_length _ (by omega)]; omega)
      unfold encD at hy
      dsimp only at hy
      have ek : ((q + 1 : Nat) : Int) - 1 = (q : Int) := by omega
      rw [ek]
      obtain ⟨c0, c1, c2, c3⟩ := hc q hq
      have c0 := hnx ⟨b, off + q * 4, none⟩ _ hb c0
      have c1 := hnx ⟨b, off + q * 4 + 1, none⟩ _ hb c1
      have c2 := hnx ⟨b, off + q * 4 + 2, none⟩ _ hb c2
      have c3 := hnx ⟨b, off + q * 4 + 3, none⟩ _ hb c3
      gi_wp2
      refine hR.mono ?_
      rintro e W3 (⟨rfl, hJ3, hk3⟩ | ⟨rfl, hJx3⟩)
      · gi_wp2
        go_roundw
        case rel => exact ⟨q, by omega, by go_num, by rw [dnto_succ hq]; exact hJ3, hnx.trans hk3⟩
        case measure => simp [intOf]
      · gi_wp2
        refine bodyPost_ret (results_none rfl _ _ _) rfl ?_
        exact ⟨⟨_, rfl⟩, .inr ⟨_, trivial, hJx3⟩⟩
    · obtain rfl : m = 0 := by omega
      gi_wp2
      go_end0
      exact ⟨⟨_, rfl⟩, .inl ⟨_, rfl, hJs⟩⟩

set_option maxRecDepth 100000 in
set_option maxHeartbeats 1000000 in
/-- of an empty slice: no round -/
theorem back107_nil (F : Fence) (n : Nat) (h107 : F.fn 107) (hro : F.round = none) (l Bs : Nat) (a0 : Option Addr) (cap : Nat) (J : List (Dn 0) → World → Prop) (W : World) (hBs : W.cell? ⟨Bs, 0, none⟩ = some (.slice a0 0 cap)) (h0 : J [] W) :
    CallsIn F n Try.prog 107 #[.func (.yield l) #[] #[], .pointer (some ⟨Bs, 0, none⟩)] W fun e W' => (∃ v, e = .returned v) ∧ J [] W' := by
  refine callsIn_of_wp Try.func107 rfl h107 ?_ hro
  simp only [Try.ntmps107, List.size_toArray, List.length_cons, List.length_nil, Nat.reduceAdd, Nat.reduceSub, Array.replicate_succ, Array.replicate_zero, List.push_toArray, List.append_toArray, List.nil_append, List.cons_append]
  gi_wp2
  gi_loopw [3] (fun i wr => i = .int .i64 (-1) ∧ J [] wr) (fun _ _ => 0)
  case atStart => exact ⟨by go_num, h0⟩
  case round =>
    obtain ⟨rfl, hJs⟩ := hrel
    gi_wp2
    go_end0
    exact ⟨⟨_, rfl⟩, hJs⟩

set_option maxHeartbeats 1000000 in
/-- slices.Backward: the slice lies in a box; the function value has the box -/
theorem back74 (F : Fence) (n : Nat) (h74 : F.fn 74) (hro : F.round = none) (a : Option Addr) (len cap : Nat) (w : World) :
    CallsIn F n Try.prog 74 #[.slice a len cap] w fun e w' => e = .returned (.func (.func 107) #[] #[.pointer (some ⟨w.heap.size, 0, none⟩)]) ∧ w' = w.alloc (.cells #[.slice a len cap] 22) := by
  refine callsIn_of_wp Try.func74 rfl h74 ?_ hro
  simp only [Try.ntmps74, List.size_toArray, List.length_cons, List.length_nil, Nat.reduceAdd, Nat.reduceSub, Array.replicate_succ, Array.replicate_zero, List.push_toArray, List.append_toArray, List.nil_append, List.cons_append]
  gi_wp2
  go_ret
  exact ⟨rfl, rfl⟩

/-- the cells of a list of types -/
theorem sl_tcs {w : World} {base : Option Addr} {l : List Ty} (hl : Sl w base l) (hne : l ≠ []) : ∃ g o, base = some ⟨g, o, none⟩ ∧ g < w.heap.size ∧ ∃ ts : Nat → TC, ∀ j (h : j < l.length), (w.cell? ⟨g, o + j * 4, none⟩ = some (.int .i64 (ts j).op) ∧ w.cell? ⟨g, o + j * 4 + 1, none⟩ = some (.int .i64 (ts j).n) ∧ w.cell? ⟨g, o + j * 4 + 2, none⟩ = some (.string (ts j).name) ∧ w.cell? ⟨g, o + j * 4 + 3, none⟩ = some (.slice (ts j).b (ts j).len (ts j).cap)) ∧
    V w (l[j]'h) (.agg #[.int .i64 (ts j).op, .int .i64 (ts j).n, .string (ts j).name, .slice (ts j).b (ts j).len (ts j).cap]) := by
  rcases hl.2 with h0 | ⟨g, o, e, hrow⟩
  · exact absurd h0 hne
  refine ⟨g, o, e, row_lt hrow hne, ?_⟩
  have each : ∀ j, j < l.length → ∃ t : TC, ∃ h : j < l.length, (w.cell? ⟨g, o + j * 4, none⟩ = some (.int .i64 t.op) ∧ w.cell? ⟨g, o + j * 4 + 1, none⟩ = some (.int .i64 t.n) ∧ w.cell? ⟨g, o + j * 4 + 2, none⟩ = some (.string t.name) ∧ w.cell? ⟨g, o + j * 4 + 3, none⟩ = some (.slice t.b t.len t.cap)) ∧
      V w (l[j]'h) (.agg #[.int .i64 t.op, .int .i64 t.n, .string t.name, .slice t.b t.len t.cap]) := fun j h => by
    obtain ⟨xb, xc, d0, d1, d2, d3, hv⟩ := at_v (row_at h hrow)
    exact ⟨⟨(l[j]'h).op, (l[j]'h).n, (l[j]'h).name, xb, (l[j]'h).args.length, xc⟩, h, ⟨d0, d1, d2, d3⟩, hv⟩
  have : Inhabited TC := ⟨⟨0, 0, ⟨#[]⟩, none, 0, 0⟩⟩
  obtain ⟨f, hf⟩ := Go.Deep.choose_lt each
  exact ⟨f, fun j h => by obtain ⟨_, h1, h2⟩ := hf j h; exact ⟨h1, h2⟩⟩

/-- what Backward hands over stops, at whatever keeps the row and the box -/
theorem back_stops (F : Fence) (n : Nat) (h107 : F.fn 107) (hro : F.round = none) (hn : 1 ≤ n) (Bs g o len cap : Nat) (ok : Nat → Prop) (ts : Nat → TC) (hreach : len ≤ 1000000) (w : World) (hg : ok g) (hBn : ok Bs) (hok : ∀ g, ok g → g < w.heap.size)
    (hBs : w.cell? ⟨Bs, 0, none⟩ = some (.slice (some ⟨g, o, none⟩) len cap))
    (hc : ∀ j, j < len → w.cell? ⟨g, o + j * 4, none⟩ = some (.int .i64 (ts j).op) ∧ w.cell? ⟨g, o + j * 4 + 1, none⟩ = some (.int .i64 (ts j).n) ∧ w.cell? ⟨g, o + j * 4 + 2, none⟩ = some (.string (ts j).name) ∧ w.cell? ⟨g, o + j * 4 + 3, none⟩ = some (.slice (ts j).b (ts j).len (ts j).cap)) :
    SeqStopsK F n Try.prog 107 #[.pointer (some ⟨Bs, 0, none⟩)] (encD ts (len := len)) (KC ok) (fun ys => ys = dnto len len) (fun _ => True) len w := fun l J Jx W hW _ _ hY h0 => by
  have hk : ∀ (p : Addr) v, ok p.block → w.cell? p = some v → W.cell? p = some v := fun p v hp hcl => (hW.cell (p := p) (hok _ hp)).trans hcl
  exact back107 F n h107 hro hn l Bs g o len cap ok ts hreach hg hBn J Jx hY W (hk _ _ hBn hBs) (fun j hj => by obtain ⟨h1, h2, h3, h4⟩ := hc j hj; exact ⟨hk _ _ hg h1, hk _ _ hg h2, hk _ _ hg h3, hk _ _ hg h4⟩) h0
theorem back_stops_nil (F : Fence) (n : Nat) (h107 : F.fn 107) (hro : F.round = none) (Bs : Nat) (a0 : Option Addr) (cap : Nat) (ts : Nat → TC) (ok : Nat → Prop) (w : World) (hB : Bs < w.heap.size) (hBs : w.cell? ⟨Bs, 0, none⟩ = some (.slice a0 0 cap)) :
    SeqStopsK F n Try.prog 107 #[.pointer (some ⟨Bs, 0, none⟩)] (encD ts (len := 0)) (KC ok) (fun ys => ys = dnto 0 0) (fun _ => True) 0 w := fun l J _ W hW _ _ _ h0 =>
  (back107_nil F n h107 hro l Bs a0 cap J W ((hW.cell (p := ⟨Bs, 0, none⟩) hB).trans hBs) h0).mono fun _ _ ⟨h1, h2⟩ => ⟨h1, .inl ⟨_, rfl, h2⟩⟩
end Ty
end Go.Proofs.Ytkedhnahgpmkaaa
