/- Lists of types in rows of the call's own, and slices.Reverse of them. Conditions: none. -/
import Derived.Shelf.SlicesQ.Reverse
import Derived.Test.YtfjgebdpbmnicaaJ07
import Derived.Shelf.Spec.SlicesGrow
namespace Go.Proofs
open Go.Shelf
end Go.Proofs
namespace Go.Proofs.Ytfjgebdpbmnicaa
open Go.RowKit Go.Sort

namespace Ty
/-- the four cells of a type in a row -/
structure TC where
  op : Int
  n : Int
  name : ByteArray
  b : Option Addr
  len : Nat
  cap : Nat
instance : Inhabited TC := ⟨⟨0, 0, ⟨#[]⟩, none, 0, 0⟩⟩
def TC.enc (x : TC) : List Value := [.int .i64 x.op, .int .i64 x.n, .string x.name, .slice x.b x.len x.cap]
theorem TC.enc_len (x : TC) : x.enc.length = 4 := rfl
theorem TC.enc_one (x : TC) : ∀ v ∈ x.enc, v.oneCell' = true := by
  intro v hv
  simp only [TC.enc, List.mem_cons, List.not_mem_nil, or_false] at hv
  rcases hv with rfl | rfl | rfl | rfl <;> rfl
def TC.all (ds : List TC) : List Value := ds.flatMap TC.enc
theorem TC.all_len : ∀ (ds : List TC), (TC.all ds).length = ds.length * 4
  | [] => rfl
  | x :: l => by
    have := TC.all_len l
    unfold TC.all at this ⊢
    rw [List.flatMap_cons, List.length_append, this, TC.enc_len, List.length_cons]
    omega
theorem TC.all_snoc (ds : List TC) (x : TC) : TC.all (ds ++ [x]) = TC.all ds ++ x.enc := by unfold TC.all; simp
theorem TC.all_get : ∀ (ds : List TC) (i j : Nat) (h : i < ds.length), j < 4 → (TC.all ds)[i * 4 + j]? = (ds[i]'h).enc[j]?
  | x :: l, 0, j, _, hj => by
    unfold TC.all
    rw [List.flatMap_cons, List.getElem?_append_left (by rw [TC.enc_len]; omega)]
    simp
  | x :: l, i + 1, j, h, hj => by
    have := TC.all_get l i j (by simpa using h) hj
    unfold TC.all at this ⊢
    rw [List.flatMap_cons, List.getElem?_append_right (by rw [TC.enc_len]; omega), TC.enc_len, show (i + 1) * 4 + j - 4 = i * 4 + j from by omega, this]
    rfl
/-- the cells are those of a type whose parts stand in blocks that are allowed -/
def TC.Of (ok : Nat → Prop) (W : World) (x : TC) (t : Ty) : Prop := x.op = t.op ∧ x.n = t.n ∧ x.name = t.name ∧ x.len = t.args.length ∧ t.s.length ≤ maxLen ∧ SlO ok W x.b t.args
theorem TC.Of.keep {ok ok' : Nat → Prop} (hok : ∀ g, ok g → ok' g) {w w' : World} (hk : ∀ (p : Addr) v, ok p.block → w.cell? p = some v → w'.cell? p = some v) {x : TC} {t : Ty} (h : TC.Of ok w x t) : TC.Of ok' w' x t :=
  ⟨h.1, h.2.1, h.2.2.1, h.2.2.2.1, h.2.2.2.2.1, h.2.2.2.2.2.keep hok hk⟩
def TC.AllOf (ok : Nat → Prop) (W : World) (ds : List TC) (ts : List Ty) : Prop := ds.length = ts.length ∧ ∀ i (h : i < ds.length) (hts : i < ts.length), TC.Of ok W (ds[i]'h) (ts[i]'hts)
theorem TC.AllOf.keep {ok ok' : Nat → Prop} (hok : ∀ g, ok g → ok' g) {w w' : World} (hk : ∀ (p : Addr) v, ok p.block → w.cell? p = some v → w'.cell? p = some v) {ds : List TC} {ts : List Ty} (h : TC.AllOf ok w ds ts) : TC.AllOf ok' w' ds ts :=
  ⟨h.1, fun i h1 h2 => (h.2 i h1 h2).keep hok hk⟩
theorem TC.AllOf.snoc {ok : Nat → Prop} {w : World} {ds : List TC} {ts : List Ty} {x : TC} {t : Ty} (h : TC.AllOf ok w ds ts) (hx : TC.Of ok w x t) : TC.AllOf ok w (ds ++ [x]) (ts ++ [t]) := by
  refine ⟨by simp [h.1], fun i h1 h2 => ?_⟩
  by_cases hi : i < ds.length
  · have hi' : i < ts.length := by rw [← h.1]; exact hi
    rw [List.getElem_append_left hi, List.getElem_append_left hi']
    exact h.2 i hi hi'
  · have e1 : i = ds.length := by rw [List.length_append, List.length_singleton] at h1; omega
    have e2 : i = ts.length := by rw [← h.1]; exact e1
    rw [List.getElem_append_right (by omega), List.getElem_append_right (by omega)]
    simpa [e1, ← h.1] using hx
theorem TC.AllOf.reverse {ok : Nat → Prop} {w : World} {ds : List TC} {ts : List Ty} (h : TC.AllOf ok w ds ts) : TC.AllOf ok w ds.reverse ts.reverse := by
  refine ⟨by simp [h.1], fun i h1 h2 => ?_⟩
  rw [List.getElem_reverse, List.getElem_reverse]
  have h1' : i < ds.length := by simpa using h1
  have := h.2 (ds.length - 1 - i) (by omega) (by rw [← h.1]; omega)
  simpa [h.1] using this

/-- a list of types in a row of the call's own; their parts stand in new blocks, too, and not in the row's -/
def OwnL (base : Nat) (ov : Value) (ts : List Ty) (W : World) : Prop :=
  ∃ ds, W.ownsRow base 36 4 ov ds.length (TC.all ds) ∧ TC.AllOf (fun g => base ≤ g ∧ some g ≠ ov.ownBlock) W ds ts
theorem OwnL.nil (base : Nat) (W : World) : OwnL base (.slice none 0 0) [] W := ⟨[], World.ownsRow_nil _ _ _ _, rfl, fun _ h => absurd h (Nat.not_lt_zero _)⟩
theorem OwnL.len {base : Nat} {ov : Value} {ts : List Ty} {W : World} (h : OwnL base ov ts W) : ∃ bb cap, ov = .slice bb ts.length cap := by
  obtain ⟨ds, ⟨_, ⟨h1, h2⟩ | ⟨g, cap, cur, h1, _⟩⟩, h3, _⟩ := h
  · exact ⟨none, 0, by rw [h1, ← h3, h2]⟩
  · exact ⟨_, cap, by rw [h1, h3]⟩
theorem ownBlock_lt {base n : Nat} {ov : Value} {xs : List Value} {W : World} {e : TypeId} (h : W.ownsRow base e 4 ov n xs) {g : Nat} (hg : ov.ownBlock = some g) : base ≤ g ∧ g < W.heap.size := by
  rcases h.2 with ⟨h1, _⟩ | ⟨g', cap, cur, h1, h2, h3, _⟩
  · rw [h1] at hg; cases hg
  · rw [h1] at hg
    have : g' = g := by simpa [Value.ownBlock] using hg
    subst this
    exact ⟨h2, lt_of_block h3⟩
theorem OwnL.next {base : Nat} {ov : Value} {ts : List Ty} {W W' : World} (h : OwnL base ov ts W) (hb : Below W.heap.size W W') : OwnL base ov ts W' := by
  obtain ⟨ds, h1, h2⟩ := h
  exact ⟨ds, h1.kept (row := none) (grown_of_below hb) (by cases hv : ov.ownBlock <;> simp), h2.keep (fun _ h => h) (fun p v _ hc => keeps hb p v hc)⟩
theorem OwnL.put {base B : Nat} {ov : Value} {ts : List Ty} {W : World} (h : OwnL base ov ts W) (hB : B < base) (v0 v1 v2 v3 : Value) : OwnL base ov ts (put4 W B v0 v1 v2 v3) := by
  obtain ⟨ds, h1, h2⟩ := h
  refine ⟨ds, h1.kept (row := some B) ?_ ?_, h2.keep (fun _ h => h) (fun p v hp hc => put4_keep _ _ _ _ p v hc (by have := hp.1; omega))⟩
  · refine ⟨rfl, rfl, rfl, by simp [put4, World.setCell], fun j hj hne => put4_other (by intro e; exact hne (by rw [e])) _ _ _ _⟩
  · right
    intro e
    have := (ownBlock_lt h1 e).1
    omega

theorem info24 : (Try.prog.info? 36).map (fun i => (i.zero, i.size, i.bytes)) = some (some (.agg #[.int .i64 0, .int .i64 0, .string ⟨#[]⟩, .slice none 0 0]), 4, 56) := by kernel_rfl

/-- one more type at the end of the row -/
theorem OwnL.snoc {base g cap' : Nat} {ov : Value} {ts : List Ty} {W W' : World} {ds : List TC} {x : TC} {t : Ty} (h2 : TC.AllOf (fun g => base ≤ g ∧ some g ≠ ov.ownBlock) W ds ts)
    (hx : TC.Of (fun g => base ≤ g ∧ some g ≠ ov.ownBlock) W x t)
    (hown : W'.ownsRow base 36 4 (.slice (some ⟨g, 0, none⟩) (ds.length + 1) cap') (ds.length + 1) (TC.all ds ++ x.enc)) (hg : W.grownBy W' ov.ownBlock) (hlie : ov.ownBlock = some g ∨ g = W.heap.size) :
    OwnL base (.slice (some ⟨g, 0, none⟩) (ds.length + 1) cap') (ts ++ [t]) W' := by
  have hall := h2.snoc hx
  have hob : (Value.slice (some ⟨g, 0, none⟩) (ds.length + 1) cap').ownBlock = some g := rfl
  refine ⟨ds ++ [x], ?_, ?_⟩
  · rw [TC.all_snoc, List.length_append, List.length_singleton]; exact hown
  · have hb : TC.AllOf (fun g' => (base ≤ g' ∧ some g' ≠ ov.ownBlock) ∧ g' < W.heap.size) W (ds ++ [x]) (ts ++ [t]) := by
      refine ⟨hall.1, fun i h1 h2 => ?_⟩
      obtain ⟨e1, e2, e3, e4, e5, e6, e7⟩ := hall.2 i h1 h2
      refine ⟨e1, e2, e3, e4, e5, e6, ?_⟩
      by_cases hne : ((ts ++ [t])[i]'h2).args = []
      · exact .inl hne
      · rcases e7 with e7 | ⟨g', o', e, hgg, hr⟩
        · exact .inl e7
        · exact .inr ⟨g', o', e, ⟨hgg, row_lt hr.weak hne⟩, hr.bound.keep (fun _ h => h) (fun p v _ hc => hc) ⟨hgg, row_lt hr.weak hne⟩⟩
    refine hb.keep (fun g' hg' => ⟨hg'.1.1, ?_⟩) (fun p v hp hc => hg.cell hc hp.1.2)
    rw [hob]
    intro e
    injection e with e
    rcases hlie with hlie | hlie
    · exact hg'.1.2 (by rw [e, hlie])
    · omega

theorem cells_own {base : Nat} {ov : Value} {ds : List TC} {W : World} (h : W.ownsRow base 36 4 ov ds.length (TC.all ds)) (hne : ds ≠ []) :
    ∃ g cap, ov = .slice (some ⟨g, 0, none⟩) ds.length cap ∧ base ≤ g ∧ HoldsK TC.enc 4 W g 0 ds.toArray := by
  rcases h.2 with ⟨_, h0⟩ | ⟨g, cap, cur, hv, hb, hh, hn, hm, hs, ht⟩
  · exact absurd (List.eq_nil_of_length_eq_zero h0) hne
  · refine ⟨g, cap, hv, hb, fun j hj => ?_⟩
    have hj4 : j < ds.length * 4 := by simpa using hj
    have hdiv : j / 4 < ds.length := by omega
    refine ⟨?_, ?_⟩
    · rw [Nat.zero_add, get_flatK _ _ _ _ (by simpa using hj4)]
      have hc : W.cell? ⟨g, j, none⟩ = cur[j]? := by simpa using cell_of_row W g j cur 36 (0, 0) hh
      rw [hc]
      have h1 : cur[j]? = (cur.toList.take (ds.length * 4))[j]? := by rw [List.getElem?_take, if_pos hj4]; simp
      rw [h1, ht, show j = j / 4 * 4 + j % 4 from by omega, TC.all_get ds (j / 4) (j % 4) hdiv (by omega)]
      have e1 : (j / 4 * 4 + j % 4) / 4 = j / 4 := by omega
      have e2 : (j / 4 * 4 + j % 4) % 4 = j % 4 := by omega
      rw [e1, e2]
      have e3 : ds.toArray[j / 4]! = ds[j / 4]'hdiv := by simp [hdiv]
      rw [e3]
      have hl : j % 4 < (ds[j / 4]'hdiv).enc.length := by rw [TC.enc_len]; omega
      rw [List.getElem?_eq_getElem hl, getElem!_pos (ds[j / 4]'hdiv).enc _ hl]
      rfl
    · unfold World.frozen?
      rw [show W.heap[(⟨g, 0 + j, none⟩ : Addr).block]? = _ from hh]
      simp
theorem row_held {ok : Nat → Prop} {W : World} {g : Nat} {ds : List TC} {ts : List Ty} (h : HoldsK TC.enc 4 W g 0 ds.toArray) (ha : TC.AllOf ok W ds ts) : RowO ok W g 0 ts := by
  have key : ∀ (l : List Ty) (o : Nat), (∀ i (h : i < l.length), AtO ok W g (o + i * 4) (l[i]'h)) → RowO ok W g o l := by
    intro l
    induction l with
    | nil => intro o _; trivial
    | cons t l ih =>
      intro o hh
      refine ⟨by have := hh 0 (by simp); rw [Nat.zero_mul, Nat.add_zero] at this; exact this, ih (o + 4) (fun i hi => ?_)⟩
      have := hh (i + 1) (by simpa using hi)
      rw [show o + (i + 1) * 4 = o + 4 + i * 4 from by omega] at this
      exact this
  refine key ts 0 (fun i hi => ?_)
  have hi' : i < ds.length := by rw [ha.1]; exact hi
  obtain ⟨e1, e2, e3, e4, e5, e6⟩ := ha.2 i hi' hi
  have hc : ∀ j, j < 4 → W.cell? ⟨g, 0 + i * 4 + j, none⟩ = (ds[i]'hi').enc[j]? := by
    intro j hj
    have hlt : i * 4 + j < (flatK TC.enc 4 ds.toArray).size := by
      rw [size_flatK]
      have : ds.toArray.size = ds.length := by simp
      omega
    have := (h (i * 4 + j) hlt).1
    rw [show 0 + i * 4 + j = 0 + (i * 4 + j) from by omega, this, get_flatK _ _ _ _ (by simpa using hlt)]
    have d1 : (i * 4 + j) / 4 = i := by omega
    have d2 : (i * 4 + j) % 4 = j := by omega
    rw [d1, d2]
    have e3 : ds.toArray[i]! = ds[i]'hi' := by simp [hi']
    rw [e3]
    have hl : j < (ds[i]'hi').enc.length := by rw [TC.enc_len]; omega
    rw [List.getElem?_eq_getElem hl, getElem!_pos (ds[i]'hi').enc _ hl]
    rfl
  exact atO_iff.mpr ⟨by rw [← e1]; exact hc 0 (by omega), by rw [← e2]; exact hc 1 (by omega), by rw [← e3]; exact hc 2 (by omega), e5, (ds[i]'hi').b, (ds[i]'hi').cap, by rw [← e4]; exact hc 3 (by omega), e6⟩

theorem ahead_below (W : World) (n : Nat) : Below W.heap.size W (Sort.ahead W n) := ⟨rfl, rfl, rfl, Nat.le_refl _, fun _ _ => rfl⟩
/-- a list of types whose cells stand behind a place -/
def RevP.OwnR (base : Nat) (ov : Value) (ts : List Ty) (W : World) : Prop := ∃ bb cap, ov = .slice bb ts.length cap ∧ SlO (base ≤ ·) W bb ts
/-- slices.Reverse of such a list -/
def RevP (base : Nat) (ov : Value) (ts : List Ty) (W : World) (e : Ending) (W' : World) : Prop := e = .returned (.tuple #[]) ∧ RevP.OwnR base ov ts.reverse W' ∧ W.grownBy W' ov.ownBlock
end Ty
end Go.Proofs.Ytfjgebdpbmnicaa

/- What slices.Grow returns at an empty slice of types. Conditions: not too many. -/
namespace Go.Proofs
open Go.Shelf
def Try.growT_ren : Go.Shelf.Ren := ⟨fun | 4 => 85 | n => n, fun | 22 => 32 | 25 => 36 | n => n, fun | n => n⟩
theorem Try.growT : Lays8.n4 Try.prog Try.growT_ren := {
  mixed := by kernel_rfl
  f4 := ⟨ "slices.Grow[[]damask/api.Type,damask/api.Type]", by kernel_rfl, Try.func85.trans (congrArg some (by kernel_rfl))⟩
  t0 := Try.underlying0
  a0 := Try.isAgg0
  z0 := Try.sizeOf0
  v0 := Try.zeroValue0
  t3 := Try.underlying3
  a3 := Try.isAgg3
  z3 := Try.sizeOf3
  v3 := Try.zeroValue3
  t4 := Try.underlying4
  a4 := Try.isAgg4
  z4 := Try.sizeOf4
  v4 := Try.zeroValue4
  t9 := Try.underlying9
  a9 := Try.isAgg9
  z9 := Try.sizeOf9
  v9 := Try.zeroValue9
  t20 := Try.underlying20
  a20 := Try.isAgg20
  z20 := Try.sizeOf20
  v20 := Try.zeroValue20
  t22 := Try.underlying32
  a22 := Try.isAgg32
  z22 := Try.sizeOf32
  v22 := Try.zeroValue32 }
end Go.Proofs
namespace Go.Proofs.Ytfjgebdpbmnicaa
open Go.RowKit

namespace Ty
theorem grow_any (n : Nat) (hn : n ≤ 2513169434843) (w : World) : Calls Try.prog 85 #[.slice none 0 0, .int .i64 n] w fun e w' => ∃ ov, e = .returned ov ∧ w'.ownsRow w.heap.size 36 4 ov 0 [] ∧ Below w.heap.size w w' := by
  obtain ⟨i0, hi, hz0, hz1, hz2⟩ := info_parts info24
  by_cases h0 : n = 0
  · subst h0
    refine (Any8.slices_Grow_room Try.growT none 0 0 0 w (by omega) (by omega) (by omega) (by omega)).mono ?_
    rintro e w' ⟨rfl, rfl⟩
    exact ⟨_, rfl, World.ownsRow_nil _ _ _ _, Below.refl _ _⟩
  · refine (Any8.slices_Grow_grow Try.growT i0 _ hi hz0 (by omega) none 0 0 n [] w (by omega) (by omega) (by rw [hz2]; omega) (by omega) (by simp) (fun _ => rfl) (fun a h => by cases h)).mono ?_
    rintro e w' ⟨rfl, rfl⟩
    refine ⟨_, rfl, World.ownsRow_made w.drew _ _ (Nat.le_refl _) (grownCap_le_maxLen _ _ _ _ (by unfold maxLen; omega)) ?_, ?_⟩
    · have hg := grownCap_ge w (0 + n) 0 (Try.growT_ren.t 25)
      simp only [Array.size_append, size_zeroCells]
      have hv : (Value.agg #[.int .i64 0, .int .i64 0, .string ⟨#[]⟩, .slice none 0 0]).cells.size = 4 := by kernel_rfl
      rw [hv]
      show 0 + (0 + n - 0) * 4 + _ = _
      omega
    · exact (Below.refl w.heap.size w).drew.alloc (Nat.le_refl _) _
end Ty
end Go.Proofs.Ytfjgebdpbmnicaa
