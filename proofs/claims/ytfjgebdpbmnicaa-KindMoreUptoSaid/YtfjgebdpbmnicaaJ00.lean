/- Types as they lie in memory: struct values of a number, a number, a string and a list of types. Conditions: none. No program stands in this text. -/
import Derived.WalkKit
import Derived.Below
import Derived.Deep.Slices
namespace Go.Proofs.Ytfjgebdpbmnicaa
open Go.RowKit

inductive Ty where
  | mk (op n : Int) (s : List UInt8) (args : List Ty)

namespace Ty
def op : Ty → Int | .mk op _ _ _ => op
def n : Ty → Int | .mk _ n _ _ => n
def s : Ty → List UInt8 | .mk _ _ s _ => s
def args : Ty → List Ty | .mk _ _ _ args => args
def name (t : Ty) : ByteArray := ⟨t.s.toArray⟩

mutual
/-- a type's four cells stand at a place -/
def At (w : World) (b o : Nat) : Ty → Prop
  | .mk op n s args => w.cell? ⟨b, o, none⟩ = some (.int .i64 op) ∧ w.cell? ⟨b, o + 1, none⟩ = some (.int .i64 n) ∧ w.cell? ⟨b, o + 2, none⟩ = some (.string ⟨s.toArray⟩) ∧ s.length ≤ maxLen ∧
      ∃ base cap, w.cell? ⟨b, o + 3, none⟩ = some (.slice base args.length cap) ∧ args.length ≤ maxLen ∧ (args = [] ∨ ∃ g o', base = some ⟨g, o', none⟩ ∧ Row w g o' args)
/-- types stand one behind the other -/
def Row (w : World) (b o : Nat) : List Ty → Prop
  | [] => True
  | t :: l => At w b o t ∧ Row w b (o + 4) l
end

/-- a list of types that a slice value leads to -/
def Sl (w : World) (base : Option Addr) (l : List Ty) : Prop := l.length ≤ maxLen ∧ (l = [] ∨ ∃ g o, base = some ⟨g, o, none⟩ ∧ Row w g o l)
/-- a struct value that is a type -/
def V (w : World) (t : Ty) (v : Value) : Prop := ∃ base cap, v = .agg #[.int .i64 t.op, .int .i64 t.n, .string t.name, .slice base t.args.length cap] ∧ t.s.length ≤ maxLen ∧ Sl w base t.args

theorem at_iff {w : World} {b o : Nat} {t : Ty} : At w b o t ↔ w.cell? ⟨b, o, none⟩ = some (.int .i64 t.op) ∧ w.cell? ⟨b, o + 1, none⟩ = some (.int .i64 t.n) ∧ w.cell? ⟨b, o + 2, none⟩ = some (.string t.name) ∧ t.s.length ≤ maxLen ∧
    ∃ base cap, w.cell? ⟨b, o + 3, none⟩ = some (.slice base t.args.length cap) ∧ Sl w base t.args := by
  cases t with
  | mk op n s args => exact Iff.rfl

theorem row_at {w : World} {b : Nat} : ∀ {l : List Ty} {o i : Nat} (h : i < l.length), Row w b o l → At w b (o + i * 4) (l[i]'h)
  | t :: l, o, 0, _, hr => by simpa using hr.1
  | t :: l, o, i + 1, h, hr => by
    have := row_at (o := o + 4) (i := i) (by simpa using h) hr.2
    rw [show o + 4 + i * 4 = o + (i + 1) * 4 from by omega] at this
    exact this
theorem row_of {w : World} {b : Nat} : ∀ {l : List Ty} {o : Nat}, (∀ i (h : i < l.length), At w b (o + i * 4) (l[i]'h)) → Row w b o l
  | [], _, _ => trivial
  | t :: l, o, h => by
    refine ⟨by have h0 := h 0 (by simp); rw [Nat.zero_mul, Nat.add_zero] at h0; exact h0, row_of (fun i hi => ?_)⟩
    have := h (i + 1) (by simpa using hi)
    rw [show o + (i + 1) * 4 = o + 4 + i * 4 from by omega] at this
    exact this

mutual
theorem At.keep {w w' : World} (hk : ∀ (p : Addr) v, w.cell? p = some v → w'.cell? p = some v) {b o : Nat} : ∀ {t : Ty}, At w b o t → At w' b o t
  | .mk op n s args, ⟨h0, h1, h2, hs, base, cap, h3, hl, h4⟩ => by
    refine ⟨hk _ _ h0, hk _ _ h1, hk _ _ h2, hs, base, cap, hk _ _ h3, hl, ?_⟩
    rcases h4 with h4 | ⟨g, o', e, h4⟩
    · exact .inl h4
    · exact .inr ⟨g, o', e, Row.keep hk h4⟩
theorem Row.keep {w w' : World} (hk : ∀ (p : Addr) v, w.cell? p = some v → w'.cell? p = some v) {b o : Nat} : ∀ {l : List Ty}, Row w b o l → Row w' b o l
  | [], _ => trivial
  | _ :: _, h => ⟨At.keep hk h.1, Row.keep hk h.2⟩
end

theorem keeps {w w' : World} (hb : Below w.heap.size w w') (p : Addr) (v : Value) (h : w.cell? p = some v) : w'.cell? p = some v :=
  (hb.cell (World.block_lt_of_cell? w p h)).trans h
theorem At.next {w w' : World} (hb : Below w.heap.size w w') {b o : Nat} {t : Ty} (h : At w b o t) : At w' b o t := At.keep (keeps hb) h
theorem Row.next {w w' : World} (hb : Below w.heap.size w w') {b o : Nat} {l : List Ty} (h : Row w b o l) : Row w' b o l := Row.keep (keeps hb) h
theorem Sl.next {w w' : World} (hb : Below w.heap.size w w') {base : Option Addr} {l : List Ty} (h : Sl w base l) : Sl w' base l := by
  obtain ⟨h1, h2 | ⟨g, o, e, h2⟩⟩ := h
  · exact ⟨h1, .inl h2⟩
  · exact ⟨h1, .inr ⟨g, o, e, h2.next hb⟩⟩
theorem V.next {w w' : World} (hb : Below w.heap.size w w') {t : Ty} {v : Value} (h : V w t v) : V w' t v := by
  obtain ⟨base, cap, e, hs, hl⟩ := h
  exact ⟨base, cap, e, hs, hl.next hb⟩

/-! ### a type that comes in -/
section
variable {H : Type} {enc : TypeId × Value → H} {P : Program} {w : World} {base : Nat} {spare : Nat → Bool} {held : Bool}

/-- what the program's table of types says of types and their parts -/
structure Laid (P : Program) (T S I St : TypeId) (f0 f1 f2 f3 : Field) : Prop where
  hT : P.underlying T = some (.struct #[f0, f1, f2, f3])
  hS : P.underlying S = some (.slice T)
  hI : P.underlying I = some (.int .i64)
  hSt : P.underlying St = some .string
  t0 : f0.type = I
  t1 : f1.type = I
  t2 : f2.type = St
  t3 : f3.type = S
  o0 : f0.offset = 0
  o1 : f1.offset = 1
  o2 : f2.offset = 2
  o3 : f3.offset = 3
  cT : P.cellsOf T = 4
  cI : P.cellsOf I = 1
  cSt : P.cellsOf St = 1
  cS : P.cellsOf S = 1

theorem spot_none {a : Addr} {v : Value} (h : w.cell? a = some v) : a.spot = none := by
  unfold World.cell? at h
  split at h
  · split at h
    · cases h
    · rename_i hs
      cases hsp : a.spot with
      | none => rfl
      | some x => rw [hsp] at hs; simp at hs
  · cases h

theorem add_none {g o j : Nat} : (⟨g, o, none⟩ : Addr).add j = ⟨g, o + j, none⟩ := by unfold Addr.add; split <;> simp_all

/-- the four cells of a type -/
def Cells (w : World) (t : Ty) (cs : List Value) : Prop := ∃ base cap, cs = [.int .i64 t.op, .int .i64 t.n, .string t.name, .slice base t.args.length cap] ∧ t.s.length ≤ maxLen ∧ Sl w base t.args

theorem at_of_cells {t : Ty} {cs : List Value} {g o : Nat} (h : Cells w t cs) (hc : ∀ i, i < 4 → w.cell? ⟨g, o + i, none⟩ = cs[i]?) : At w g o t := by
  obtain ⟨b, cap, rfl, hs, hl⟩ := h
  exact at_iff.mpr ⟨hc 0 (by omega), hc 1 (by omega), hc 2 (by omega), hs, b, cap, hc 3 (by omega), hl⟩

theorem open_cells {T S I St : TypeId} {f0 f1 f2 f3 : Field} (L : Laid P T S I St f0 f1 f2 f3) : ∀ (fuel : Nat) (cs : List Value) (x : DataW H × List MemPlace), DataW.trod enc P w base spare held fuel T cs = some x → ∃ t, Cells w t cs := by
  intro fuel
  induction fuel using Nat.strongRecOn with
  | ind fuel ih =>
    intro cs x h
    obtain ⟨xs, n, hn, _, hlen, hxs, hf⟩ := DataW.trod_struct L.hT h
    rw [L.cT] at hlen
    have hx : ∀ i, i < 4 → ∃ y, xs[i]? = some y := fun i hi => ⟨xs[i]'(by rw [hxs]; exact hi), List.getElem?_eq_getElem _⟩
    match cs, hlen with
    | [v0, v1, v2, v3], _ =>
      obtain ⟨y0, e0⟩ := hx 0 (by omega)
      obtain ⟨y1, e1⟩ := hx 1 (by omega)
      obtain ⟨y2, e2⟩ := hx 2 (by omega)
      obtain ⟨y3, e3⟩ := hx 3 (by omega)
      have g0 := hf 0 f0 rfl
      have g1 := hf 1 f1 rfl
      have g2 := hf 2 f2 rfl
      have g3 := hf 3 f3 rfl
      rw [L.t0, L.o0, L.cI, e0] at g0
      rw [L.t1, L.o1, L.cI, e1] at g1
      rw [L.t2, L.o2, L.cSt, e2] at g2
      rw [L.t3, L.o3, L.cS, e3] at g3
      obtain ⟨op, h0, _⟩ := DataW.trod_int L.hI g0
      obtain ⟨nn, h1, _⟩ := DataW.trod_int L.hI g1
      obtain ⟨s, h2, _, hs⟩ := DataW.trod_string L.hSt g2
      have h0' : v0 = .int .i64 op := by injection h0
      have h1' : v1 = .int .i64 nn := by injection h1
      have h2' : v2 = .string s := by injection h2
      have hsl : s.data.toList.length = s.size := by rw [Array.length_toList]; rfl
      have hmk : (⟨s.data.toList.toArray⟩ : ByteArray) = s := by simp
      rcases DataW.trod_slice L.hS g3 with ⟨h3, _⟩ | ⟨a, len, cap, elems, rest, m, hm, h3, _, _, hlc, hcm, hel, hE, _, _⟩
      · have h3' : v3 = .slice none 0 0 := by injection h3
        refine ⟨.mk op nn s.data.toList [], none, 0, ?_, by rw [show (Ty.mk op nn s.data.toList []).s = s.data.toList from rfl, hsl]; exact hs, Nat.zero_le _, .inl rfl⟩
        rw [h0', h1', h2', h3']
        show _ = [Value.int .i64 op, .int .i64 nn, .string ⟨s.data.toList.toArray⟩, .slice none 0 0]
        rw [hmk]
      · have h3' : v3 = .slice (some a) len cap := by injection h3
        have each : ∀ i, i < len → ∃ t, ∃ cs', w.cells? base (a.add (i * 4)) 4 = some cs' ∧ Cells w t cs' := fun i hi => by
          have hi2 := hE i hi
          rw [L.cT] at hi2
          rw [List.getElem?_eq_getElem (by omega)] at hi2
          obtain ⟨cs', c1, c2⟩ := Option.bind_eq_some_iff.1 hi2
          obtain ⟨t, ht⟩ := ih m (by omega) cs' _ c2
          exact ⟨t, cs', c1, ht⟩
        have hin : Inhabited Ty := ⟨.mk 0 0 [] []⟩
        obtain ⟨f, hfi⟩ := Go.Deep.choose_lt each
        refine ⟨.mk op nn s.data.toList ((List.range len).map f), some a, cap, ?_, by rw [show (Ty.mk op nn s.data.toList ((List.range len).map f)).s = s.data.toList from rfl, hsl]; exact hs, ?_, ?_⟩
        · rw [h0', h1', h2', h3']
          show _ = [Value.int .i64 op, .int .i64 nn, .string ⟨s.data.toList.toArray⟩, .slice (some a) ((List.range len).map f).length cap]
          rw [hmk, List.length_map, List.length_range]
        · show ((List.range len).map f).length ≤ maxLen
          rw [List.length_map, List.length_range]
          omega
        · by_cases hz : len = 0
          · left
            show (List.range len).map f = []
            rw [hz]; rfl
          · right
            obtain ⟨cs0, c0, _⟩ := hfi 0 (by omega)
            obtain ⟨_, hl0, hc0⟩ := World.cells?_some c0
            have ha0 : w.cell? a = cs0[0]? := by
              have := hc0 0 (by omega)
              rw [Go.Deep.add_add] at this
              have e : a.add (0 * 4 + 0) = a := by unfold Addr.add; rw [if_pos (by omega)]
              rw [e] at this
              exact this
            rw [List.getElem?_eq_getElem (by omega)] at ha0
            have hsp := spot_none ha0
            obtain ⟨g, o, sp⟩ := a
            have hsp' : sp = none := hsp
            subst hsp'
            refine ⟨g, o, rfl, row_of (fun i hi => ?_)⟩
            have hi' : i < len := by
              have : i < ((List.range len).map f).length := hi
              rwa [List.length_map, List.length_range] at this
            obtain ⟨cs', c1, c2⟩ := hfi i hi'
            obtain ⟨_, hl', hc'⟩ := World.cells?_some c1
            have ef : ((List.range len).map f)[i]'hi = f i := (List.getElem_map (f := f) (l := List.range len) (i := i) (h := hi)).trans (congrArg f (List.getElem_range ..))
            show At w g (o + i * 4) (((List.range len).map f)[i]'hi)
            rw [ef]
            refine at_of_cells c2 (fun j hj => ?_)
            have := hc' j hj
            rw [add_none, add_none] at this
            exact this

theorem open_ty {T S I St : TypeId} {f0 f1 f2 f3 : Field} (L : Laid P T S I St f0 f1 f2 f3) {v : Value} {d : DataW H} {ps : List MemPlace} (hv : ∃ a, v = .agg a) (h : DataW.Trod enc P w base spare held T v d ps) : ∃ t, V w t v := by
  obtain ⟨fuel, hf⟩ := h
  obtain ⟨t, b, cap, hc, hs, hl⟩ := open_cells L fuel _ _ hf
  obtain ⟨a, rfl⟩ := hv
  refine ⟨t, b, cap, ?_, hs, hl⟩
  have : a.toList = [.int .i64 t.op, .int .i64 t.n, .string t.name, .slice b t.args.length cap] := hc
  congr 1
  rw [← this]

end
end Ty
end Go.Proofs.Ytfjgebdpbmnicaa
