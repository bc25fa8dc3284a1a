/- Types as they lie in memory, their rows in blocks that a predicate allows. Conditions: none. -/
import Derived.Test.YtkedhnahgpmkaaaTyArrow
namespace Go.Proofs.Ytkedhnahgpmkaaa
open Go.RowKit

namespace Ty
mutual
/-- a type's four cells stand at a place; its rows stand in blocks that are allowed -/
def AtO (ok : Nat → Prop) (w : World) (b o : Nat) : Ty → Prop
  | .mk op n s args => w.cell? ⟨b, o, none⟩ = some (.int .i64 op) ∧ w.cell? ⟨b, o + 1, none⟩ = some (.int .i64 n) ∧ w.cell? ⟨b, o + 2, none⟩ = some (.string ⟨s.toArray⟩) ∧ s.length ≤ maxLen ∧
      ∃ base cap, w.cell? ⟨b, o + 3, none⟩ = some (.slice base args.length cap) ∧ args.length ≤ maxLen ∧ (args = [] ∨ ∃ g o', base = some ⟨g, o', none⟩ ∧ ok g ∧ RowO ok w g o' args)
def RowO (ok : Nat → Prop) (w : World) (b o : Nat) : List Ty → Prop
  | [] => True
  | t :: l => AtO ok w b o t ∧ RowO ok w b (o + 4) l
end
def SlO (ok : Nat → Prop) (w : World) (base : Option Addr) (l : List Ty) : Prop := l.length ≤ maxLen ∧ (l = [] ∨ ∃ g o, base = some ⟨g, o, none⟩ ∧ ok g ∧ RowO ok w g o l)
def VO (ok : Nat → Prop) (w : World) (t : Ty) (v : Value) : Prop := ∃ base cap, v = .agg #[.int .i64 t.op, .int .i64 t.n, .string t.name, .slice base t.args.length cap] ∧ t.s.length ≤ maxLen ∧ SlO ok w base t.args
theorem atO_iff {ok : Nat → Prop} {w : World} {b o : Nat} {t : Ty} : AtO ok w b o t ↔ w.cell? ⟨b, o, none⟩ = some (.int .i64 t.op) ∧ w.cell? ⟨b, o + 1, none⟩ = some (.int .i64 t.n) ∧ w.cell? ⟨b, o + 2, none⟩ = some (.string t.name) ∧ t.s.length ≤ maxLen ∧
    ∃ base cap, w.cell? ⟨b, o + 3, none⟩ = some (.slice base t.args.length cap) ∧ SlO ok w base t.args := by
  cases t with
  | mk op n s args => exact Iff.rfl

mutual
theorem AtO.weak {ok : Nat → Prop} {w : World} {b o : Nat} : ∀ {t : Ty}, AtO ok w b o t → At w b o t
  | .mk op n s args, ⟨h0, h1, h2, hs, base, cap, h3, hl, h4⟩ => by
    refine ⟨h0, h1, h2, hs, base, cap, h3, hl, ?_⟩
    rcases h4 with h4 | ⟨g, o', e, _, h4⟩
    · exact .inl h4
    · exact .inr ⟨g, o', e, RowO.weak h4⟩
theorem RowO.weak {ok : Nat → Prop} {w : World} {b o : Nat} : ∀ {l : List Ty}, RowO ok w b o l → Row w b o l
  | [], _ => trivial
  | _ :: _, h => ⟨AtO.weak h.1, RowO.weak h.2⟩
end
theorem VO.weak {ok : Nat → Prop} {w : World} {t : Ty} {v : Value} (h : VO ok w t v) : V w t v := by
  obtain ⟨base, cap, e, hs, hl, h4⟩ := h
  refine ⟨base, cap, e, hs, hl, ?_⟩
  rcases h4 with h4 | ⟨g, o', e, _, h4⟩
  · exact .inl h4
  · exact .inr ⟨g, o', e, h4.weak⟩

/-- a row is not empty where its first cell is there: its block is one of the world's -/
theorem row_lt {w : World} {g o : Nat} {l : List Ty} (h : Row w g o l) (hne : l ≠ []) : g < w.heap.size := by
  cases l with
  | nil => exact absurd rfl hne
  | cons t l => exact World.block_lt_of_cell? w _ (at_iff.mp h.1).1
mutual
theorem At.bound {w : World} {b o : Nat} : ∀ {t : Ty}, At w b o t → AtO (· < w.heap.size) w b o t
  | .mk op n s args, ⟨h0, h1, h2, hs, base, cap, h3, hl, h4⟩ => by
    refine ⟨h0, h1, h2, hs, base, cap, h3, hl, ?_⟩
    by_cases hne : args = []
    · exact .inl hne
    · rcases h4 with h4 | ⟨g, o', e, h4⟩
      · exact .inl h4
      · exact .inr ⟨g, o', e, row_lt h4 hne, Row.bound h4⟩
theorem Row.bound {w : World} {b o : Nat} : ∀ {l : List Ty}, Row w b o l → RowO (· < w.heap.size) w b o l
  | [], _ => trivial
  | _ :: _, h => ⟨At.bound h.1, Row.bound h.2⟩
end
theorem V.bound {w : World} {t : Ty} {v : Value} (h : V w t v) : VO (· < w.heap.size) w t v := by
  obtain ⟨base, cap, e, hs, hl, h4⟩ := h
  refine ⟨base, cap, e, hs, hl, ?_⟩
  by_cases hne : t.args = []
  · exact .inl hne
  · rcases h4 with h4 | ⟨g, o', e, h4⟩
    · exact .inl h4
    · exact .inr ⟨g, o', e, row_lt h4 hne, h4.bound⟩

mutual
theorem AtO.keep {ok ok' : Nat → Prop} (hok : ∀ g, ok g → ok' g) {w w' : World} (hk : ∀ (p : Addr) v, ok p.block → w.cell? p = some v → w'.cell? p = some v) {b o : Nat} (hb : ok b) : ∀ {t : Ty}, AtO ok w b o t → AtO ok' w' b o t
  | .mk op n s args, ⟨h0, h1, h2, hs, base, cap, h3, hl, h4⟩ => by
    refine ⟨hk _ _ hb h0, hk _ _ hb h1, hk _ _ hb h2, hs, base, cap, hk _ _ hb h3, hl, ?_⟩
    rcases h4 with h4 | ⟨g, o', e, hg, h4⟩
    · exact .inl h4
    · exact .inr ⟨g, o', e, hok g hg, RowO.keep hok hk hg h4⟩
theorem RowO.keep {ok ok' : Nat → Prop} (hok : ∀ g, ok g → ok' g) {w w' : World} (hk : ∀ (p : Addr) v, ok p.block → w.cell? p = some v → w'.cell? p = some v) {b o : Nat} (hb : ok b) : ∀ {l : List Ty}, RowO ok w b o l → RowO ok' w' b o l
  | [], _ => trivial
  | _ :: _, h => ⟨AtO.keep hok hk hb h.1, RowO.keep hok hk hb h.2⟩
end
theorem SlO.keep {ok ok' : Nat → Prop} (hok : ∀ g, ok g → ok' g) {w w' : World} (hk : ∀ (p : Addr) v, ok p.block → w.cell? p = some v → w'.cell? p = some v) {base : Option Addr} {l : List Ty} (h : SlO ok w base l) : SlO ok' w' base l := by
  obtain ⟨hl, h4 | ⟨g, o', e, hg, h4⟩⟩ := h
  · exact ⟨hl, .inl h4⟩
  · exact ⟨hl, .inr ⟨g, o', e, hok g hg, h4.keep hok hk hg⟩⟩
theorem VO.keep {ok ok' : Nat → Prop} (hok : ∀ g, ok g → ok' g) {w w' : World} (hk : ∀ (p : Addr) v, ok p.block → w.cell? p = some v → w'.cell? p = some v) {t : Ty} {v : Value} (h : VO ok w t v) : VO ok' w' t v := by
  obtain ⟨base, cap, e, hs, hl⟩ := h
  exact ⟨base, cap, e, hs, hl.keep hok hk⟩
theorem VO.next {ok : Nat → Prop} {w w' : World} (hb : Below w.heap.size w w') {t : Ty} {v : Value} (h : VO ok w t v) : VO ok w' t v := h.keep (fun _ h => h) (fun p v _ hc => keeps hb p v hc)
theorem VO.put {w : World} {B : Nat} {t : Ty} {v : Value} (h : VO (· ≠ B) w t v) (v0 v1 v2 v3 : Value) : VO (· ≠ B) (put4 w B v0 v1 v2 v3) t v :=
  h.keep (fun _ h => h) (fun p v hp hc => put4_keep v0 v1 v2 v3 p v hc hp)
/-- what stood before a box was made does not stand in it -/
theorem V.apart {w W : World} {B : Nat} {t : Ty} {v : Value} (h : V w t v) (hb : Below w.heap.size w W) (hB : w.heap.size ≤ B) : VO (· ≠ B) W t v :=
  h.bound.keep (fun g hg => by omega) (fun p v _ hc => keeps hb p v hc)

theorem vo_leaf (ok : Nat → Prop) (w : World) (o n : Int) (s : ByteArray) (hs : s.size ≤ maxLen) : VO ok w (.mk o n s.data.toList []) (.agg #[.int .i64 o, .int .i64 n, .string s, .slice none 0 0]) := by
  have hmk : (⟨s.data.toList.toArray⟩ : ByteArray) = s := by simp
  refine ⟨none, 0, ?_, ?_, Nat.zero_le _, .inl rfl⟩
  · show _ = Value.agg #[.int .i64 o, .int .i64 n, .string ⟨s.data.toList.toArray⟩, .slice none 0 0]
    rw [hmk]
  · show s.data.toList.length ≤ maxLen
    rw [show s.data.toList.length = s.size from rfl]
    exact hs

theorem vo_two {ok : Nat → Prop} {w w1 : World} (hok : ∀ g, w.heap.size ≤ g → ok g) (hb : Below w.heap.size w w1) (o : Int) {ta tb : Ty} {ba bb : Option Addr} {ca cb : Nat} (hsa : ta.s.length ≤ maxLen) (hsb : tb.s.length ≤ maxLen) (hla : SlO ok w ba ta.args) (hlb : SlO ok w bb tb.args) (R : Obj) :
    VO ok ((w1.alloc R).alloc (Obj.cells #[.int .i64 ta.op, .int .i64 ta.n, .string ta.name, .slice ba ta.args.length ca, .int .i64 tb.op, .int .i64 tb.n, .string tb.name, .slice bb tb.args.length cb] 24)) (.mk o 0 [] [ta, tb])
      (.agg #[.int .i64 o, .int .i64 0, .string ⟨#[]⟩, .slice (some ⟨w1.heap.size + 1, 0, none⟩) 2 2]) := by
  obtain ⟨S, hS⟩ : ∃ S, S = Obj.cells #[.int .i64 ta.op, .int .i64 ta.n, .string ta.name, .slice ba ta.args.length ca, .int .i64 tb.op, .int .i64 tb.n, .string tb.name, .slice bb tb.args.length cb] 24 := ⟨_, rfl⟩
  rw [← hS]
  have hrow : ((w1.alloc R).alloc S).heap[w1.heap.size + 1]? = some S := by
    have := heap_alloc_new (w1.alloc R) S
    rwa [show (w1.alloc R).heap.size = w1.heap.size + 1 from by simp] at this
  have hrow2 := hrow.trans (congrArg some hS)
  have hbl : Below w.heap.size w ((w1.alloc R).alloc S) := hb.trans ((below_two w1 R S).mono hb.size)
  have c := fun i => cell_of_row ((w1.alloc R).alloc S) (w1.heap.size + 1) i _ 24 (0, 0) hrow2
  have hkeep : ∀ (p : Addr) v, ok p.block → w.cell? p = some v → ((w1.alloc R).alloc S).cell? p = some v := fun p v _ hc => keeps hbl p v hc
  refine ⟨some ⟨w1.heap.size + 1, 0, none⟩, 2, rfl, Nat.zero_le _, by show 2 ≤ maxLen; unfold maxLen; omega, .inr ⟨w1.heap.size + 1, 0, rfl, hok _ (by have := hb.size; omega), ?_, ?_, trivial⟩⟩
  · exact atO_iff.mpr ⟨c 0, c 1, c 2, hsa, ba, ca, c 3, hla.keep (fun _ h => h) hkeep⟩
  · exact atO_iff.mpr ⟨c 4, c 5, c 6, hsb, bb, cb, c 7, hlb.keep (fun _ h => h) hkeep⟩

/-- a type is returned, its rows in blocks that are allowed -/
def RetO (ok : Nat → Prop) (t : Ty) (w : World) (e : Ending) (w' : World) : Prop := ∃ v, e = .returned v ∧ VO ok w' t v ∧ Below w.heap.size w w'

set_option maxHeartbeats 2000000 in
theorem con_o (s : ByteArray) (w : World) : Calls Try.prog 89 #[.string s] w fun e w' => e = .returned (.agg #[.int .i64 2, .int .i64 0, .string s, .slice none 0 0]) ∧ Below w.heap.size w w' := by
  obtain ⟨b0, b1, b2, b3⟩ := box4 w (.int .i64 2) (.int .i64 0) (.string s) (.slice none 0 0)
  go_enter Try.func89, Try.ntmps89
  go_wp2_with fail
  refine bodyPost_ret (results_ty (a := 2) (by kernel_rfl) (B := w.heap.size) (by rfl) b0 b1 b2 b3) rfl ?_
  exact ⟨rfl, (Below.refl _ _).alloc (Nat.le_refl _) _⟩

set_option maxHeartbeats 4000000 in
theorem app_o {ok : Nat → Prop} (ta tb : Ty) (va vb : Value) (w : World) (hok : ∀ g, w.heap.size ≤ g → ok g) (ha : VO ok w ta va) (hb : VO ok w tb vb) : Calls Try.prog 109 #[va, vb] w (RetO ok (.mk 3 0 [] [ta, tb]) w) := by
  obtain ⟨ba, ca, ea, hsa, hla⟩ := ha
  obtain ⟨bb, cb, eb, hsb, hlb⟩ := hb
  subst ea eb
  have hv := fun w1 (hb : Below w.heap.size w w1) R => vo_two hok hb 3 (ca := ca) (cb := cb) hsa hsb hla hlb R
  have HV := Lib.hid hv
  clear hla hlb hv hok
  generalize ta.args.length = la at *
  generalize tb.args.length = lb at *
  go_enter Try.func109, Try.ntmps109
  go_wp2_with fail
  obtain ⟨w1, hw1⟩ : ∃ w1, w1 = (w.alloc (Obj.cells #[Value.int IntKind.i64 ta.op, Value.int IntKind.i64 ta.n, Value.string ta.name, Value.slice ba la ca] 24)).alloc (Obj.cells #[Value.int IntKind.i64 tb.op, Value.int IntKind.i64 tb.n, Value.string tb.name, Value.slice bb lb cb] 24) := ⟨_, rfl⟩
  have e1 : w1.heap.size = w.heap.size + 1 + 1 := by rw [hw1]; simp
  have hb1 : Below w.heap.size w w1 := by rw [hw1]; exact below_two _ _ _
  rw [← hw1, ← e1]
  clear hw1
  obtain ⟨R, hR⟩ : ∃ R, R = Obj.cells #[Value.int IntKind.i64 3, Value.int IntKind.i64 0, Value.string ⟨#[]⟩, Value.slice (some ⟨w1.heap.size + 1, 0, none⟩) 2 2] 24 := ⟨_, rfl⟩
  have hrow : ∀ S, ((w1.alloc R).alloc S).heap[w1.heap.size]? = some R := fun S => (Below.heap_alloc _ _ _ (by simp)).trans (heap_alloc_new w1 R)
  rw [hR] at hrow
  have c := fun S i => cell_of_row ((w1.alloc _).alloc S) w1.heap.size i _ 24 (0, 0) (hrow S)
  refine bodyPost_ret (results_ty (a := 4) (by kernel_rfl) (B := w1.heap.size) (by rfl) (c _ 0) (c _ 1) (c _ 2) (c _ 3)) rfl ?_
  exact ⟨_, rfl, HV.out w1 hb1 _, hb1.trans ((below_two w1 _ _).mono hb1.size)⟩

end Ty
end Go.Proofs.Ytkedhnahgpmkaaa
