/- The law LexisJoins returns true for every list of tokens; the argument reads afterwards as before. Conditions: none beyond the statement's own. -/
import Derived.Test.YtcedigkknjioeaaRows
import Derived.Test.YtcedigkknjioeaaJoinsLaw
import Derived.Deep.Strs
import Derived.Deep.Slices
import Derived.Carry
import Derived.WideShapes
import Derived.WalkKit
import Derived.ProofKit
import Derived.OpenShut
import Derived.ShutString
import Derived.SizedLaws
namespace Go.Proofs.Ytcedigkknjioeaa.lexisJoins
open Go.ChangeShapes Go.WideShapes Go.ChangeAt Go.RowKit
open Go.ChangeMaps (open_string shut_string)

theorem own : ownKnob Try.prog.godebug = none := by kernel_rfl

theorem cell_spot {w : World} {a : Addr} {v : Value} (h : w.cell? a = some v) : a.spot = none := by
  unfold World.cell? at h
  split at h
  · split at h
    · cases h
    · rename_i hs
      cases hsp : a.spot with
      | none => rfl
      | some x => rw [hsp] at hs; simp at hs
  · cases h

set_option maxRecDepth 100000 in
/-- a list of tokens that comes in -/
theorem open_toks {H : Type} {enc : TypeId × Value → H} {w : World} {base : Nat} {spare : Nat → Bool} {held : Bool} {a : Addr} {m n : Nat} {D : Nat → DataW H} {Pl : Nat → List MemPlace}
    (hx : ∀ i, i < m → ∃ cs', w.cells? base (a.add (i * Try.prog.cellsOf 45)) (Try.prog.cellsOf 45) = some cs' ∧ DataW.trod enc Try.prog w base spare held n 45 cs' = some (D i, Pl i)) :
    ∃ (k : Nat → Int) (q : Nat → ByteArray) (p : Nat → Int), ∀ i, i < m → (q i).size ≤ maxLen ∧ w.cell? (a.add (i * 3)) = some (.int .i64 (k i)) ∧ w.cell? (a.add (i * 3 + 1)) = some (.string (q i)) ∧ w.cell? (a.add (i * 3 + 2)) = some (.int .i64 (p i)) := by
  have hc45 : Try.prog.cellsOf 45 = 3 := by kernel_rfl
  have hc3 : Try.prog.cellsOf 3 = 1 := by kernel_rfl
  have hc9 : Try.prog.cellsOf 9 = 1 := by kernel_rfl
  have each : ∀ i, i < m → ∃ z : Int × ByteArray × Int, z.2.1.size ≤ maxLen ∧ w.cell? (a.add (i * 3)) = some (.int .i64 z.1) ∧ w.cell? (a.add (i * 3 + 1)) = some (.string z.2.1) ∧ w.cell? (a.add (i * 3 + 2)) = some (.int .i64 z.2.2) := by
    intro i hi
    obtain ⟨cs', h1, h2⟩ := hx i hi
    rw [hc45] at h1
    obtain ⟨_, hlen, hcell⟩ := World.cells?_some h1
    obtain ⟨y0, y1, y2, n', _, _, g0, g1, g2⟩ := Go.Deep.trod_struct3 Try.underlying45 h2
    match cs', hlen with
    | [v0, v1, v2], _ =>
      simp [hc3, hc9] at g0 g1 g2
      obtain ⟨k, e0, _⟩ := DataW.trod_int Try.underlying3 g0
      obtain ⟨q, e1, _, hq⟩ := DataW.trod_string Try.underlying9 g1
      obtain ⟨p, e2, _⟩ := DataW.trod_int Try.underlying3 g2
      injection e0 with e0
      injection e1 with e1
      injection e2 with e2
      subst e0 e1 e2
      have f0 := hcell 0 (by omega)
      have f1 := hcell 1 (by omega)
      have f2 := hcell 2 (by omega)
      rw [Go.Deep.add_add] at f0 f1 f2
      exact ⟨(k, q, p), hq, by simpa using f0, by simpa using f1, by simpa using f2⟩
  obtain ⟨z, hz⟩ := Go.Deep.choose_lt each
  exact ⟨fun i => (z i).1, fun i => (z i).2.1, fun i => (z i).2.2, hz⟩

theorem joins_walk {H : Type} {enc : TypeId × Value → H} {W : World} {base : Nat} {spare : Nat → Bool} {held : Bool} {a : Addr} {len cap m n : Nat} {D : Nat → DataW H} {Pl : Nat → List MemPlace} (hlm : len ≤ m) (hlen : len ≤ 4398046511104)
    (hx : ∀ i, i < m → ∃ cs', W.cells? base (a.add (i * Try.prog.cellsOf 45)) (Try.prog.cellsOf 45) = some cs' ∧ DataW.trod enc Try.prog W base spare held n 45 cs' = some (D i, Pl i)) :
    Calls Try.prog 6 #[.slice (some a) len cap] W fun e w' => e = .returned (.bool true) ∧ Below W.heap.size W w' := by
  by_cases h0 : len = 0
  · subst h0
    exact joins_zero a cap W
  · obtain ⟨k, q, p, hz⟩ := open_toks hx
    have hc0 := (hz 0 (by omega)).2.1
    have e0 : a.add (0 * 3) = a := by unfold Addr.add; rw [if_pos (by omega)]
    rw [e0] at hc0
    have hsp := cell_spot hc0
    obtain ⟨g, o, sp⟩ := a
    have hsp' : sp = none := hsp
    subst hsp'
    have hg : g < W.heap.size := World.block_lt_of_cell? W _ hc0
    have hadd : ∀ j, (⟨g, o, none⟩ : Addr).add j = ⟨g, o + j, none⟩ := fun j => by unfold Addr.add; split <;> simp_all
    refine joins_some k q p g o len cap W (by omega) hlen hg (fun j hj => (hz j (by omega)).1) (fun j hj => ?_)
    obtain ⟨_, z1, z2, z3⟩ := hz j (by omega)
    rw [hadd] at z1 z2 z3
    exact ⟨z1, by rw [Nat.add_assoc]; exact z2, by rw [Nat.add_assoc]; exact z3⟩

/-! ### THE ROW's STEP: WRITTEN OUT: LEAVE IT -/
set_option maxRecDepth 100000 in
theorem lifted (os : Os) (started : os.Started) (H : Type) (enc : TypeId × Value → H) :
    ReturnsInHanded {} Try.checked os 6 .any (Rows.lexisJoinsSpec.pre6 enc Try.prog Try.f6 Rows.lexisJoinsRow.domain false) (Rows.lexisJoinsSpec.post enc Try.prog Try.f6 false true false false) := by
  refine returnsInHanded_of_change_sized (C := Try.checked) own started (by kernel_rfl) Try.func6
    (ChangeSpec.witness6 (enc := enc) (C := Try.checked) false ⟨#[], #[.slice none 0 0], []⟩ 8 (by kernel_rfl) (by kernel_rfl) (by kernel_rfl) (by kernel_rfl)) ?_
  intro W base args ds gs before hval0 hW hcnd hsz0 _
  have hsz : (DataW.weightsEach Try.prog (Try.f6.params.toList ++ Rows.lexisJoinsSpec.plain.varTypes Try.prog) (ds ++ gs)).all (· ≤ reachBytes) = true := hsz0
  have hval : ∀ (j : Nat) t v, Try.f6.params[j]? = some t → args[j]? = some v → Value.okWide Try.prog W .any base t v := hval0
  have hW' := hW
  obtain ⟨p, q, hA0, hV, rfl, hfz, hnd⟩ := hW
  have hA : DataW.TrodAll enc Try.prog W 0 (fun _ => true) true Try.f6.params.toList args.toList ds p := hA0
  rw [Try.params6] at hA hval hsz
  obtain ⟨v0, vs0, d0, ds0, p0, q0, hargs, rfl, rfl, h0, r0⟩ := trodAll_cons hA
  obtain ⟨rfl, rfl, rfl⟩ := trodAll_nil r0
  obtain rfl : args = #[v0] := by cases args; simp_all
  obtain ⟨rfl, rfl⟩ := trodVars_none hV
  have h0k := h0
  obtain ⟨a0, len, cap, rfl⟩ := Go.WideShapes.okWide_slice Try.underlying22 (hval 0 22 v0 rfl rfl)
  obtain ⟨fuel, hf⟩ := h0
  have hlt : ∀ x ∈ p0, x.block < W.heap.size := fun x hx => by simpa using hW'.lt x (by simpa using hx)
  clear hA0 hval0
  have hwalk : Calls Try.prog 6 #[.slice a0 len cap] W fun e w' => e = .returned (.bool true) ∧ Below W.heap.size W w' := by
    rcases Go.Deep.open_slice Try.underlying22 hf with ⟨hcs, _⟩ | ⟨a, len', cap', m, n, D, Pl, hcs, _, hl, hm, hmm, hx, hel⟩
    · obtain ⟨rfl, rfl, rfl⟩ : a0 = none ∧ len = 0 ∧ cap = 0 := by simpa [Value.cells] using hcs
      exact joins_nil W
    · obtain ⟨rfl, rfl, rfl⟩ : a0 = some a ∧ len = len' ∧ cap = cap' := by simpa [Value.cells] using hcs
      have hd : d0 = .slice ((List.range len).map D) ((List.range (m - len)).map fun j => D (len + j)) := congrArg Prod.fst hx
      have hsize := sized_slice hsz (j := 0) (t := 22) (elems := (List.range len).map D) (spare := (List.range (m - len)).map fun j => D (len + j)) rfl (by rw [← hd]; rfl) Try.underlying22
      rw [List.length_map, List.length_range, show Try.prog.bytesOf 45 = 32 from by kernel_rfl] at hsize
      unfold reachBytes at hsize
      refine joins_walk (m := m) (by rw [hmm]; split <;> omega) ?_ hel
      have h32 : len * 32 ≤ 140737488351232 := Nat.le_trans (Nat.mul_le_mul_right 32 (Nat.le_add_right _ _)) hsize
      omega
  refine hwalk.mono fun e W' ⟨he, hb⟩ => ?_
  subst he
  have hret := RowKit.Below.trod (enc := enc) (P := Try.prog) (t := 22) (by kernel_rfl) (by kernel_rfl) (of_decide_eq_true (by kernel_rfl)) h0k hb hlt
  exact ⟨_, rfl, _, _, _, [], p0 ++ [], [], hW', trodAll_cons_mk (shut_bool Try.underlying4 _) trodAll_mk0, trodAll_cons_mk hret trodAll_mk0, rfl, hb.frame _, fun h => by cases h⟩

theorem over : Rows.lexisJoinsRow.holds Try.pinned (OpenSpec.ofChange Rows.lexisJoinsSpec) :=
  OpenClaim.holds_of_wide 6 Try.f6 rfl rfl rfl rfl rfl rfl rfl ⟨rfl, rfl, rfl, rfl, rfl⟩ rfl rfl rfl rfl rfl (by kernel_rfl) Try.func6 (by kernel_rfl)
    (of_decide_eq_true (by kernel_rfl)) (by unfold Func.isWrapper; first | (rw [if_pos (by decide +kernel)]; kernel_rfl) | (rw [if_neg (by decide +kernel)]; exact ⟨rfl, rfl⟩))
    (fun os started H enc _ => lifted os started H enc)

theorem proved : Rows.LexisJoinsSaid :=
  over
#print axioms proved
end Go.Proofs.Ytcedigkknjioeaa.lexisJoins
