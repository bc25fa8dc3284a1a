/- The law LexisNames returns true for every string; the argument reads afterwards as before. Conditions: none beyond the statement's own. -/
import Derived.Test.YtcedigkknjioeaaRows
import Derived.Test.YtcedigkknjioeaaWordsList
import Derived.WalkKit
import Derived.ProofKit
import Derived.OpenShut
import Derived.ShutString
namespace Go.Proofs.Ytcedigkknjioeaa.lexisNames
open Go.ChangeShapes Go.WideShapes Go.ChangeAt Go.RowKit
open Go.ChangeMaps (open_string shut_string)

theorem own : ownKnob Try.prog.godebug = none := by kernel_rfl

def wordAt (j : Nat) : ByteArray := ⟨((Lx.words[j]?).getD []).toArray⟩
theorem wordAt_cell {w : World} {g : Nat} (h : ∀ (j : Nat) (l : List UInt8), Lx.words[j]? = some l → w.cell? ⟨g, j, none⟩ = some (.string ⟨l.toArray⟩)) (j : Nat) (hj : j < 21) : w.cell? ⟨g, j, none⟩ = some (.string (wordAt j)) := by
  have e : Lx.words[j]? = some (Lx.words[j]'hj) := List.getElem?_eq_getElem hj
  rw [h j _ e]
  unfold wordAt
  rw [e]
  rfl

set_option maxHeartbeats 1000000 in
theorem walk (s : ByteArray) (hs : s.size ≤ maxLen) (w : World) :
    Calls Try.prog 4 #[.string s] w fun e w' => e = .returned (.bool true) ∧ Below w.heap.size w w' := by
  have K1 := Lib.hid (fun w => isSmall_any s w hs)
  have K2 := Lib.hid (fun w => rIsSmall s w hs)
  have K3 := Lib.hid (fun w => isCapital_any s w hs)
  have K4 := Lib.hid (fun w => rIsCapital s w hs)
  have K5 := Lib.hid (fun w => isOp_any s w hs)
  have K6 := Lib.hid (fun w => rIsOp s w hs)
  generalize smallL s.data.toList = x at *
  generalize Lx.isCap s.data.toList = y at *
  generalize Lx.isOpL s.data.toList = z at *
  have qx : (x == x) = true := by simp
  have qy : (y == y) = true := by simp
  have qz : (z == z) = true := by simp
  go_enter Try.func4, Try.ntmps4
  go_wp2_with fail
  refine (K1.out _).mono ?_
  rintro e w1 ⟨rfl, hb1⟩
  go_wp2_with fail
  refine (K2.out _).mono ?_
  rintro e w2 ⟨rfl, hb2⟩
  go_wp2_with fail
  refine (K3.out _).mono ?_
  rintro e w' ⟨rfl, rfl⟩
  go_wp2_with fail
  refine (K4.out _).mono ?_
  rintro e w' ⟨rfl, rfl⟩
  go_wp2_with fail
  refine (K5.out _).mono ?_
  rintro e w' ⟨rfl, rfl⟩
  go_wp2_with fail
  refine (K6.out _).mono ?_
  rintro e w3 ⟨rfl, hb3⟩
  go_wp2_with fail
  refine (words_any _).mono ?_
  rintro e w4 ⟨g, cap, rfl, hc4, hg4, hb4⟩
  have HC4 := Lib.hid hc4
  clear hc4
  go_wp2_with fail
  refine (rwords _).mono ?_
  rintro e w5 ⟨rfl, hc5, hb5⟩
  have HC5 := Lib.hid hc5
  clear hc5
  have hB5 := Lib.hid ((((hb1.trans (hb2.mono hb1.size)).trans (hb3.mono (Nat.le_trans hb1.size hb2.size))).trans (hb4.mono (Nat.le_trans (Nat.le_trans hb1.size hb2.size) hb3.size))).trans (hb5.mono (Nat.le_trans (Nat.le_trans (Nat.le_trans hb1.size hb2.size) hb3.size) hb4.size)))
  have hs5 := hb5.size
  have HE := Lib.hid (fun j (hj : j < 21) => (hb5.cell (p := ⟨g, j, none⟩) hg4).trans (wordAt_cell HC4.out j hj))
  have hlt5 : w4.heap.size < w5.heap.size := by
    rcases Nat.lt_or_ge w4.heap.size w5.heap.size with h | h
    · exact h
    · have h0 := HC5.out 0 _ rfl
      rw [World.cell?, Array.getElem?_eq_none (by exact h)] at h0
      cases h0
  go_wp2_with fail
  refine (rsameStrings wordAt _ _ 21 _ _ _ (by omega) (by omega) (by omega) HE.out (wordAt_cell HC5.out)).mono ?_
  rintro e w6 ⟨rfl, hb6⟩
  go_wp2_with fail
  refine (awake_any _).mono ?_
  rintro e w7 ⟨rfl, hb7⟩
  go_wp2_with fail
  go_ret
  exact ⟨rfl, (hB5.out.trans (hb6.mono hB5.out.size)).trans (hb7.mono (Nat.le_trans hB5.out.size hb6.size))⟩

/-! ### THE ROW's STEP: WRITTEN OUT: LEAVE IT -/
set_option maxRecDepth 100000 in
theorem lifted (os : Os) (started : os.Started) (H : Type) (enc : TypeId × Value → H) :
    ReturnsInHanded {} Try.checked os 4 .any (Rows.lexisNamesSpec.pre6 enc Try.prog Try.f4 Rows.lexisNamesRow.domain false) (Rows.lexisNamesSpec.post enc Try.prog Try.f4 false true false false) := by
  refine returnsInHanded_of_change (C := Try.checked) own started (by kernel_rfl) Try.func4
    (ChangeSpec.witness6 (enc := enc) (C := Try.checked) false ⟨#[], #[.string ByteArray.empty], []⟩ 8 (by kernel_rfl) (by kernel_rfl) (by kernel_rfl) (by kernel_rfl)) ?_
  intro W base args ds gs before hval0 hW hcnd _
  have hval : ∀ (j : Nat) t v, Try.f4.params[j]? = some t → args[j]? = some v → Value.okWide Try.prog W .any base t v := hval0
  have hW' := hW
  obtain ⟨p, q, hA0, hV, rfl, hfz, hnd⟩ := hW
  have hA : DataW.TrodAll enc Try.prog W 0 (fun _ => true) true Try.f4.params.toList args.toList ds p := hA0
  rw [Try.params4] at hA hval
  obtain ⟨v0, vs0, d0, ds0, p0, q0, hargs, rfl, rfl, h0, r0⟩ := trodAll_cons hA
  obtain ⟨rfl, rfl, rfl⟩ := trodAll_nil r0
  obtain rfl : args = #[v0] := by cases args; simp_all
  obtain ⟨rfl, rfl⟩ := trodVars_none hV
  obtain ⟨a0, rfl, rfl, rfl, w0⟩ := open_string Try.underlying9 (hval 0 9 v0 rfl rfl) h0
  clear hA0 hval0
  simp only [List.append_nil] at hW'
  refine (walk a0 w0 W).mono fun e W' ⟨he, hb⟩ => ?_
  subst he
  exact ⟨_, rfl, _, _, _, [], [], [], hW', trodAll_cons_mk (shut_bool Try.underlying4 _) trodAll_mk0, trodAll_cons_mk (shut_string Try.underlying9 w0) trodAll_mk0, rfl, hb.frame _, fun h => by cases h⟩

theorem over : Rows.lexisNamesRow.holds Try.pinned (OpenSpec.ofChange Rows.lexisNamesSpec) :=
  OpenClaim.holds_of_wide 4 Try.f4 rfl rfl rfl rfl rfl rfl rfl ⟨rfl, rfl, rfl, rfl, rfl⟩ rfl rfl rfl rfl rfl (by kernel_rfl) Try.func4 (by kernel_rfl)
    (of_decide_eq_true (by kernel_rfl)) (by unfold Func.isWrapper; first | (rw [if_pos (by decide +kernel)]; kernel_rfl) | (rw [if_neg (by decide +kernel)]; exact ⟨rfl, rfl⟩))
    (fun os started H enc _ => lifted os started H enc)

theorem proved : Rows.LexisNamesSaid :=
  over
#print axioms proved
end Go.Proofs.Ytcedigkknjioeaa.lexisNames
