/- The law LexisBack returns true for every source; the argument reads afterwards as before. Conditions: none beyond the statement's own. -/
import Derived.Test.YtcedigkknjioeaaRows
import Derived.Test.YtcedigkknjioeaaBackLaw
import Derived.WalkKit
import Derived.ProofKit
import Derived.OpenShut
import Derived.ShutString
import Derived.SizedLaws
namespace Go.Proofs.Ytcedigkknjioeaa.lexisBack
open Go.ChangeShapes Go.WideShapes Go.ChangeAt Go.RowKit
open Go.ChangeMaps (open_string shut_string)

theorem own : ownKnob Try.prog.godebug = none := by kernel_rfl

theorem back_walk (s : ByteArray) (hs : s.size ≤ 140737488351232) (w : World) :
    Calls Try.prog 7 #[.string s] w fun e w' => e = .returned (.bool true) ∧ Below w.heap.size w w' := by
  have hs' : s.size ≤ maxLen := by unfold maxLen; omega
  by_cases h : 12000 < s.size
  · exact back_full s w hs h (fun w => tokens_full s w hs' h)
  · rcases hA : Lx.toksA s.data.toList 0 with ⟨A, _ | p⟩
    · have hfew := Lx.toks_few A s.data.toList 0 (Nat.zero_le _) hA
      rw [Lx.size_list] at hfew
      have hbf := bf_of s A hA
      have hJ := joined s A hA
      have hlen := jst_len (kT (A ++ [(7, [], s.size)])) (qT (A ++ [(7, [], s.size)])) (A.length + 1) hbf.ok
      rw [hJ] at hlen
      have hsz : (ByteArray.mk (Lx.jl false A).toArray).size = (Lx.jl false A).length := mk_size _
      refine back_go s (A ++ [(7, [], s.size)]) (A.length + 1) w (by omega) (by omega) (by simp) (by omega) (fun w => tokens_ok s A w (by omega) hA) hbf (Lx.jl false A) hJ ⟨(Lx.jl false A).toArray⟩ rfl (by rw [hsz]; omega) (fun hb w => tokens_full _ w (by rw [hsz]; unfold maxLen; omega) hb) (fun hb => ?_)
      obtain ⟨A', h1, h2, h3⟩ := back_tokens s A hA
      exact ⟨A' ++ [(7, [], (ByteArray.mk (Lx.jl false A).toArray).size)], by simp [h2], fun w => tokens_ok ⟨(Lx.jl false A).toArray⟩ A' w (by omega) h1, fun j hj => h3 _ j hj⟩
    · exact back_bad s p w (fun w => tokens_bad s w A p (by omega) hA)

/-! ### THE ROW's STEP: WRITTEN OUT: LEAVE IT -/
set_option maxRecDepth 100000 in
theorem lifted (os : Os) (started : os.Started) (H : Type) (enc : TypeId × Value → H) :
    ReturnsInHanded {} Try.checked os 7 .any (Rows.lexisBackSpec.pre6 enc Try.prog Try.f7 Rows.lexisBackRow.domain false) (Rows.lexisBackSpec.post enc Try.prog Try.f7 false true false false) := by
  refine returnsInHanded_of_change_sized (C := Try.checked) own started (by kernel_rfl) Try.func7
    (ChangeSpec.witness6 (enc := enc) (C := Try.checked) false ⟨#[], #[.string ByteArray.empty], []⟩ 8 (by kernel_rfl) (by kernel_rfl) (by kernel_rfl) (by kernel_rfl)) ?_
  intro W base args ds gs before hval0 hW hcnd hsz0 _
  have hsz : (DataW.weightsEach Try.prog (Try.f7.params.toList ++ Rows.lexisBackSpec.plain.varTypes Try.prog) (ds ++ gs)).all (· ≤ reachBytes) = true := hsz0
  have hval : ∀ (j : Nat) t v, Try.f7.params[j]? = some t → args[j]? = some v → Value.okWide Try.prog W .any base t v := hval0
  have hW' := hW
  obtain ⟨p, q, hA0, hV, rfl, hfz, hnd⟩ := hW
  have hA : DataW.TrodAll enc Try.prog W 0 (fun _ => true) true Try.f7.params.toList args.toList ds p := hA0
  rw [Try.params7] at hA hval hsz
  obtain ⟨v0, vs0, d0, ds0, p0, q0, hargs, rfl, rfl, h0, r0⟩ := trodAll_cons hA
  obtain ⟨rfl, rfl, rfl⟩ := trodAll_nil r0
  obtain rfl : args = #[v0] := by cases args; simp_all
  obtain ⟨rfl, rfl⟩ := trodVars_none hV
  obtain ⟨a0, rfl, rfl, rfl, w0⟩ := open_string Try.underlying9 (hval 0 9 v0 rfl rfl) h0
  clear hA0 hval0
  simp only [List.append_nil] at hW'
  have hr := sized_string hsz (j := 0) (t := 9) rfl rfl
  have hr2 : a0.size ≤ 140737488351232 := by rw [← Lx.size_list]; exact hr
  refine (back_walk a0 hr2 W).mono fun e W' ⟨he, hb⟩ => ?_
  subst he
  exact ⟨_, rfl, _, _, _, [], [], [], hW', trodAll_cons_mk (shut_bool Try.underlying4 _) trodAll_mk0, trodAll_cons_mk (shut_string Try.underlying9 w0) trodAll_mk0, rfl, hb.frame _, fun h => by cases h⟩

theorem over : Rows.lexisBackRow.holds Try.pinned (OpenSpec.ofChange Rows.lexisBackSpec) :=
  OpenClaim.holds_of_wide 7 Try.f7 rfl rfl rfl rfl rfl rfl rfl ⟨rfl, rfl, rfl, rfl, rfl⟩ rfl rfl rfl rfl rfl (by kernel_rfl) Try.func7 (by kernel_rfl)
    (of_decide_eq_true (by kernel_rfl)) (by unfold Func.isWrapper; first | (rw [if_pos (by decide +kernel)]; kernel_rfl) | (rw [if_neg (by decide +kernel)]; exact ⟨rfl, rfl⟩))
    (fun os started H enc _ => lifted os started H enc)

theorem proved : Rows.LexisBackSaid :=
  over
#print axioms proved
end Go.Proofs.Ytcedigkknjioeaa.lexisBack
