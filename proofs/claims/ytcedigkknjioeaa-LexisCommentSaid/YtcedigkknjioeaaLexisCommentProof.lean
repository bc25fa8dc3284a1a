/- The law LexisComment returns true for every source, number and comment; the arguments read afterwards as before. Conditions: none beyond the statement's own. -/
import Derived.Test.YtcedigkknjioeaaRows
import Derived.Test.YtcedigkknjioeaaCommentGo
import Derived.Test.YtcedigkknjioeaaCommentGo1
import Derived.WalkKit
import Derived.ProofKit
import Derived.OpenShut
import Derived.ShutString
import Derived.SizedLaws
namespace Go.Proofs.Ytcedigkknjioeaa.lexisComment
open Go.ChangeShapes Go.WideShapes Go.ChangeAt Go.RowKit
open Go.ChangeMaps (open_string shut_string)

theorem own : ownKnob Try.prog.godebug = none := by kernel_rfl

theorem walk_in (a0 a2 : ByteArray) (a1 : Int) (hsum : a0.size + a2.size ≤ 11991) (A : List Lx.Tok) (hA : Lx.toksA a0.data.toList 0 = (A, none)) (w : World) :
    Calls Try.prog 8 #[.string a0, .int .i64 a1, .string a2] w fun e w' => e = .returned (.bool true) ∧ Below w.heap.size w w' := by
  have hfew := Lx.toks_few A a0.data.toList 0 (Nat.zero_le _) hA
  rw [Lx.size_list] at hfew
  have hl : (A ++ [((7 : Int), ([] : List UInt8), a0.size)]).length = A.length + 1 := by simp
  obtain ⟨idx, hi, hidx⟩ := idx_of a1 (A.length + 1) (by omega) (by omega)
  have hT := tokens_ok a0 A w (by omega) hA
  have hpA := fun j (_ : j < A.length + 1) => pT_le a0 A hA j
  have hk2 := fun j (_ : j < A.length + 1) => moved_k (A ++ [(7, [], a0.size)]) idx (putB a2).size j
  have hq2 := fun j (_ : j < A.length + 1) => moved_q (A ++ [(7, [], a0.size)]) idx (putB a2).size j
  have hp1 := fun j (_ : j < A.length + 1) (h : j < idx) => moved_p1 (A ++ [(7, [], a0.size)]) idx (putB a2).size j h
  have hp2 := fun j (hj : j < A.length + 1) (h : idx ≤ j) => moved_p2 (A ++ [(7, [], a0.size)]) idx (putB a2).size j h (by rw [hl]; exact hj)
  have hl2 : A.length + 1 = (Lx.moved (A ++ [(7, [], a0.size)]) idx (putB a2).size).length := by rw [Lx.moved_length, hl]
  by_cases h0 : 0 < idx
  · by_cases hq : (qT (A ++ [(7, [], a0.size)]) (idx - 1)).toList = [39]
    · exact comment_quote a0 a2 a1 w hsum _ (A.length + 1) idx (by omega) (by omega) hl.symm hi hT hidx (hpA idx hi) h0 hq
    · exact comment_later a0 a2 a1 w hsum _ _ (A.length + 1) idx (by omega) (by omega) hl.symm hi hpA hT hidx (hpA idx hi) h0 hq hl2 hk2 hq2 hp1 hp2
        (fun w2 => ins_tokens a0 a2 A idx hsum hA (by omega) (Or.inr ⟨h0, hq⟩) w2)
  · exact comment_first a0 a2 a1 w hsum _ _ (A.length + 1) idx (by omega) (by omega) hl.symm hi hpA hT hidx (hpA idx hi) h0 hl2 hk2 hq2 hp1 hp2
      (fun w2 => ins_tokens a0 a2 A idx hsum hA (by omega) (Or.inl (by omega)) w2)

theorem walk (a0 a2 : ByteArray) (a1 : Int) (hs : a0.size ≤ 140737488351232) (hs2 : a2.size ≤ 140737488351232) (w : World) :
    Calls Try.prog 8 #[.string a0, .int .i64 a1, .string a2] w fun e w' => e = .returned (.bool true) ∧ Below w.heap.size w w' := by
  by_cases h : 12000 < a0.size
  · exact comment_full a0 a2 a1 w hs h
  · rcases hA : Lx.toksA a0.data.toList 0 with ⟨A, _ | p⟩
    · by_cases h2 : 11991 < a0.size + a2.size
      · exact comment_long a0 a2 a1 w (by omega) hs2 h2 A hA
      · exact walk_in a0 a2 a1 (by omega) A hA w
    · exact comment_bad a0 a2 a1 w (by omega) A p hA

/-! ### THE ROW's STEP: WRITTEN OUT: LEAVE IT -/
set_option maxRecDepth 100000 in
theorem lifted (os : Os) (started : os.Started) (H : Type) (enc : TypeId × Value → H) :
    ReturnsInHanded {} Try.checked os 8 .any (Rows.lexisCommentSpec.pre6 enc Try.prog Try.f8 Rows.lexisCommentRow.domain false) (Rows.lexisCommentSpec.post enc Try.prog Try.f8 false true false false) := by
  refine returnsInHanded_of_change_sized (C := Try.checked) own started (by kernel_rfl) Try.func8
    (ChangeSpec.witness6 (enc := enc) (C := Try.checked) false ⟨#[], #[.string ByteArray.empty, .int .i64 0, .string ByteArray.empty], []⟩ 8 (by kernel_rfl) (by kernel_rfl) (by kernel_rfl) (by kernel_rfl)) ?_
  intro W base args ds gs before hval0 hW hcnd hsz0 _
  have hsz : (DataW.weightsEach Try.prog (Try.f8.params.toList ++ Rows.lexisCommentSpec.plain.varTypes Try.prog) (ds ++ gs)).all (· ≤ reachBytes) = true := hsz0
  have hval : ∀ (j : Nat) t v, Try.f8.params[j]? = some t → args[j]? = some v → Value.okWide Try.prog W .any base t v := hval0
  have hW' := hW
  obtain ⟨p, q, hA0, hV, rfl, hfz, hnd⟩ := hW
  have hA : DataW.TrodAll enc Try.prog W 0 (fun _ => true) true Try.f8.params.toList args.toList ds p := hA0
  rw [Try.params8] at hA hval hsz
  obtain ⟨v0, vs0, d0, ds0, p0, q0, hargs, rfl, rfl, h0, r0⟩ := trodAll_cons hA
  obtain ⟨v1, vs1, d1, ds1, p1, q1, rfl, rfl, rfl, h1, r1⟩ := trodAll_cons r0
  obtain ⟨v2, vs2, d2, ds2, p2, q2, rfl, rfl, rfl, h2, r2⟩ := trodAll_cons r1
  obtain ⟨rfl, rfl, rfl⟩ := trodAll_nil r2
  obtain rfl : args = #[v0, v1, v2] := by cases args; simp_all
  obtain ⟨rfl, rfl⟩ := trodVars_none hV
  obtain ⟨a0, rfl, rfl, rfl, w0⟩ := open_string Try.underlying9 (hval 0 9 v0 rfl rfl) h0
  obtain ⟨a1, rfl, rfl, rfl, w1⟩ := open_int Try.underlying3 (hval 1 3 v1 rfl rfl) h1
  obtain ⟨a2, rfl, rfl, rfl, w2⟩ := open_string Try.underlying9 (hval 2 9 v2 rfl rfl) h2
  clear hA0 hval0
  simp only [List.append_nil] at hW'
  have hr := sized_string hsz (j := 0) (t := 9) rfl rfl
  have hr2 : a0.size ≤ 140737488351232 := by rw [← Lx.size_list]; exact hr
  have hr3 := sized_string hsz (j := 2) (t := 9) rfl rfl
  have hr4 : a2.size ≤ 140737488351232 := by rw [← Lx.size_list]; exact hr3
  refine (walk a0 a2 a1 hr2 hr4 W).mono fun e W' ⟨he, hb⟩ => ?_
  subst he
  exact ⟨_, rfl, _, _, _, [], [], [], hW', trodAll_cons_mk (shut_bool Try.underlying4 _) trodAll_mk0, trodAll_cons_mk (shut_string Try.underlying9 w0) (trodAll_cons_mk (shut_int Try.underlying3 w1) (trodAll_cons_mk (shut_string Try.underlying9 w2) trodAll_mk0)), rfl, hb.frame _, fun h => by cases h⟩

theorem over : Rows.lexisCommentRow.holds Try.pinned (OpenSpec.ofChange Rows.lexisCommentSpec) :=
  OpenClaim.holds_of_wide 8 Try.f8 rfl rfl rfl rfl rfl rfl rfl ⟨rfl, rfl, rfl, rfl, rfl⟩ rfl rfl rfl rfl rfl (by kernel_rfl) Try.func8 (by kernel_rfl)
    (of_decide_eq_true (by kernel_rfl)) (by unfold Func.isWrapper; first | (rw [if_pos (by decide +kernel)]; kernel_rfl) | (rw [if_neg (by decide +kernel)]; exact ⟨rfl, rfl⟩))
    (fun os started H enc _ => lifted os started H enc)

theorem proved : Rows.LexisCommentSaid :=
  over
#print axioms proved
end Go.Proofs.Ytcedigkknjioeaa.lexisComment
