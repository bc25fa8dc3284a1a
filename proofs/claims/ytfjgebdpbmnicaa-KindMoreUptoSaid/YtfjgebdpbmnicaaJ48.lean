/- What Constant and Kind return in an environment that lies in memory. Conditions: no constructor has too many variables. -/
import Derived.Test.YtfjgebdpbmnicaaJ40
import Derived.Test.YtfjgebdpbmnicaaJ46
import Derived.Test.YtfjgebdpbmnicaaJ47
import Derived.Test.YtfjgebdpbmnicaaJ37
import Derived.Test.YtfjgebdpbmnicaaJ38
import Derived.Deep.AppendLies
import Derived.Test.YtfjgebdpbmnicaaJ24
namespace Go.Proofs.Ytfjgebdpbmnicaa
open Go.RowKit

namespace Ty
/-- the four lists of an environment that are asked, where they lie -/
structure EnvS (w : World) (b0 b1 b2 b3 : Option Addr) (env : PEnv) : Prop where
  data : SlG 7 DataAt w b0 env.data
  cons : SlG 8 ConAt w b1 env.cons
  fams : SlG 7 FamAt w b2 env.fams
  clss : SlG 5 ClsAt w b3 env.clss
def SmallE (env : PEnv) : Prop := ∀ c ∈ env.cons, c.univ.length + c.exis.length ≤ 1000000
theorem EnvS.next {w w' : World} (hb : Below w.heap.size w w') {b0 b1 b2 b3 : Option Addr} {env : PEnv} (h : EnvS w b0 b1 b2 b3 env) : EnvS w' b0 b1 b2 b3 env :=
  ⟨SlG.next (R := DataAt) (fun _ _ h _ _ _ => DataAt.next h) hb h.data, SlG.next (R := ConAt) (fun _ _ h _ _ _ => ConAt.next h) hb h.cons, SlG.next (R := FamAt) (fun _ _ h _ _ _ => FamAt.next h) hb h.fams, SlG.next (R := ClsAt) (fun _ _ h _ _ _ => ClsAt.next h) hb h.clss⟩
theorem EnvS.box {W : World} {E : Nat} {b0 b1 b2 b3 b4 b5 : Option Addr} {c0 c1 c2 c3 c4 c5 l4 l5 : Nat} {env : PEnv} (h : EnvS W b0 b1 b2 b3 env) (hc : W.heap[E]? = some (Obj.cells #[.slice b0 env.data.length c0, .slice b1 env.cons.length c1, .slice b2 env.fams.length c2, .slice b3 env.clss.length c3, .slice b4 l4 c4, .slice b5 l5 c5] 29)) : EnvAt W E env :=
  ⟨⟨b0, c0, cell_of_row W E 0 _ 29 (0, 0) hc, h.data⟩, ⟨b1, c1, cell_of_row W E 1 _ 29 (0, 0) hc, h.cons⟩, ⟨b2, c2, cell_of_row W E 2 _ 29 (0, 0) hc, h.fams⟩, ⟨b3, c3, cell_of_row W E 3 _ 29 (0, 0) hc, h.clss⟩⟩
theorem find_at {env : PEnv} {E : Nat} {w0 : World} (hE : EnvAt w0 E env) (hsm : SmallE env) (s : List UInt8) (w : World) (hb : Below w0.heap.size w0 w) :
    Calls Try.prog 8 #[.pointer (some ⟨E, 0, none⟩), .string ⟨s.toArray⟩] w (ConO (· < w0.heap.size) (findT env s) w) :=
  find_any hE (fun s W hb => findcon_any hE (fun c hc g oo _ hC hb' => prom_any c g oo hC hb' (hsm c hc)) s W hb) s w hb
theorem ConO.weak {ok : Nat → Prop} {r : Res × Int} {w : World} {e : Ending} {w' : World} (h : ConO ok r w e w') : ConO (fun _ => True) r w e w' := by
  obtain ⟨k, n, c, h1, h2, ⟨b, cap, h3, h4, h5⟩, h6⟩ := h
  exact ⟨k, n, c, h1, h2, ⟨b, cap, h3, h4, h5.keep (fun _ _ => .inl trivial) (fun _ _ _ h => h)⟩, h6⟩
theorem KndO.weak {ok : Nat → Prop} {r : Res} {w : World} {e : Ending} {w' : World} (h : KndO ok r w e w') : KndO (fun _ => True) r w e w' := by
  obtain ⟨h1, h2 | ⟨k, v, h3, h4, h5, h6⟩⟩ := h
  · exact ⟨h1, .inl h2⟩
  · exact ⟨h1, .inr ⟨k, v, h3, h4, h5, h6.keep (fun _ _ => .inl trivial) (fun _ _ _ h => h)⟩⟩
theorem const_call {env : PEnv} {b0 b1 b2 b3 : Option Addr} (b4 b5 : Option Addr) (c0 c1 c2 c3 c4 c5 l4 l5 : Nat) (w : World) (hE : EnvS w b0 b1 b2 b3 env) (hsm : SmallE env) (s : List UInt8) :
    Calls Try.prog 4 #[.agg #[.slice b0 env.data.length c0, .slice b1 env.cons.length c1, .slice b2 env.fams.length c2, .slice b3 env.clss.length c3, .slice b4 l4 c4, .slice b5 l5 c5], .string ⟨s.toArray⟩] w (CstO (findT env s).1 w) :=
  const_any (ok := fun _ => True) (findT env s) ⟨s.toArray⟩ b0 b1 b2 b3 b4 b5 _ _ _ _ l4 l5 c0 c1 c2 c3 c4 c5 w (fun W hb hcell =>
    (find_at (EnvS.box (hE.next hb) hcell) hsm s W (Below.refl _ _)).mono fun _ _ h => h.weak)
theorem good_decl {k k' : Ty} {a : Int} (h : (declT k a).1 = .ok k') : Good k' := by
  unfold declT at h
  by_cases hp : isProper k = true
  · rw [if_pos hp] at h
    cases h
    exact Good.of hp
  · rw [if_neg hp] at h
    cases h
theorem good_builtin {s : List UInt8} {k : Ty} (h : builtinT s = some k) : Good k := by
  unfold builtinT at h
  repeat' split at h
  all_goals first
    | (injection h with h; rw [← h]; exact Good.of (by decide +kernel))
    | cases h
theorem good_find (env : PEnv) (s : List UInt8) (k : Ty) (a : Int) (h : findT env s = (.ok k, a)) : Good k := by
  have h1 : (findT env s).1 = .ok k := by rw [h]
  clear h
  unfold findT at h1
  split at h1
  · rename_i k' hk
    cases h1
    exact good_builtin hk
  · split at h1
    · cases h1
    · split at h1
      · unfold findConT at h1
        split at h1
        · cases h1
        · split at h1
          · cases h1
          · exact good_decl h1
      · split at h1
        · exact good_decl h1
        · split at h1
          · exact good_decl h1
          · split at h1
            · exact good_decl h1
            · cases h1
/-- what Kind returns -/
def kindTopT (env : PEnv) (metas rigids ctx : List Ty) (t : Ty) : Res :=
  if formedB ctx metas rigids = true then (if isProper t = true then anewR (kindF ⟨env, metas, rigids⟩ 600 t ctx 0) else .bad 2) else .bad 2
theorem slG_weak {α : Type} {sz : Nat} {R R' : World → Nat → Nat → α → Prop} (hR : ∀ w b o d, R w b o d → R' w b o d) {w : World} {base : Option Addr} {l : List α} (h : SlG sz R w base l) : SlG sz R' w base l := by
  obtain ⟨h1, h2 | ⟨g, o, e, h3⟩⟩ := h
  · exact ⟨h1, .inl h2⟩
  · exact ⟨h1, .inr ⟨g, o, e, fun i hi => hR _ _ _ _ (h3 i hi)⟩⟩
theorem kind_call {env : PEnv} {b0 b1 b2 b3 : Option Addr} (b4 b5 : Option Addr) (c0 c1 c2 c3 c4 c5 l4 l5 : Nat) (ctx metas rigids : List Ty) (t : Ty) (xb mb rb tb : Option Addr) (xc mc rc tc : Nat) (w : World) (hE : EnvS w b0 b1 b2 b3 env) (hsm : SmallE env)
    (hc : Sl w xb ctx) (hcx : ctx.length ≤ xc) (hm : SlG 10 MetAt w mb metas) (hr : SlG 5 RigAt w rb rigids) (ht : V w t (.agg #[.int .i64 t.op, .int .i64 t.n, .string t.name, .slice tb t.args.length tc])) :
    Calls Try.prog 6 #[.agg #[.slice b0 env.data.length c0, .slice b1 env.cons.length c1, .slice b2 env.fams.length c2, .slice b3 env.clss.length c3, .slice b4 l4 c4, .slice b5 l5 c5], .slice mb metas.length mc, .slice rb rigids.length rc, .slice xb ctx.length xc, .agg #[.int .i64 t.op, .int .i64 t.n, .string t.name, .slice tb t.args.length tc]] w (TopO (kindTopT env metas rigids ctx t) w) := by
  unfold kindTopT
  by_cases hf : formedB ctx metas rigids = true
  · rw [if_pos hf]
    by_cases hp : isProper t = true
    · rw [if_pos hp]
      have hfa := hf
      unfold formedB at hfa
      rw [Bool.and_eq_true, Bool.and_eq_true, Bool.and_eq_true, decide_eq_true_eq] at hfa
      obtain ⟨h40, _, hfm, hfr⟩ := hfa
      refine kindtop_ok ctx metas rigids t b0 b1 b2 b3 b4 b5 xb mb rb tb _ _ _ _ l4 l5 c0 c1 c2 c3 c4 c5 xc mc rc tc w hc hm hr ht (ok := fun _ => True) (kindF ⟨env, metas, rigids⟩ 600 t ctx 0) (nz_kind _ 600 t ctx 0) hf hp (fun W hb hcell => ?_)
      have hEW := EnvS.box (hE.next hb) hcell
      have hyp : KHyp W ⟨env, metas, rigids⟩ w.heap.size mb rb mc rc := ⟨fun s W' hb' => find_at hEW hsm s W' hb', good_find env, slG_weak (fun _ _ _ _ h => h.1) (SlG.next (R := MetAt) (fun _ _ h _ _ _ => MetAt.next h) hb hm), slG_weak (fun _ _ _ _ h => h.1) (SlG.next (R := RigAt) (fun _ _ h _ _ _ => RigAt.next h) hb hr),
        fun i h => Good.of (allB_true.mp hfm i h), fun i h => Good.of (allB_true.mp hfr i h), fun ctx xb xc k kv W' h1 h2 h3 h4 => within_any w.heap.size metas.length mc rigids.length rc mb rb ctx xb xc k kv W' h1 h2 h3 h4⟩
      exact (kind_any hyp 600 t ctx 0 xb xc _ W (Good.of hp) (proper_nodes t hp) (by omega) hcx (by omega) (Below.refl _ _) (hc.next hb) (ht.next hb)).mono fun _ _ h => h.weak
    · rw [if_neg hp]
      exact kindtop_bad ctx metas rigids t b0 b1 b2 b3 b4 b5 xb mb rb tb _ _ _ _ l4 l5 c0 c1 c2 c3 c4 c5 xc mc rc tc w hc hm hr ht hf (by simpa using hp)
  · rw [if_neg hf]
    exact kindtop_no ctx metas rigids t b0 b1 b2 b3 b4 b5 xb mb rb tb _ _ _ _ l4 l5 c0 c1 c2 c3 c4 c5 xc mc rc tc w hc hm hr ht (by simpa using hf)
end Ty
end Go.Proofs.Ytfjgebdpbmnicaa

/- Slices of structs joined by append: as steps of a region that draws, and what lies in them then. Conditions: not too many elements. -/
namespace Go.Proofs.Ytfjgebdpbmnicaa
open Go.RowKit

namespace Ty
/-- the cells of a slice of structs, as they are -/
def RawAt (w : World) (base : Option Addr) (n sz : Nat) (vals : List Value) : Prop :=
  vals.length = n * sz ∧ (∀ u ∈ vals, u.oneCell' = true) ∧ (base = none → n = 0) ∧ ∀ ad, base = some ad → ∀ j u, vals[j]? = some u → w.cell? (ad.add j) = some u
theorem RawAt.next {w w' : World} (hb : Below w.heap.size w w') {base : Option Addr} {n sz : Nat} {vals : List Value} (h : RawAt w base n sz vals) : RawAt w' base n sz vals :=
  ⟨h.1, h.2.1, h.2.2.1, fun ad e j u hu => keeps hb _ _ (h.2.2.2 ad e j u hu)⟩
theorem run_appG {w : World} (base0 : Nat) (t ty e : TypeId) {z : Value} {sz by' : Nat} (ht : Try.prog.underlying t = some (.slice e)) (hi : (Try.prog.info? e).map (fun i => (i.zero, i.size, i.bytes)) = some (some z, sz, by')) (hz : z.cells.size = sz) (hsz : 0 < sz)
    {ov : Value} {n m : Nat} {xs vals : List Value} (hown : w.ownsRow base0 e sz ov n xs) {base : Option Addr} (cap : Nat) (hr : RawAt w base m sz vals) (hn : (n + m) * by' ≤ 140737488355328) (h63 : n + m ≤ maxLen) (hb0 : base0 ≤ w.heap.size) :
    ∃ v' w', (Builtin.append_ #[t, t] ty #[ov, .slice base m cap]).run Try.prog w = .ok v' w' ∧ w'.ownsRow base0 e sz v' (n + m) (xs ++ vals) ∧ w.grownBy w' ov.ownBlock := by
  obtain ⟨i0, hi0, hz0, hz1, hz2⟩ := info_parts hi
  obtain ⟨h1, h2, h3, h4⟩ := hr
  cases base with
  | none =>
    have hm := h3 rfl
    subst hm
    have hv : vals = [] := List.eq_nil_of_length_eq_zero (by rw [h1, Nat.zero_mul])
    subst hv
    refine ⟨ov, w, ?_, by simpa using hown, ⟨rfl, rfl, rfl, Nat.le_refl _, fun _ _ _ => rfl⟩⟩
    have h := run_append_owned_none (P := Try.prog) (w := w) base0 t ty e i0 sz ht hi0 ov n xs hown
    rw [← h]
    rfl
  | some ad =>
    obtain ⟨v', w', hr, h5, h6, _⟩ := run_append_own (P := Try.prog) w base0 t ty e i0 _ sz by' ht hi0 hz0 hz1 hz2 hz hsz ov n xs hown ad m cap vals h1 (h4 ad rfl) h2 h63 hn hb0
    exact ⟨v', w', hr, h5, h6⟩
theorem own_slice {w : World} {base e sz : Nat} {ov : Value} {n : Nat} {xs : List Value} (h : w.ownsRow base e sz ov n xs) : ∃ b c, ov = .slice b n c := by
  rcases h.2 with ⟨h1, h2⟩ | ⟨g, cap, cur, h1, _⟩
  · exact ⟨none, 0, by rw [h1, h2]⟩
  · exact ⟨_, cap, h1⟩
/-- such an append as a step -/
theorem step_appG {ops : Array Oper} {o : Oper} {a : Act} {K : Act → World → Prop} {Q : Exit → Act → World → Prop} {E : Prop} (hgd : o.guard = none) (s x : Operand) {t e : TypeId}
    (ho : o.op = .call { callee := .builtin .append, args := #[s, x], argTypes := #[t, t] })
    {z : Value} {sz by' : Nat} (ht : Try.prog.underlying t = some (.slice e)) (hi : (Try.prog.info? e).map (fun i => (i.zero, i.size, i.bytes)) = some (some z, sz, by')) (hz : z.cells.size = sz) (hsz : 0 < sz)
    {w0 w : World} {ov : Value} {n m : Nat} {xs vals : List Value} (hs : a.eval s = ov) (hown : w.ownsRow w0.heap.size e sz ov n xs) (hb : Below w0.heap.size w0 w) {base : Option Addr} {cap : Nat} (hx : a.eval x = .slice base m cap) (hr : RawAt w0 base m sz vals)
    (hn : (n + m) * by' ≤ 140737488355328) (h63 : n + m ≤ maxLen)
    (h : ∀ bb cc w', w'.ownsRow w0.heap.size e sz (.slice bb (n + m) cc) (n + m) (xs ++ vals) → Below w0.heap.size w0 w' → K (a.put o.dst (.slice bb (n + m) cc)) w') :
    if Region.wanted o (yielded ops a.tmps) = true then Oper.wp Try.prog o a w K Q else E := by
  have hw : Region.wanted o (yielded ops a.tmps) = true := by simp [Region.wanted, hgd]
  rw [if_pos hw]
  obtain ⟨v', w', hrun, h2, h3⟩ := run_appG w0.heap.size t o.type e ht hi hz hsz hown cap (hr.next hb) hn h63 hb.size
  have hb' : Below w0.heap.size w0 w' := hb.grown h3 hb.size (fun m hm => (hown.lt m hm).1)
  obtain ⟨bb, cc, rfl⟩ := own_slice h2
  unfold Oper.wp execOp
  simp only [ho, resolve, invoke, builtin, Sem.run_bind, Sem.run_pure, Result.andThen_ok, List.map_toArray, List.map_cons, List.map_nil, hs, hx, hrun]
  exact h bb cc w' h2 hb'
theorem own_cells {w : World} {base e sz : Nat} {ov : Value} {n : Nat} {xs : List Value} (h : w.ownsRow base e sz ov n xs) :
    (n = 0 ∧ ov = .slice none 0 0) ∨ ∃ g cap, ov = .slice (some ⟨g, 0, none⟩) n cap ∧ base ≤ g ∧ ∀ (j : Nat) u, xs[j]? = some u → w.cell? ⟨g, j, none⟩ = some u := by
  rcases h.2 with ⟨h1, h2⟩ | ⟨g, cap, cur, hv, hb, hh, hn, hm, hs, ht⟩
  · exact .inl ⟨h2, h1⟩
  · refine .inr ⟨g, cap, hv, hb, fun j u hu => ?_⟩
    have hc : w.cell? ⟨g, j, none⟩ = cur[j]? := by simpa using cell_of_row w g j cur e (0, 0) hh
    rw [hc]
    have hj : j < n * sz := by
      have := (List.getElem?_eq_some_iff.1 hu).1
      rw [h.1] at this
      exact this
    have h1 : cur[j]? = (cur.toList.take (n * sz))[j]? := by rw [List.getElem?_take, if_pos hj]; simp
    rw [h1, ht]
    exact hu
/-- what a struct's cells say is said by a copy of them -/
def Copies {α : Type} (sz : Nat) (R : World → Nat → Nat → α → Prop) : Prop := ∀ (w w' : World) (b o b' o' : Nat) (d : α), R w b o d → Below w.heap.size w w' → (∀ j, j < sz → ∀ v, w.cell? ⟨b, o + j, none⟩ = some v → w'.cell? ⟨b', o' + j, none⟩ = some v) → R w' b' o' d
theorem app_slG {α : Type} {sz : Nat} {R : World → Nat → Nat → α → Prop} (hc : Copies sz R) {w0 w' : World} {base0 e : Nat} {ov : Value} {lb mb : Option Addr} {l m : List α} {vl vm : List Value}
    (hl : SlG sz R w0 lb l) (hrl : RawAt w0 lb l.length sz vl) (hm : SlG sz R w0 mb m) (hrm : RawAt w0 mb m.length sz vm) (hown : w'.ownsRow base0 e sz ov (l.length + m.length) (vl ++ vm)) (hb : Below w0.heap.size w0 w') (hmax : l.length + m.length ≤ maxLen) :
    ∃ b c, ov = .slice b (l ++ m).length c ∧ SlG sz R w' b (l ++ m) := by
  rcases own_cells hown with ⟨h0, hov⟩ | ⟨g, cap, hov, hg, hcell⟩
  · have e1 : l = [] := List.eq_nil_of_length_eq_zero (by omega)
    have e2 : m = [] := List.eq_nil_of_length_eq_zero (by omega)
    subst e1 e2
    exact ⟨none, 0, hov, Nat.zero_le _, .inl rfl⟩
  · refine ⟨some ⟨g, 0, none⟩, cap, by rw [hov, List.length_append], by rw [List.length_append]; exact hmax, .inr ⟨g, 0, rfl, fun i hi => ?_⟩⟩
    rw [List.length_append] at hi
    by_cases hil : i < l.length
    · rw [List.getElem_append_left hil]
      rcases hl.2 with h | ⟨g1, o1, e1, hrow⟩
      · subst h
        exact absurd hil (Nat.not_lt_zero _)
      · refine hc _ _ _ _ _ _ _ (hrow i hil) hb (fun j hj v hv => ?_)
        have hlt : i * sz + j < vl.length := by
          rw [hrl.1]
          have h1 : (i + 1) * sz ≤ l.length * sz := Nat.mul_le_mul_right _ hil
          rw [Nat.add_mul, Nat.one_mul] at h1
          omega
        have h2 := hrl.2.2.2 _ e1 (i * sz + j) _ (List.getElem?_eq_getElem hlt)
        rw [Addr.add_lit] at h2
        rw [← Nat.add_assoc] at h2
        rw [h2] at hv
        have h3 := hcell (i * sz + j) _ (by rw [List.getElem?_append_left hlt]; exact List.getElem?_eq_getElem hlt)
        rw [Nat.zero_add, h3, hv]
    · rw [List.getElem_append_right (by omega)]
      have him : i - l.length < m.length := by omega
      rcases hm.2 with h | ⟨g1, o1, e1, hrow⟩
      · subst h
        exact absurd him (Nat.not_lt_zero _)
      · refine hc _ _ _ _ _ _ _ (hrow (i - l.length) him) hb (fun j hj v hv => ?_)
        have hlt : (i - l.length) * sz + j < vm.length := by
          rw [hrm.1]
          have h1 : (i - l.length + 1) * sz ≤ m.length * sz := Nat.mul_le_mul_right _ him
          rw [Nat.add_mul, Nat.one_mul] at h1
          omega
        have h2 := hrm.2.2.2 _ e1 ((i - l.length) * sz + j) _ (List.getElem?_eq_getElem hlt)
        rw [Addr.add_lit] at h2
        rw [← Nat.add_assoc] at h2
        rw [h2] at hv
        have hsum : i * sz + j = vl.length + ((i - l.length) * sz + j) := by
          rw [hrl.1, ← Nat.add_assoc, ← Nat.add_mul]
          congr 2
          omega
        have h3 := hcell (i * sz + j) _ (by rw [List.getElem?_append_right (by omega), hsum, Nat.add_sub_cancel_left]; exact List.getElem?_eq_getElem hlt)
        rw [Nat.zero_add, h3, hv]
theorem at_copy {w w' : World} {b o b' o' : Nat} {t : Ty} (h : At w b o t) (hb : Below w.heap.size w w') (hc : ∀ j, j < 4 → ∀ v, w.cell? ⟨b, o + j, none⟩ = some v → w'.cell? ⟨b', o' + j, none⟩ = some v) : At w' b' o' t := by
  obtain ⟨h0, h1, h2, hs, base, cap, h3, hl⟩ := at_iff.mp h
  exact at_iff.mpr ⟨hc 0 (by omega) _ h0, hc 1 (by omega) _ h1, hc 2 (by omega) _ h2, hs, base, cap, hc 3 (by omega) _ h3, hl.next hb⟩
theorem copy_data : Copies 7 DataAt := fun _ _ b o b' o' d h hb hc => ⟨hc 0 (by omega) _ h.1, h.2.1, at_copy h.2.2 hb (fun j hj v hv => by have := hc (1 + j) (by omega) v (by rw [← Nat.add_assoc]; exact hv); rwa [← Nat.add_assoc] at this)⟩
theorem copy_fam : Copies 7 FamAt := fun _ _ b o b' o' d h hb hc => ⟨hc 0 (by omega) _ h.1, h.2.1, at_copy h.2.2.1 hb (fun j hj v hv => by have := hc (1 + j) (by omega) v (by rw [← Nat.add_assoc]; exact hv); rwa [← Nat.add_assoc] at this), hc 5 (by omega) _ h.2.2.2⟩
theorem copy_cls : Copies 5 ClsAt := fun _ _ b o b' o' d h hb hc => by
  obtain ⟨h1, h2, vb, vc, h3, h4⟩ := h
  exact ⟨hc 0 (by omega) _ h1, h2, vb, vc, hc 1 (by omega) _ h3, h4.next hb⟩
theorem copy_con : Copies 8 ConAt := fun _ _ b o b' o' d h hb hc => by
  obtain ⟨h1, h2, h3, h4, ⟨ub, uc, h5, h6⟩, ⟨xb, xc, h7, h8⟩, ⟨eb, ec, h9, h10⟩, ⟨gb, gc, h11, h12⟩, ab, ac, h13, h14⟩ := h
  exact ⟨hc 0 (by omega) _ h1, h2, hc 1 (by omega) _ h3, h4, ⟨ub, uc, hc 2 (by omega) _ h5, h6.next hb⟩, ⟨xb, xc, hc 3 (by omega) _ h7, h8.next hb⟩, ⟨eb, ec, hc 4 (by omega) _ h9, h10⟩, ⟨gb, gc, hc 5 (by omega) _ h11, h12⟩, ab, ac, hc 6 (by omega) _ h13, h14.next hb⟩
theorem info46 : (Try.prog.info? 46).map (fun i => (i.zero, i.size, i.bytes)) = some (some (.agg #[.string ⟨#[]⟩, .int .i64 0, .int .i64 0, .string ⟨#[]⟩, .slice none 0 0, .slice none 0 0, .bool false]), 7, 104) := by kernel_rfl
theorem info88 : (Try.prog.info? 88).map (fun i => (i.zero, i.size, i.bytes)) = some (some (.agg #[.string ⟨#[]⟩, .string ⟨#[]⟩, .slice none 0 0, .slice none 0 0, .slice none 0 0, .slice none 0 0, .slice none 0 0, .slice none 0 0]), 8, 176) := by kernel_rfl
theorem info39 : (Try.prog.info? 39).map (fun i => (i.zero, i.size, i.bytes)) = some (some (.agg #[.string ⟨#[]⟩, .int .i64 0, .int .i64 0, .string ⟨#[]⟩, .slice none 0 0, .int .i64 0, .slice none 0 0]), 7, 104) := by kernel_rfl
theorem info81 : (Try.prog.info? 81).map (fun i => (i.zero, i.size, i.bytes)) = some (some (.agg #[.string ⟨#[]⟩, .slice none 0 0, .slice none 0 0, .slice none 0 0, .slice none 0 0]), 5, 112) := by kernel_rfl
theorem own_made {W : World} {base g e sz : Nat} (hg : W.heap.size = g) (hb : base ≤ g) : (W.alloc (.cells #[] e)).ownsRow base e sz (.slice (some ⟨g, 0, none⟩) 0 0) 0 [] := by
  subst hg
  exact World.ownsRow_made (base := base) (e := e) (size := sz) W #[] 0 hb (by unfold maxLen; omega) (by simp)
/-- a box of six slices -/
abbrev B6 (W : World) (E : Nat) (v0 v1 v2 v3 v4 v5 : Value) : Prop := W.heap[E]? = some (Obj.cells #[v0, v1, v2, v3, v4, v5] 29)
theorem own_grown {W W' : World} {row : Option Nat} {base e sz : Nat} {ov : Value} {n : Nat} {xs : List Value} (h : W.ownsRow base e sz ov n xs) (hg : W.grownBy W' row) (hr : ∀ r, row = some r → r < base) : W'.ownsRow base e sz ov n xs := by
  refine ⟨h.1, ?_⟩
  rcases h.2 with h1 | ⟨g, cap, cur, hv, hb, hh, rest⟩
  · exact .inl h1
  · exact .inr ⟨g, cap, cur, hv, hb, (hg.block g (lt_of_block hh) (fun e => by have := hr g e.symm; omega)).trans hh, rest⟩
theorem three_boxes (w : World) (o0 o1 o2 : Obj) : (((w.alloc o0).alloc o1).alloc o2).heap[w.heap.size]? = some o0 ∧ (((w.alloc o0).alloc o1).alloc o2).heap[w.heap.size + 1]? = some o1 ∧ (((w.alloc o0).alloc o1).alloc o2).heap[w.heap.size + 2]? = some o2 ∧ Below w.heap.size w (((w.alloc o0).alloc o1).alloc o2) := by
  obtain ⟨h1, h2, h3, _, _, _⟩ := four_boxes w o0 o1 o2 o2
  have s2 : (((w.alloc o0).alloc o1).alloc o2).heap.size = w.heap.size + 3 := by simp
  have hk := fun j (hj : j < w.heap.size + 3) => (Below.heap_alloc (((w.alloc o0).alloc o1).alloc o2) o2 j (by rw [s2]; exact hj)).symm
  exact ⟨(hk _ (by omega)).trans h1, (hk _ (by omega)).trans h2, (hk _ (by omega)).trans h3, (((Below.refl _ _).alloc (Nat.le_refl _) _).alloc (by simp) _).alloc (by simp; omega) _⟩
end Ty
end Go.Proofs.Ytfjgebdpbmnicaa

/- Slices of structs joined to new ones, and stored where they were: what stands then. Conditions: none. -/
namespace Go.Proofs.Ytfjgebdpbmnicaa
open Go.RowKit

namespace Ty
/-- the first append, to a new empty slice -/
theorem step_app0 {ops : Array Oper} {o : Oper} {a : Act} {K : Act → World → Prop} {Q : Exit → Act → World → Prop} {E : Prop} (hgd : o.guard = none) (s x : Operand) {t e : TypeId}
    (ho : o.op = .call { callee := .builtin .append, args := #[s, x], argTypes := #[t, t] })
    {z : Value} {sz by' : Nat} (ht : Try.prog.underlying t = some (.slice e)) (hi : (Try.prog.info? e).map (fun i => (i.zero, i.size, i.bytes)) = some (some z, sz, by')) (hz : z.cells.size = sz) (hsz : 0 < sz)
    {w0 w : World} {g0 m : Nat} {vals : List Value} (hs : a.eval s = .slice (some ⟨g0, 0, none⟩) 0 0) (hown : w.ownsRow w0.heap.size e sz (.slice (some ⟨g0, 0, none⟩) 0 0) 0 []) (hb : Below w0.heap.size w0 w) {base : Option Addr} {cap : Nat} (hx : a.eval x = .slice base m cap) (hr : RawAt w0 base m sz vals)
    (hn : m * by' ≤ 140737488355328) (h63 : m ≤ maxLen)
    (h : ∀ bb cc w', w'.ownsRow w0.heap.size e sz (.slice bb m cc) m vals → Below w0.heap.size w0 w' → K (a.put o.dst (.slice bb m cc)) w') :
    if Region.wanted o (yielded ops a.tmps) = true then Oper.wp Try.prog o a w K Q else E :=
  step_appG hgd s x ho ht hi hz hsz hs hown hb hx hr (by rw [Nat.zero_add]; exact hn) (by rw [Nat.zero_add]; exact h63) (fun bb cc w' h1 h2 => by
    rw [Nat.zero_add, List.nil_append] at h1
    rw [Nat.zero_add]
    exact h bb cc w' h1 h2)
theorem own_set {W : World} {base e sz : Nat} {ov : Value} {n : Nat} {xs : List Value} (h : W.ownsRow base e sz ov n xs) {p : Addr} (v : Value) (hp : p.block < base) : (W.setCell p v).ownsRow base e sz ov n xs := by
  refine ⟨h.1, ?_⟩
  rcases h.2 with h1 | ⟨g, cap, cur, hv, hb, hh, rest⟩
  · exact .inl h1
  · exact .inr ⟨g, cap, cur, hv, hb, (Below.heap_setCell _ _ _ _ (by omega)).trans hh, rest⟩
theorem grown_set {V W : World} (hb : Below V.heap.size V W) (p : Addr) (v : Value) : V.grownBy (W.setCell p v) (some p.block) :=
  ⟨hb.os, hb.tape, hb.output, by simpa [World.setCell] using hb.size, fun k hk hne => (Below.heap_setCell _ _ _ _ (fun e => hne (by rw [e]))).trans (hb.block k hk)⟩
theorem B6.next {W W' : World} {E : Nat} {v0 v1 v2 v3 v4 v5 : Value} (h : B6 W E v0 v1 v2 v3 v4 v5) (hb : Below W.heap.size W W') : B6 W' E v0 v1 v2 v3 v4 v5 := (hb.block E (lt_of_block h)).trans h
theorem B6.cell {W : World} {E : Nat} {v0 v1 v2 v3 v4 v5 : Value} (h : B6 W E v0 v1 v2 v3 v4 v5) (i : Nat) : W.cell? ⟨E, i, none⟩ = #[v0, v1, v2, v3, v4, v5][i]? := by simpa using cell_of_row W E i _ 29 (0, 0) h
theorem B6.frozen {W : World} {E : Nat} {v0 v1 v2 v3 v4 v5 : Value} (h : B6 W E v0 v1 v2 v3 v4 v5) (i : Nat) : W.frozen? ⟨E, i, none⟩ = false := by
  unfold World.frozen?
  rw [show W.heap[E]? = _ from h]
  simp
theorem B6.set0 {W : World} {E : Nat} {v0 v1 v2 v3 v4 v5 : Value} (h : B6 W E v0 v1 v2 v3 v4 v5) (u : Value) : B6 (W.setCell ⟨E, 0, none⟩ u) E u v1 v2 v3 v4 v5 := by
  unfold B6 at h ⊢
  simp [World.setCell, Array.getElem?_modify, h]
theorem B6.set1 {W : World} {E : Nat} {v0 v1 v2 v3 v4 v5 : Value} (h : B6 W E v0 v1 v2 v3 v4 v5) (u : Value) : B6 (W.setCell ⟨E, 1, none⟩ u) E v0 u v2 v3 v4 v5 := by
  unfold B6 at h ⊢
  simp [World.setCell, Array.getElem?_modify, h]
theorem B6.set2 {W : World} {E : Nat} {v0 v1 v2 v3 v4 v5 : Value} (h : B6 W E v0 v1 v2 v3 v4 v5) (u : Value) : B6 (W.setCell ⟨E, 2, none⟩ u) E v0 v1 u v3 v4 v5 := by
  unfold B6 at h ⊢
  simp [World.setCell, Array.getElem?_modify, h]
theorem B6.set3 {W : World} {E : Nat} {v0 v1 v2 v3 v4 v5 : Value} (h : B6 W E v0 v1 v2 v3 v4 v5) (u : Value) : B6 (W.setCell ⟨E, 3, none⟩ u) E v0 v1 v2 u v4 v5 := by
  unfold B6 at h ⊢
  simp [World.setCell, Array.getElem?_modify, h]
theorem vo_grown {W W' : World} {E : Nat} {t : Ty} {v : Value} (h : VO (· ≠ E) W t v) (hg : W.grownBy W' (some E)) : VO (· ≠ E) W' t v :=
  h.keep (fun _ h => h) (fun p v hp hc => hg.cell hc (fun e => hp (by injection e)))
theorem below_grown {w W W' : World} {E : Nat} (h : Below w.heap.size w W) (hg : W.grownBy W' (some E)) (hE : w.heap.size ≤ E) : Below w.heap.size w W' :=
  h.grown hg h.size (fun j hj => by injection hj with hj; omega)
theorem cell_set {W : World} {a : Addr} {v : Value} {p : Addr} {u : Value} (h : W.cell? a = some v) (hne : a.block ≠ p.block) : (W.setCell p u).cell? a = some v := by
  rw [World.cell?_setCell_other _ _ _ _ (fun e => hne (by first | rw [e] | exact e | exact e.symm))]
  exact h
mutual
theorem same_self : ∀ t : Ty, same t t = true
  | .mk o n s l => by
    rw [same, sames_self l]
    simp
theorem sames_self : ∀ l : List Ty, sames l l = true
  | [] => by rw [sames]
  | t :: l => by rw [sames, same_self t, sames_self l]; rfl
end
theorem below_da (W : World) (o : Obj) : Below W.drew.heap.size W.drew (W.alloc o).drew := (Below.refl W.drew.heap.size W.drew).alloc (Nat.le_refl _) o
theorem own_d {W : World} {base g e sz : Nat} (hg : W.heap.size = g) (hb : base ≤ g) : (W.alloc (.cells #[] e)).drew.ownsRow base e sz (.slice (some ⟨g, 0, none⟩) 0 0) 0 [] := own_made hg hb
theorem b4_grown {W W' : World} {E m : Nat} {v0 v1 v2 v3 : Value} (h : B4 W m v0 v1 v2 v3) (hg : W.grownBy W' (some E)) (hne : m ≠ E) : B4 W' m v0 v1 v2 v3 := (hg.block m (lt_of_block h) (fun e => hne (by injection e))).trans h
theorem app_base {α : Type} {sz : Nat} {R : World → Nat → Nat → α → Prop} (hc : Copies sz R) {w0 w' : World} {base0 e n k : Nat} {a lb mb : Option Addr} {g : Nat} {l m : List α} {vl vm : List Value} (hn : l.length = n) (hk : m.length = k)
    (hl : SlG sz R w0 lb l) (hrl : RawAt w0 lb n sz vl) (hm : SlG sz R w0 mb m) (hrm : RawAt w0 mb k sz vm) (hown : w'.ownsRow base0 e sz (.slice a (n + k) g) (n + k) (vl ++ vm)) (hb : Below w0.heap.size w0 w') (hmax : n + k ≤ 3000000) : SlG sz R w' a (l ++ m) := by
  subst hn hk
  obtain ⟨b, c, e, h⟩ := app_slG hc hl hrl hm hrm hown hb (by unfold maxLen; omega)
  injection e with e1
  rw [e1]
  exact h
end Ty
end Go.Proofs.Ytfjgebdpbmnicaa

/- Kinds in a greater environment. Conditions: what is added has names that were not there. No program's function stands in this text. -/
namespace Go.Proofs.Ytfjgebdpbmnicaa
open Go.RowKit

namespace Ty
/-- an environment and more behind it -/
def envApp (E M : PEnv) : PEnv := ⟨E.data ++ M.data, E.cons ++ M.cons, E.fams ++ M.fams, E.clss ++ M.clss⟩
theorem find_left {α : Type} {p : α → Bool} {l m : List α} {d : α} (h : l.find? p = some d) : (l ++ m).find? p = some d := by rw [List.find?_append, h]; rfl
theorem find_right {α : Type} {p : α → Bool} {l m : List α} (h : l.find? p = none) : (l ++ m).find? p = m.find? p := by rw [List.find?_append, h]; rfl
theorem findT_more {E M : PEnv} (hd : ∀ d ∈ M.data, (findT E d.name).1 = .bad 20) (hf : ∀ f ∈ M.fams, (findT E f.name).1 = .bad 20) {s : List UInt8} {k : Ty} {a : Int} (h : findT E s = (.ok k, a)) : findT (envApp E M) s = (.ok k, a) := by
  have hs : (findT E s).1 = .ok k := by rw [h]
  have hnd : M.data.find? (fun d => decide (d.name = s)) = none := by
    rw [List.find?_eq_none]
    intro d hm e
    have e' : d.name = s := by simpa using e
    have h1 := hd d hm
    rw [e', hs] at h1
    cases h1
  have hnf : M.fams.find? (fun d => decide (d.name = s)) = none := by
    rw [List.find?_eq_none]
    intro d hm e
    have e' : d.name = s := by simpa using e
    have h1 := hf d hm
    rw [e', hs] at h1
    cases h1
  clear hs hd hf
  unfold findT at h ⊢
  split at h
  · exact h
  · split at h
    · cases h
    · rename_i hq
      rw [if_neg hq]
      split at h
      · unfold findConT at h ⊢
        split at h
        · cases h
        · rename_i c hc
          rw [show (envApp E M).cons = E.cons ++ M.cons from rfl, find_left hc]
          exact h
      · split at h
        · rename_i d e1
          rw [show (envApp E M).data = E.data ++ M.data from rfl, find_left e1]
          exact h
        · rename_i e1
          rw [show (envApp E M).data = E.data ++ M.data from rfl, find_right e1, hnd]
          simp only
          split at h
          · rename_i d e2
            rw [show (envApp E M).fams = E.fams ++ M.fams from rfl, find_left e2]
            exact h
          · rename_i e2
            rw [show (envApp E M).fams = E.fams ++ M.fams from rfl, find_right e2, hnf]
            simp only
            split at h
            · rename_i d e3
              rw [show (envApp E M).clss = E.clss ++ M.clss from rfl, find_left e3]
              exact h
            · cases h
theorem must_inv {r next : Res} {k x : Ty} (h : mustT r k next = .ok x) : (∃ k', r = .ok k') ∧ next = .ok x := by
  unfold mustT at h
  split at h
  · cases h
  · split at h
    · exact ⟨⟨_, rfl⟩, h⟩
    · cases h
theorem applied_inv {f rx : Res} {x y : Ty} (h : appliedT f x rx = .ok y) : (∃ f', f = .ok f') ∧ ∃ k', rx = .ok k' := by
  unfold appliedT at h
  split at h
  · cases h
  · split at h
    · cases h
    · exact ⟨⟨_, rfl⟩, (must_inv h).1⟩
theorem constantT_more {E M : PEnv} (hd : ∀ d ∈ M.data, (findT E d.name).1 = .bad 20) (hf : ∀ f ∈ M.fams, (findT E f.name).1 = .bad 20) {s : List UInt8} {ar : Nat} {k : Ty} (h : constantT E s ar = .ok k) : constantT (envApp E M) s ar = .ok k := by
  unfold constantT at h ⊢
  split at h
  · cases h
  · rename_i hq
    rw [if_neg hq]
    split at h
    · cases h
    · rename_i k' a e
      rw [findT_more hd hf e]
      exact h
theorem kindF_more {K : KW} {M : PEnv} (hd : ∀ d ∈ M.data, (findT K.env d.name).1 = .bad 20) (hf : ∀ f ∈ M.fams, (findT K.env f.name).1 = .bad 20) : ∀ (m : Nat) (t : Ty) (ctx : List Ty) (ar : Nat) (k : Ty), kindF K m t ctx ar = .ok k → kindF ⟨envApp K.env M, K.metas, K.rigids⟩ m t ctx ar = .ok k
  | 0, _, _, _, _, h => by unfold kindF at h; cases h
  | m + 1, t, ctx, ar, k, h => by
    have ih := kindF_more hd hf m
    unfold kindF at h ⊢
    split at h
    · split at h
      · rename_i h3
        rw [if_pos h3]
        split at h
        · rename_i h4
          rw [if_pos h4]
          split at h
          · cases h
          · rename_i e
            obtain ⟨⟨k', e1⟩, e2⟩ := must_inv h
            rw [ih _ _ _ _ e]
            simp only
            rw [ih _ _ _ _ e1, ← e1]
            exact h
        · rename_i h4
          rw [if_neg h4]
          obtain ⟨⟨f', e1⟩, k', e2⟩ := applied_inv h
          rw [ih _ _ _ _ e1, ih _ _ _ _ e2, ← e1, ← e2]
          exact h
      · rename_i h3
        rw [if_neg h3]
        split at h
        · rename_i h4
          rw [if_pos h4]
          obtain ⟨⟨f', e1⟩, e2⟩ := must_inv h
          obtain ⟨⟨k', e3⟩, e4⟩ := must_inv e2
          rw [ih _ _ _ _ e1, ih _ _ _ _ e3, ← e1, ← e3]
          exact h
        · rename_i h4
          rw [if_neg h4]
          obtain ⟨⟨f', e1⟩, e2⟩ := must_inv h
          obtain ⟨⟨k', e3⟩, e4⟩ := must_inv e2
          rw [ih _ _ _ _ e1, ih _ _ _ _ e3, ← e1, ← e3]
          exact h
    · split at h
      · rename_i h2
        rw [if_pos h2]
        exact constantT_more hd hf h
      · rename_i h2
        rw [if_neg h2]
        exact h
end Ty
end Go.Proofs.Ytfjgebdpbmnicaa
