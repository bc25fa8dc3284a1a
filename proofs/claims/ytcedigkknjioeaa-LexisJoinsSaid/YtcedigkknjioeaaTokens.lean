/- What Tokens returns. Conditions: the source is no longer than a string can be. -/
import Derived.Test.YtcedigkknjioeaaToks
import Derived.RegionTactic
import Derived.WalkMore
namespace Go.Proofs.Ytcedigkknjioeaa
open Go.RowKit Go.WideMaps Go.Maps

theorem Try.info45 : (Try.prog.info? 45).map (fun i => (i.zero, i.size, i.bytes)) = some (some (.agg #[.int .i64 0, .string ⟨#[]⟩, .int .i64 0]), 3, 32) := by kernel_rfl

theorem stepTI {B0 BM BA a : Nat} {s : ByteArray} {w : World} (h : TI B0 BM BA s a w) (n : Nat) (hs : s.size ≤ maxLen) (hn : a + n ≤ s.size) :
    Calls Try.prog 27 #[.int .i64 n, .pointer (some ⟨BA, 0, none⟩), .pointer (some ⟨B0, 0, none⟩)] w fun e w' => e = .returned (.string (s.extract a (a + n))) ∧ TI B0 BM BA s (a + n) w' ∧ w.grownBy w' (some BA) :=
  (step_any h n hs hn).mono fun e w' ⟨h1, h2⟩ => ⟨h1, by rw [h2]; exact h.move _, by rw [h2]; exact grown_setCell _ _ _⟩

set_option maxHeartbeats 1000000 in
theorem tokens_full (s : ByteArray) (w : World) (hs : s.size ≤ maxLen) (hbig : 12000 < s.size) :
    Calls Try.prog 9 #[.string s] w fun e w' => e = .returned (.tuple #[.slice none 0 0, .int .i64 0, .int .i64 5]) ∧ Below w.heap.size w w' := by
  unfold maxLen at hs
  go_enter Try.func9, Try.ntmps9
  go_wp2
  go_step3
  go_wp2
  rw [Exit.noGoto_ret]
  go_ret3
  exact ⟨rfl, (Below.refl _ _).alloc (Nat.le_refl _) _⟩

def posOf (BA : Nat) (w : World) : Nat := match w.heap[BA]? with
  | some (.cells #[.int _ n] _ _) => n.toNat
  | _ => 0
theorem TI.posOf {B0 BM BA a : Nat} {s : ByteArray} {w : World} (h : TI B0 BM BA s a w) : posOf BA w = a := by
  unfold Ytcedigkknjioeaa.posOf
  rw [h.pos]
  rfl

/-- the loop's invariant -/
structure TL (w0 : World) (B0 BM BA : Nat) (s : ByteArray) (a : Nat) (A : List Lx.Tok) (v : Value) (w : World) : Prop where
  ti : TI B0 BM BA s a w
  le : a ≤ s.size
  own : w.ownsRow (BA + 1) 45 3 v A.length (Lx.tcells A)
  few : A.length ≤ a
  gone : Lx.toksA s.data.toList 0 = (A ++ (Lx.toksA s.data.toList a).1, (Lx.toksA s.data.toList a).2)
  below : Below w0.heap.size w0 w
  base : w0.heap.size ≤ BA

theorem TL.start {s : ByteArray} {w w1 : World} (h : WS (w.alloc (.cells #[.string s] 9)) w1 (w.heap.size + 1) 21) :
    TL w w.heap.size (w.heap.size + 1) w1.heap.size s 0 [] (.slice none 0 0) (w1.alloc (.cells #[.int .i64 0] 3)) := by
  have hlt := h.1.lt
  have hb := h.2.1
  have hsz : (w.alloc (.cells #[.string s] 9)).heap.size = w.heap.size + 1 := by simp
  have hb1 : w1.heap[w.heap.size]? = some (.cells #[.string s] 9 (0, 0)) := by
    rw [hb.block w.heap.size (by rw [hsz]; omega)]
    simpa using heap_alloc_new w (.cells #[.string s] 9)
  refine ⟨⟨by omega, by omega, ?_, heap_alloc_new _ _, h.1.alloc _⟩, Nat.zero_le _, World.ownsRow_nil _ _ _ _, Nat.le_refl _, by simp, ?_, by omega⟩
  · rw [Below.heap_alloc _ _ _ (by omega)]; exact hb1
  · exact (((Below.refl _ _).alloc (Nat.le_refl _) _).trans (hb.mono (by rw [hsz]; omega))).alloc (by omega) _

theorem own_other {w : World} {base n : Nat} {v : Value} {xs : List Value} (h : w.ownsRow (base + 1) 45 3 v n xs) : v.ownBlock = none ∨ v.ownBlock ≠ some base := by
  cases hv : v.ownBlock with
  | none => exact .inl rfl
  | some k => exact .inr (by have := (h.lt k hv).1; intro e; injection e with e; omega)

theorem cells_three (w : World) (x y z : Value) (e : TypeId) : ∀ j u, [x, y, z][j]? = some u → (w.alloc (.cells #[x, y, z] e)).cell? ((⟨w.heap.size, 0, none⟩ : Addr).add j) = some u := by
  intro j u hj
  have hh := heap_alloc_new w (.cells #[x, y, z] e)
  have h1 := cell_of_row (w.alloc (.cells #[x, y, z] e)) w.heap.size j #[x, y, z] e (0, 0) hh
  rw [show (⟨w.heap.size, 0, none⟩ : Addr).add j = ⟨w.heap.size, j, none⟩ from by simp [Addr.add]; omega, h1, ← hj]
  exact List.getElem?_toArray ..

/-- a token more, AT THE OPERATION -/
theorem wpList_tok {wx : World} {ops : Array Oper} {rest : List Oper} {o : Oper} {a : Act} {Q : Exit → Act → World → Prop} (hgd : o.guard = none) (x y : Operand)
    (ho : o.op = .call { callee := .builtin .append, args := #[x, y], argTypes := #[22, 22] }) (base : Nat) (v : Value) (A : List Lx.Tok) (hs : a.eval x = v)
    (hown : wx.ownsRow base 45 3 v A.length (Lx.tcells A)) (hb : base ≤ wx.heap.size) (hlen : A.length ≤ 12000) (t : Lx.Tok) (k q p : Value)
    (hx : a.eval y = .slice (some ⟨wx.heap.size, 0, none⟩) 1 1) (hk : k = .int .i64 t.1) (hq : q = .string ⟨t.2.1.toArray⟩) (hp : p = .int .i64 t.2.2)
    (h : ∀ v' w', w'.ownsRow base 45 3 v' (A ++ [t]).length (Lx.tcells (A ++ [t])) → wx.grownBy w' v.ownBlock → wpList Try.prog ops Q rest (a.put o.dst v') w') :
    wpList Try.prog ops Q (o :: rest) a (wx.alloc (.cells #[k, q, p] 45)) := by
  obtain ⟨i0, hi, hz0, hz1, hz2⟩ := info_parts Try.info45
  subst hk hq hp
  refine wpList_append_own _ hgd x y 22 ho base 45 i0 _ 3 32 Try.underlying22 hi hz0 hz1 hz2 rfl (by decide) v A.length (Lx.tcells A) hs (hown.alloc _) ⟨wx.heap.size, 0, none⟩ 1 1 _ hx rfl (cells_three _ _ _ _ _) ?_ ?_ ?_ ?_ ?_
  · intro u hu
    simp at hu
    rcases hu with rfl | rfl | rfl <;> rfl
  · unfold maxLen; omega
  · omega
  · simp; omega
  · intro v' w' h1 h2 _
    refine h v' w' ?_ ?_
    · rw [Lx.tcells_snoc, List.length_append]
      exact h1
    · exact ⟨h2.os, h2.tape, h2.output, by have := h2.size; simp at this; omega, fun j hj hne => by rw [h2.block j (by simp; omega) hne]; exact Below.heap_alloc _ _ _ hj⟩

theorem own_base {w : World} {b b' e size n : Nat} {v : Value} {xs : List Value} (h : w.ownsRow b e size v n xs) (hb : b' ≤ b) : w.ownsRow b' e size v n xs := by
  obtain ⟨h1, h2 | ⟨g, cap, cur, r1, r2, r3⟩⟩ := h
  · exact ⟨h1, .inl h2⟩
  · exact ⟨h1, .inr ⟨g, cap, cur, r1, by omega, r3⟩⟩

/-- what Tokens leaves -/
def TokPost (s : ByteArray) (w : World) (e : Ending) (w' : World) : Prop :=
  Below w.heap.size w w' ∧ match Lx.toksA s.data.toList 0 with
    | (_, some p) => e = .returned (.tuple #[.slice none 0 0, .int .i64 p, .int .i64 4])
    | (A, none) => ∃ v, e = .returned (.tuple #[v, .int .i64 0, .int .i64 0]) ∧ w'.ownsRow w.heap.size 45 3 v (A.length + 1) (Lx.tcells (A ++ [(7, [], s.size)]))

set_option maxRecDepth 100000 in
set_option maxHeartbeats 4000000 in
theorem tokens_any (s : ByteArray) (w : World) (hbig : s.size ≤ 12000) :
    Calls Try.prog 9 #[.string s] w (TokPost s w) := by
  have hs : s.size ≤ maxLen := by unfold maxLen; omega
  have hS := Lib.hid hs
  have hL := Lib.hid (Lx.size_list s)
  clear hs
  obtain ⟨i0, hi, hz0, hz1, hz2⟩ := info_parts Try.info45
  have HI := Lib.hid hi; have HZ0 := Lib.hid hz0; have HZ1 := Lib.hid hz1; have HZ2 := Lib.hid hz2
  clear hi hz0 hz1 hz2
  go_enter Try.func9, Try.ntmps9
  go_wp2_with fail
  go_step3
  go_wp2_with fail
  refine (wordSet_any _).mono ?_
  rintro e w1 ⟨rfl, hws⟩
  have hst := Lib.hid (TL.start (s := s) (w := w) (w1 := w1) (by simpa using hws))
  clear hws
  go_wp2_with fail
  go_step3
  go_wp2_with fail
  go_loopw [6] (fun v wr => ∃ a A, TL w w.heap.size (w.heap.size + 1) w1.heap.size s a A v wr) (fun _ wr => s.size - posOf w1.heap.size wr)
  case atStart => exact ⟨0, [], hst.out⟩
  case round =>
    obtain ⟨a, A, htl⟩ := hrel
    have hle := htl.le
    have hT := Lib.hid htl
    have c0 := cell_of_one htl.ti.src
    have c1 := cell_of_one htl.ti.pos
    clear htl
    obtain ⟨sp, hsp⟩ : ∃ sp, sp = Lx.spl (s.data.toList.drop a) := ⟨_, rfl⟩
    have hx : ∀ k, (s.extract k s.size).size ≤ maxLen := fun k => by have := Lx.size_list (s.extract k s.size); have h2 := hS.out; rw [← this, Lx.ext_end, List.length_drop, hL.out]; omega
    have HX := Lib.hid hx
    clear hx
    have hc28 : ∀ w, Calls Try.prog 28 #[.string (s.extract a s.size)] w fun e w' => e = .returned (.int .i64 sp) ∧ w = w' := fun w => by
      have := space_any (s.extract a s.size) w (HX.out a)
      rw [Lx.ext_end, ← hsp] at this
      exact this
    have H28 := Lib.hid hc28
    clear hc28
    have ha1 := Lx.at1_le (l := s.data.toList) (a := a) (by rw [hL.out]; exact hle)
    obtain ⟨a1, ea1⟩ : ∃ a1, a1 = Lx.at1 s.data.toList a := ⟨_, rfl⟩
    have ea2 : a1 = a + sp := by rw [ea1, hsp]; rfl
    rw [← ea1, hL.out] at ha1
    have E1 := Lib.hid ea1
    have E2 := Lib.hid ea2
    have hasp : a + sp ≤ s.size := by omega
    clear ea1 ea2 hsp
    go_wp2_with fail
    refine (H28.out _).mono ?_
    rintro e w' ⟨rfl, rfl⟩
    go_wp2_with fail
    refine (stepTI hT.out.ti sp hS.out hasp).mono ?_
    rintro e w2 ⟨rfl, t2, g2⟩
    rw [← E2.out] at t2
    have T2 := Lib.hid t2
    have G2 := Lib.hid g2
    have d0 := cell_of_one t2.src
    have d1 := cell_of_one t2.pos
    clear t2 g2 hasp c0 c1
    have hown2 := hT.out.own.kept G2.out (own_other hT.out.own)
    have hbs2 : w1.heap.size + 1 ≤ w2.heap.size := by have := lt_of_block T2.out.pos; omega
    have hA := hT.out.few
    have hA2 : A.length ≤ 12000 := by omega
    have hbl2 := Lib.hid (hT.out.below.grown G2.out (Nat.le_trans hT.out.base (Nat.le_of_lt (lt_of_block hT.out.ti.pos))) (fun k hk => by injection hk with hk; have := hT.out.base; omega))
    by_cases hend : a1 = s.size
    · have hemp : (s.extract a1 s.size).toList.isEmpty = true := by rw [Lib.toList_data, Lx.ext_end, hend, ← Lx.size_list s, List.drop_length]; rfl
      have hpure : Hid (Lx.toksA s.data.toList a = ([], none)) := Lib.hid (by rw [Lx.toksA_step _ _ (by rw [hL.out]; exact hle), if_pos (by rw [← E1.out, hL.out]; exact hend)])
      clear hend
      go_wp2_with (at_builtin; refine wpList_tok rfl _ _ rfl _ _ A rfl hown2 hbs2 hA2 (7, [], s.size) _ _ _ rfl rfl rfl rfl ?_; intro v3 w3 hown3 hgrow3)
      rw [Exit.noGoto_ret]
      go_ret3
      refine ⟨hbl2.out.grown hgrow3 (by have := hT.out.base; omega) (fun k hk => by have := (hown2.lt k hk).1; have := hT.out.base; omega), ?_⟩
      have hg := hT.out.gone
      rw [hpure.out, List.append_nil] at hg
      rw [hg]
      refine ⟨v3, rfl, own_base (by simpa using hown3) (by have := hT.out.base; omega)⟩
    · have h0 : 0 < (s.extract a1 s.size).size := by rw [← Lx.size_list, Lx.ext_end, List.length_drop, hL.out]; omega
      have hemp : (s.extract a1 s.size).toList.isEmpty = false := by obtain ⟨r, h1⟩ := Lx.head_list _ h0; rw [Lib.toList_data, h1]; rfl
      obtain ⟨n, en⟩ : ∃ n, n = Lx.tlen (s.data.toList.drop a1) := ⟨_, rfl⟩
      have hn := Lx.tlen_le (s.data.toList.drop a1)
      rw [← en, List.length_drop, hL.out] at hn
      have hn2 : a1 + n ≤ s.size := by omega
      have hc29 : ∀ w, Calls Try.prog 29 #[.string (s.extract a1 s.size)] w fun e w' => e = .returned (.int .i64 n) ∧ w = w' := fun w => by
        have := tokenLength_any (s.extract a1 s.size) w (HX.out a1) h0
        rw [Lx.ext_end, ← en] at this
        exact this
      have H29 := Lib.hid hc29
      have hsz2 : ((s.extract a1 s.size).extract 0 n).size ≤ maxLen := by rw [← Lx.size_list, Lx.ext_ext]; rw [List.length_take]; unfold maxLen; omega
      have htok : ((s.extract a1 s.size).extract 0 n).data.toList = Lx.tok1 s.data.toList a := by rw [Lx.ext_ext, en, E1.out]; rfl
      have HSZ2 := Lib.hid hsz2
      obtain ⟨kd, ekd⟩ : ∃ kd, kd = Lx.kind (Lx.tok1 s.data.toList a) := ⟨_, rfl⟩
      have hc30 : Calls Try.prog 30 #[.map (some (w.heap.size + 1)), .string ((s.extract a1 s.size).extract 0 n)] w2 fun e w' => e = .returned (.int .i64 kd) ∧ w2 = w' := by
        have := kindOf_any T2.out.map ((s.extract a1 s.size).extract 0 n) hsz2
        rw [htok, ← ekd] at this
        exact this
      have H30 := Lib.hid hc30
      have EKD := Lib.hid ekd
      have EN := Lib.hid en
      have HEND := Lib.hid hend
      clear hc29 hc30 hsz2 htok ekd en hend
      by_cases hk0 : kd = 0
      · have hkb : (kd == 0) = true := by rw [hk0]; rfl
        have hpure : Hid (Lx.toksA s.data.toList a = ([], some a1)) := Lib.hid (by rw [Lx.toksA_step _ _ (by rw [hL.out]; exact hle), if_neg (by rw [← E1.out, hL.out]; exact HEND.out), if_pos (by rw [← EKD.out]; exact hk0), ← E1.out])
        clear hk0
        go_wp2_with fail
        refine (H29.out _).mono ?_
        rintro e w' ⟨rfl, rfl⟩
        go_wp2_with fail
        refine H30.out.mono ?_
        rintro e w' ⟨rfl, rfl⟩
        go_wp2_with fail
        go_region
        all_goals
          go_wp2
          rw [Exit.noGoto_ret]
          go_ret3
          refine ⟨hbl2.out.drew, ?_⟩
          have hg := hT.out.gone
          rw [hpure.out] at hg
          rw [hg]
          rfl
      · have hkb : (kd == 0) = false := by simpa using hk0
        have HK0 := Lib.hid hk0
        clear hk0
        go_wp2_with fail
        refine (H29.out _).mono ?_
        rintro e w' ⟨rfl, rfl⟩
        go_wp2_with fail
        refine H30.out.mono ?_
        rintro e w' ⟨rfl, rfl⟩
        go_wp2_with fail
        refine (stepTI T2.out n hS.out hn2).mono ?_
        rintro e w3 ⟨rfl, t3, g3⟩
        have T3 := Lib.hid t3
        have G3 := Lib.hid g3
        clear t3 g3
        have hown3 := hown2.kept G3.out (own_other hown2)
        have hbs3 : w1.heap.size + 1 ≤ w3.heap.size := by have := lt_of_block T3.out.pos; omega
        have hbl3 := Lib.hid (hbl2.out.grown G3.out (by have := hT.out.base; omega) (fun k hk => by injection hk with hk; have := hT.out.base; omega))
        have hq : Value.string (s.extract a1 (a1 + n)) = .string ⟨(Lx.tok1 s.data.toList a).toArray⟩ := by
          rw [Lx.ext_mk, E1.out, EN.out, E1.out]
          unfold Lx.tok1
          rw [Nat.add_sub_cancel_left]
        have HQ := Lib.hid hq
        clear hq
        go_wp2_with (at_builtin; refine wpList_tok rfl _ _ rfl _ _ A rfl hown3 hbs3 hA2 (kd, Lx.tok1 s.data.toList a, a1) _ _ _ rfl rfl HQ.out rfl ?_; intro v4 w4 hown4 hgrow4)
        have hpos := Lx.tlen_pos (l := s.data.toList.drop a1) (by have := HK0.out; rw [EKD.out] at this; rw [E1.out]; exact this)
        rw [← EN.out] at hpos
        have haa : a ≤ a1 := by have := E2.out; omega
        have hrow := fun k hk => (hown3.lt k hk).1
        have t4 := T3.out.grown hgrow4 (fun k hk => by have := hrow k hk; omega)
        have hstep : Lx.toksA s.data.toList a = ((kd, Lx.tok1 s.data.toList a, a1) :: (Lx.toksA s.data.toList (a1 + n)).1, (Lx.toksA s.data.toList (a1 + n)).2) := by
          rw [Lx.toksA_step _ _ (by rw [hL.out]; exact hle), if_neg (by rw [← E1.out, hL.out]; exact HEND.out), if_neg (by rw [← EKD.out]; exact HK0.out), ← E1.out, ← EKD.out, ← EN.out]
        have R : TL w w.heap.size (w.heap.size + 1) w1.heap.size s (a1 + n) (A ++ [(kd, Lx.tok1 s.data.toList a, a1)]) v4 w4 :=
          ⟨t4, hn2, hown4, by rw [List.length_append, List.length_singleton]; have := hT.out.few; omega, by
            rw [hT.out.gone, hstep, List.append_assoc]; rfl, hbl3.out.grown hgrow4 (by have := hT.out.base; omega) (fun k hk => by have := hrow k hk; have := hT.out.base; omega), hT.out.base⟩
        have P0 := hT.out.ti.posOf
        have P4 := t4.posOf
        have HR := Lib.hid R
        have HP0 := Lib.hid P0
        have HP4 := Lib.hid P4
        clear R t4 hstep hrow P0 P4 hown3 hown4 hown2 hgrow4
        go_wp2
        go_roundw
        case rel => exact ⟨_, _, HR.out⟩
        case measure => rw [HP0.out, HP4.out]; omega

end Go.Proofs.Ytcedigkknjioeaa
