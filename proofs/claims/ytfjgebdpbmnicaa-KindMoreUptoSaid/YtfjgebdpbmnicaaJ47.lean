/- What Kind returns where all is proper. Conditions: what the walker's kind does. -/
import Derived.Test.YtfjgebdpbmnicaaJ46
import Derived.Test.YtfjgebdpbmnicaaJ24
namespace Go.Proofs.Ytfjgebdpbmnicaa
open Go.RowKit

namespace Ty
def anewR (r : Res) : Res := match r with | .bad c => .bad c | .ok k => .ok (anewV k)

set_option maxHeartbeats 8000000 in
theorem kindtop_ok (ctx metas rigids : List Ty) (t : Ty) (b0 b1 b2 b3 b4 b5 xb mb rb tb : Option Addr) (l0 l1 l2 l3 l4 l5 c0 c1 c2 c3 c4 c5 xc mc rc tc : Nat) (w : World) (hc : Sl w xb ctx) (hm : SlG 10 MetAt w mb metas) (hr : SlG 5 RigAt w rb rigids) (ht : V w t (.agg #[.int .i64 t.op, .int .i64 t.n, .string t.name, .slice tb t.args.length tc])) {ok : Nat → Prop} (r : Res) (hnz : ∀ c, r = .bad c → c ≠ 0) (hf : formedB ctx metas rigids = true) (hp : isProper t = true) (hk : ∀ W, Below w.heap.size w W → W.heap[w.heap.size]? = some (Obj.cells #[.slice b0 l0 c0, .slice b1 l1 c1, .slice b2 l2 c2, .slice b3 l3 c3, .slice b4 l4 c4, .slice b5 l5 c5] 29) → Calls Try.prog 18 #[.agg #[.pointer (some ⟨w.heap.size, 0, none⟩), .slice mb metas.length mc, .slice rb rigids.length rc, .slice xb ctx.length xc], .agg #[.int .i64 t.op, .int .i64 t.n, .string t.name, .slice tb t.args.length tc], .int .i64 0] W (KndO ok r W)) :
    Calls Try.prog 6 #[.agg #[.slice b0 l0 c0, .slice b1 l1 c1, .slice b2 l2 c2, .slice b3 l3 c3, .slice b4 l4 c4, .slice b5 l5 c5], .slice mb metas.length mc, .slice rb rigids.length rc, .slice xb ctx.length xc, .agg #[.int .i64 t.op, .int .i64 t.n, .string t.name, .slice tb t.args.length tc]] w (TopO (anewR r) w) := by
  obtain ⟨x0, x1, x2, x3, x4, x5⟩ := four_boxes w (Obj.cells #[.slice b0 l0 c0, .slice b1 l1 c1, .slice b2 l2 c2, .slice b3 l3 c3, .slice b4 l4 c4, .slice b5 l5 c5] 29) (Obj.cells #[.int .i64 t.op, .int .i64 t.n, .string t.name, .slice tb t.args.length tc] 36) (Obj.cells #[.int .i64 0, .int .i64 0, .string ⟨#[]⟩, .slice none 0 0] 36) (Obj.cells #[.pointer (some ⟨w.heap.size, 0, none⟩), .slice mb metas.length mc, .slice rb rigids.length rc, .slice xb ctx.length xc] 61)
  have HF := Lib.hid (fun W (hb : Below w.heap.size w W) => isformed_any w.heap.size ctx metas rigids xb mb rb xc mc rc W (hc.next hb) (SlG.next (R := MetAt) (fun _ _ h _ _ _ => MetAt.next h) hb hm) (SlG.next (R := RigAt) (fun _ _ h _ _ _ => RigAt.next h) hb hr))
  have HP := Lib.hid (fun W (hb : Below w.heap.size w W) => isprop_any t _ W (ht.next hb))
  have HT := Lib.hid (show B4 ((((w.alloc (Obj.cells #[.slice b0 l0 c0, .slice b1 l1 c1, .slice b2 l2 c2, .slice b3 l3 c3, .slice b4 l4 c4, .slice b5 l5 c5] 29)).alloc (Obj.cells #[.int .i64 t.op, .int .i64 t.n, .string t.name, .slice tb t.args.length tc] 36)).alloc (Obj.cells #[.int .i64 0, .int .i64 0, .string ⟨#[]⟩, .slice none 0 0] 36)).alloc (Obj.cells #[.pointer (some ⟨w.heap.size, 0, none⟩), .slice mb metas.length mc, .slice rb rigids.length rc, .slice xb ctx.length xc] 61)) (w.heap.size + 1) (.int .i64 t.op) (.int .i64 t.n) (.string t.name) (.slice tb t.args.length tc) from x1)
  have HR := Lib.hid (show B4 ((((w.alloc (Obj.cells #[.slice b0 l0 c0, .slice b1 l1 c1, .slice b2 l2 c2, .slice b3 l3 c3, .slice b4 l4 c4, .slice b5 l5 c5] 29)).alloc (Obj.cells #[.int .i64 t.op, .int .i64 t.n, .string t.name, .slice tb t.args.length tc] 36)).alloc (Obj.cells #[.int .i64 0, .int .i64 0, .string ⟨#[]⟩, .slice none 0 0] 36)).alloc (Obj.cells #[.pointer (some ⟨w.heap.size, 0, none⟩), .slice mb metas.length mc, .slice rb rigids.length rc, .slice xb ctx.length xc] 61)) (w.heap.size + 2) (.int .i64 0) (.int .i64 0) (.string ⟨#[]⟩) (.slice none 0 0) from x2)
  have HW := Lib.hid (show W4 ((((w.alloc (Obj.cells #[.slice b0 l0 c0, .slice b1 l1 c1, .slice b2 l2 c2, .slice b3 l3 c3, .slice b4 l4 c4, .slice b5 l5 c5] 29)).alloc (Obj.cells #[.int .i64 t.op, .int .i64 t.n, .string t.name, .slice tb t.args.length tc] 36)).alloc (Obj.cells #[.int .i64 0, .int .i64 0, .string ⟨#[]⟩, .slice none 0 0] 36)).alloc (Obj.cells #[.pointer (some ⟨w.heap.size, 0, none⟩), .slice mb metas.length mc, .slice rb rigids.length rc, .slice xb ctx.length xc] 61)) (w.heap.size + 3) (.pointer (some ⟨w.heap.size, 0, none⟩)) (.slice mb metas.length mc) (.slice rb rigids.length rc) (.slice xb ctx.length xc) from x3)
  have HB := Lib.hid x4
  have HE := Lib.hid x0
  have HS := Lib.hid x5
  clear x0 x1 x2 x3 x4 x5 hc hm hr ht
  rw [hf] at HF
  rw [hp] at HP
  have HK := Lib.hid hk
  clear hf hp hk
  go_enter Try.func6, Try.ntmps6
  go_upto_region 2 with fail
  obtain ⟨W3, hW3⟩ : ∃ W3, W3 = (((w.alloc (Obj.cells #[.slice b0 l0 c0, .slice b1 l1 c1, .slice b2 l2 c2, .slice b3 l3 c3, .slice b4 l4 c4, .slice b5 l5 c5] 29)).alloc (Obj.cells #[.int .i64 t.op, .int .i64 t.n, .string t.name, .slice tb t.args.length tc] 36)).alloc (Obj.cells #[.int .i64 0, .int .i64 0, .string ⟨#[]⟩, .slice none 0 0] 36)).alloc (Obj.cells #[.pointer (some ⟨w.heap.size, 0, none⟩), .slice mb metas.length mc, .slice rb rigids.length rc, .slice xb ctx.length xc] 61) := ⟨_, rfl⟩
  rw [← hW3] at HT HR HW HB HS HE ⊢
  clear hW3
  obtain ⟨d0, d1, d2, d3⟩ := W4.cells HW.out
  go_wp2_with fail
  refine (HF.out _ HB.out).mono ?_
  rintro e w4 ⟨rfl, hb4⟩
  have HB4 := Lib.hid (HB.out.trans (hb4.mono HB.out.size))
  have HR4 := Lib.hid (B4.next HR.out hb4)
  have HT4 := Lib.hid (B4.next HT.out hb4)
  have HW4 := Lib.hid ((hb4.block _ (lt_of_block HW.out)).trans HW.out)
  have HE4 := Lib.hid ((hb4.block _ (lt_of_block HE.out)).trans HE.out)
  clear hb4 d0 d1 d2 d3
  obtain ⟨d0, d1, d2, d3⟩ := B4.cells HT4.out
  go_wp2_with fail
  refine (HP.out _ HB4.out).mono ?_
  rintro e w5 ⟨rfl, hb5⟩
  have HB5 := Lib.hid (HB4.out.trans (hb5.mono HB4.out.size))
  have HR5 := Lib.hid (B4.next HR4.out hb5)
  have HT5 := Lib.hid (B4.next HT4.out hb5)
  have HW5 := Lib.hid ((hb5.block _ (lt_of_block HW4.out)).trans HW4.out)
  have HE5 := Lib.hid ((hb5.block _ (lt_of_block HE4.out)).trans HE4.out)
  have HTR := Lib.hid (triedn_any (resN r) #[.pointer (some ⟨w.heap.size + 3, 0, none⟩), .pointer (some ⟨w.heap.size + 1, 0, none⟩)] w5 (fun W hb => kind1_any r (w.heap.size + 3) (w.heap.size + 1) _ _ _ _ t tb tc W ((hb.block _ (lt_of_block HW5.out)).trans HW5.out) (B4.next HT5.out hb) (fun W' hb' => HK.out W' (HB5.out.trans ((hb.trans (hb'.mono hb.size)).mono HB5.out.size)) (((hb'.mono hb.size).block _ (lt_of_block HE5.out)).trans ((hb.block _ (lt_of_block HE5.out)).trans HE5.out)))))
  clear hb5 d0 d1 d2 d3
  go_wp2_with fail
  refine HTR.out.mono ?_
  rintro e w6 ⟨hb6, hor⟩
  have HB6 := Lib.hid (HB5.out.trans (hb6.mono HB5.out.size))
  have HR6 := Lib.hid (B4.next HR5.out hb6)
  have HZ := Lib.hid (lt_of_block HR5.out)
  clear hb6
  rcases hor with ⟨k, v, hr, rfl, ⟨b9, c9, rfl, hs9, hl9⟩⟩ | ⟨n, hr, rfl⟩
  · have HS9 := Lib.hid hs9
    have HL9 := Lib.hid hl9
    have HRR := Lib.hid hr
    clear hs9 hl9 hr
    obtain ⟨z0, z1, z2, z3⟩ := B4.cells HR6.out
    have f0 := B4.frozen HR6.out 0
    have f1 := B4.frozen HR6.out 1
    have f2 := B4.frozen HR6.out 2
    have f3 := B4.frozen HR6.out 3
    go_wp2_with fail
    refine bodyPost_ret (results_two (a := 10) (b := 11) (by kernel_rfl) (B := w.heap.size + 2) (o := 0) (by rfl) (by rfl) (put4_cells HR6.out _ _ _ _).cells.1 (put4_cells HR6.out _ _ _ _).cells.2.1 (put4_cells HR6.out _ _ _ _).cells.2.2.1 (put4_cells HR6.out _ _ _ _).cells.2.2.2) rfl ?_
    have hz := HZ.out
    refine ⟨k, 0, _, ?_, rfl, VO.weak (ok := (w5.heap.size ≤ ·)) ⟨b9, c9, rfl, HS9.out, HL9.out.keep (fun _ h => h) (fun p v hp hc => put4_keep _ _ _ _ p v hc (by have : w5.heap.size ≤ p.block := hp; omega))⟩, below_put4 HB6.out (by omega) _ _ _ _⟩
    have h := HRR.out
    unfold resN at h
    cases r with
    | bad c => cases h
    | ok k' => cases h; exact ⟨rfl, rfl⟩
  · have HRR := Lib.hid hr
    clear hr
    obtain ⟨z0, z1, z2, z3⟩ := B4.cells HR6.out
    have f0 := B4.frozen HR6.out 0
    have f1 := B4.frozen HR6.out 1
    have f2 := B4.frozen HR6.out 2
    have f3 := B4.frozen HR6.out 3
    go_wp2_with fail
    refine bodyPost_ret (results_two (a := 10) (b := 11) (by kernel_rfl) (B := w.heap.size + 2) (o := 0) (by rfl) (by rfl) (put4_cells HR6.out _ _ _ _).cells.1 (put4_cells HR6.out _ _ _ _).cells.2.1 (put4_cells HR6.out _ _ _ _).cells.2.2.1 (put4_cells HR6.out _ _ _ _).cells.2.2.2) rfl ?_
    refine ⟨zeroT, n, _, ?_, rfl, ⟨none, 0, rfl, Nat.zero_le _, Nat.zero_le _, .inl rfl⟩, below_put4 HB6.out (by omega) _ _ _ _⟩
    have h := HRR.out
    unfold resN at h
    cases r with
    | bad c => cases h; exact ⟨rfl, rfl, hnz _ rfl⟩
    | ok k' => cases h
end Ty
end Go.Proofs.Ytfjgebdpbmnicaa

/- No error of the plain model's has the number 0. Conditions: none. No program's function stands in this text. -/
namespace Go.Proofs.Ytfjgebdpbmnicaa
open Go.RowKit

namespace Ty
def NZ (r : Res) : Prop := ∀ c, r = .bad c → c ≠ 0
theorem nz_ok (k : Ty) : NZ (.ok k) := fun c h => by cases h
theorem nz_bad {c : Int} (h : c ≠ 0) : NZ (.bad c) := fun d e => by cases e; exact h
theorem nz_full (k : Ty) : NZ (fullT k) := by
  unfold fullT
  split
  · exact nz_ok _
  · exact nz_bad (by decide)
theorem nz_shift (k : Ty) (d : Int) : NZ (shiftR k d) := by
  unfold shiftR
  split
  · split
    · exact nz_full _
    · exact nz_bad (by decide)
  · exact nz_bad (by decide)
theorem nz_put (l : List Ty) (b : Ty) : NZ (putR l b) := by
  unfold putR
  split
  · exact nz_full _
  · exact nz_bad (by decide)
theorem nz_decl (k : Ty) (a : Int) : NZ (declT k a).1 := by
  unfold declT
  split
  · exact nz_ok _
  · exact nz_bad (by decide)
theorem nz_findCon (E : PEnv) (s : List UInt8) : NZ (findConT E s).1 := by
  unfold findConT
  split
  · exact nz_bad (by decide)
  · split
    · exact nz_bad (by decide)
    · exact nz_decl _ _
theorem nz_find (E : PEnv) (s : List UInt8) : NZ (findT E s).1 := by
  unfold findT
  split
  · exact nz_ok _
  · split
    · exact nz_bad (by decide)
    · split
      · exact nz_findCon _ _
      · split
        · exact nz_decl _ _
        · split
          · exact nz_decl _ _
          · split
            · exact nz_decl _ _
            · exact nz_bad (by decide)
theorem nz_constant (E : PEnv) (s : List UInt8) (a : Nat) : NZ (constantT E s a) := by
  unfold constantT
  split
  · exact nz_bad (by decide)
  · have h := nz_find E s
    split
    · rename_i e _ he
      rw [he] at h
      exact h
    · split
      · exact nz_bad (by decide)
      · exact nz_ok _
theorem nz_var (K : KW) (ctx : List Ty) (op n : Int) : NZ (varT K ctx op n) := by
  unfold varT
  split
  · split
    · exact nz_shift _ _
    · exact nz_bad (by decide)
  · split
    · split
      · exact nz_ok _
      · exact nz_bad (by decide)
    · split
      · split
        · exact nz_ok _
        · exact nz_bad (by decide)
      · exact nz_bad (by decide)
theorem nz_must {r next : Res} (k : Ty) (hr : NZ r) (hn : NZ next) : NZ (mustT r k next) := by
  unfold mustT
  split
  · exact hr
  · split
    · exact hn
    · exact nz_bad (by decide)
theorem nz_applied {f rx : Res} (x : Ty) (hf : NZ f) (hx : NZ rx) : NZ (appliedT f x rx) := by
  unfold appliedT
  split
  · exact hf
  · split
    · exact nz_bad (by decide)
    · refine nz_must _ hx ?_
      split
      · exact nz_put _ _
      · exact nz_ok _
theorem nz_kind (K : KW) : ∀ (m : Nat) (t : Ty) (ctx : List Ty) (ar : Nat), NZ (kindF K m t ctx ar)
  | 0, _, _, _ => nz_bad (by decide)
  | m + 1, t, ctx, ar => by
    unfold kindF
    split
    · split
      · split
        · have h := nz_kind K m
          split
          · rename_i e he
            have := h _ _ _ e he
            exact nz_bad this
          · exact nz_must _ (nz_kind K m _ _ _) (nz_ok _)
        · exact nz_applied _ (nz_kind K m _ _ _) (nz_kind K m _ _ _)
      · split
        · exact nz_must _ (nz_kind K m _ _ _) (nz_must _ (nz_kind K m _ _ _) (nz_ok _))
        · exact nz_must _ (nz_kind K m _ _ _) (nz_must _ (nz_kind K m _ _ _) (nz_ok _))
    · split
      · exact nz_constant _ _ _
      · exact nz_var _ _ _ _
end Ty
end Go.Proofs.Ytfjgebdpbmnicaa
