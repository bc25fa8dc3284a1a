/- What vec returns: the environment of Nat and Vec. Conditions: none. -/
import Derived.Test.YtfjgebdpbmnicaaJ50
namespace Go.Proofs.Ytfjgebdpbmnicaa
open Go.RowKit

namespace Ty
set_option maxRecDepth 100000 in
set_option maxHeartbeats 16000000 in
theorem vec_any (w : World) : Calls Try.prog 12 #[] w fun e w' => ∃ b0 c0 b1 c1, e = .returned (.agg #[.slice b0 2 c0, .slice b1 2 c1, .slice none 0 0, .slice none 0 0, .slice none 0 0, .slice none 0 0]) ∧ EnvS w' b0 b1 none none vecE ∧ Below w.heap.size w w' := by
  have hb1 : Below w.heap.size w (w.alloc (Obj.cells #[.slice none 0 0, .slice none 0 0, .slice none 0 0, .slice none 0 0, .slice none 0 0, .slice none 0 0] 29)) := (Below.refl _ _).alloc (Nat.le_refl _) _
  have hx1 : B6 (w.alloc (Obj.cells #[.slice none 0 0, .slice none 0 0, .slice none 0 0, .slice none 0 0, .slice none 0 0, .slice none 0 0] 29)) w.heap.size (.slice none 0 0) (.slice none 0 0) (.slice none 0 0) (.slice none 0 0) (.slice none 0 0) (.slice none 0 0) := heap_alloc_new _ _
  have HB1 := Lib.hid hb1
  have HX1 := Lib.hid hx1
  clear hb1 hx1
  go_enter Try.func12, Try.ntmps12
  go_wp2_with fail
  refine (rcon _ _).mono ?_
  rintro e w2 ⟨rfl, hb2⟩
  have HB2 := Lib.hid (HB1.out.trans (hb2.mono HB1.out.size))
  have HX2 := Lib.hid (HX1.out.next hb2)
  clear hb2 HB1 HX1
  go_upto_region 2 with fail
  obtain ⟨W, hW⟩ : ∃ W, W = w2.alloc (Obj.cells #[.int .i64 2, .int .i64 0, .string ⟨#[84, 121, 112, 101]⟩, .slice none 0 0] 36) := ⟨_, rfl⟩
  obtain ⟨R, hR⟩ : ∃ R, R = w.heap.size := ⟨_, rfl⟩
  obtain ⟨T, hT⟩ : ∃ T, T = w2.heap.size := ⟨_, rfl⟩
  have hal : Below w2.heap.size w2 W := by rw [hW]; exact (Below.refl _ _).alloc (Nat.le_refl _) _
  have HB := Lib.hid (HB2.out.trans (hal.mono HB2.out.size))
  have HX : Hid (B6 W R (.slice none 0 0) (.slice none 0 0) (.slice none 0 0) (.slice none 0 0) (.slice none 0 0) (.slice none 0 0)) := Lib.hid (by rw [hR]; exact HX2.out.next hal)
  have HT : Hid (B4 W T (.int .i64 2) (.int .i64 0) (.string ⟨#[84, 121, 112, 101]⟩) (.slice none 0 0)) := Lib.hid (by rw [hW, hT]; exact heap_alloc_new _ _)
  have hTR : T ≠ R := by have := lt_of_block HX2.out; omega
  have hRw : w.heap.size ≤ R := by omega
  have hRW : R < W.heap.size := lt_of_block HX.out
  rw [← hW, ← hR, ← hT]
  clear hal hW hR hT HX2 HB2 w2
  have hsi : S7 w R T W.drew := ⟨Lib.hid HB.out.drew, (HT.out.next (drew_below W)).cells, _, _, _, _, _, _, HX.out.next (drew_below W)⟩
  go_cut [] from 3 to 18 (fun wx => ∃ B12 B17 B15 : Nat, ∃ bf cf, Hid (B6 wx R (.slice (some ⟨B12, 0, none⟩) 2 2) (.slice (some ⟨B17, 0, none⟩) 2 2) (.slice none 0 0) (.slice none 0 0) (.slice none 0 0) (.slice none 0 0)) ∧
    Hid (∃ zb, wx.heap[B12]? = some (Obj.cells #[.string ⟨#[78, 97, 116]⟩, .int .i64 2, .int .i64 0, .string ⟨#[84, 121, 112, 101]⟩, .slice none 0 0, .slice zb 2 2, .bool false, .string ⟨#[86, 101, 99]⟩, .int .i64 (funT tType [tType, tNat]).op, .int .i64 (funT tType [tType, tNat]).n, .string (funT tType [tType, tNat]).name, .slice bf (funT tType [tType, tNat]).args.length cf, .slice none 0 0, .bool false] 46)) ∧
    Hid (wx.heap[B17]? = some (Obj.cells #[.string ⟨#[90]⟩, .string ⟨#[78, 97, 116]⟩, .slice none 0 0, .slice none 0 0, .slice none 0 0, .slice none 0 0, .slice none 0 0, .slice none 0 0, .string ⟨#[83]⟩, .string ⟨#[78, 97, 116]⟩, .slice none 0 0, .slice none 0 0, .slice none 0 0, .slice none 0 0, .slice (some ⟨B15, 0, none⟩) 1 1, .slice none 0 0] 88)) ∧
    Hid (wx.heap[B15]? = some (Obj.cells #[.int .i64 2, .int .i64 0, .string ⟨#[78, 97, 116]⟩, .slice none 0 0] 36)) ∧
    Hid (VO (· ≠ R) wx (funT tType [tType, tNat]) (.agg #[.int .i64 (funT tType [tType, tNat]).op, .int .i64 (funT tType [tType, tNat]).n, .string (funT tType [tType, tNat]).name, .slice bf (funT tType [tType, tNat]).args.length cf])) ∧ Hid (Below w.heap.size w wx))
  case first =>
    go_region_held3 (S7 w R T)
      (first | (with_reducible exact hsi) | ((with_reducible refine s7_setn _ _ _ _ _ _ ?_ hRw hTR); with_reducible assumption) | ((with_reducible refine s7_next ?_ ((Below.refl _ _).alloc (Nat.le_refl _) _)); with_reducible assumption) | (with_reducible exact s7_next hsi (below_da W _)) | (with_reducible assumption) | ((with_reducible refine s7_next ?_ hb); with_reducible assumption))
      (first
      | (go_at_call 35; refine (fun_call (w := w) (R := R) (T := T) (by assumption) (by first | exact blk_new (by first | rfl | simp) | exact blk_old (blk_new (by first | rfl | simp)))).mono ?_; rintro e w10 ⟨bf, cf, rfl, hvo, hb⟩; have HB10 := Lib.hid hb; have HVO := Lib.hid hvo; clear hvo)
      | (go_at_call 11; have hh := HB10; clear hh; refine (con_call (w := w) (R := R) (T := T) (by assumption) ⟨#[78, 97, 116]⟩).mono ?_; rintro e w14 ⟨rfl, hb, z0, z1, z2, z3, z4, z5, hz⟩; have HB14 := Lib.hid hb; have HZ := Lib.hid hz; have g2 := fun (o1 o2 : Obj) (i : Nat) => B6.cell (blk_old (o := o2) (blk_old (o := o1) hz)) i; have g3 := fun (o1 o2 o3 : Obj) (i : Nat) => B6.cell (blk_old (o := o3) (blk_old (o := o2) (blk_old (o := o1) hz))) i; have g4 := fun (o1 o2 o3 o4 : Obj) (i : Nat) => B6.cell (blk_old (o := o4) (blk_old (o := o3) (blk_old (o := o2) (blk_old (o := o1) hz)))) i; have h2 := fun (o1 o2 : Obj) (i : Nat) => B6.frozen (blk_old (o := o2) (blk_old (o := o1) hz)) i; have h3 := fun (o1 o2 o3 : Obj) (i : Nat) => B6.frozen (blk_old (o := o3) (blk_old (o := o2) (blk_old (o := o1) hz))) i; have h4 := fun (o1 o2 o3 o4 : Obj) (i : Nat) => B6.frozen (blk_old (o := o4) (blk_old (o := o3) (blk_old (o := o2) (blk_old (o := o1) hz)))) i; clear hz)
      | (go_at_call 11; refine (con_call (w := w) (R := R) (T := T) (by assumption) ⟨#[78, 97, 116]⟩).mono ?_; rintro e w7 ⟨rfl, hb, _⟩; have HB7 := Lib.hid hb))
    all_goals
      rename_i hHeld
      have HH := Lib.hid hHeld.1.out
      clear hHeld
      go_wp2_with fail
      go_meet
      refine' ⟨_, _, _, bf, cf, Lib.hid (boxn ?z1 _ _ _ _ _ _), Lib.hid ⟨_, blkn _ _ _ _ _ _ ?z2 (by decide) ?b1⟩, Lib.hid (blkn _ _ _ _ _ _ ?z3 (by decide) ?b2), Lib.hid (blkn _ _ _ _ _ _ ?z4 (by decide) ?b3), Lib.hid (von _ _ _ _ _ _ ?v1), HH⟩
      case v1 => (repeat (first | (with_reducible exact HVO.out) | (with_reducible refine vo_al ?_) | (with_reducible refine vo_nx HB14.out ?_)))
      case z1 => (repeat (first | (with_reducible exact HZ.out) | (with_reducible refine blk_new ?_; (simp; done)) | (with_reducible refine blk_old ?_) | (with_reducible refine blk_next HB14.out ?_) | (with_reducible refine blk_next HB10.out ?_) | (with_reducible refine blk_next HB7.out ?_)))
      case z2 => (repeat (first | (with_reducible exact HZ.out) | (with_reducible refine blk_new ?_; (simp; done)) | (with_reducible refine blk_old ?_) | (with_reducible refine blk_next HB14.out ?_) | (with_reducible refine blk_next HB10.out ?_) | (with_reducible refine blk_next HB7.out ?_)))
      case z3 => (repeat (first | (with_reducible exact HZ.out) | (with_reducible refine blk_new ?_; (simp; done)) | (with_reducible refine blk_old ?_) | (with_reducible refine blk_next HB14.out ?_) | (with_reducible refine blk_next HB10.out ?_) | (with_reducible refine blk_next HB7.out ?_)))
      case z4 => (repeat (first | (with_reducible exact HZ.out) | (with_reducible refine blk_new ?_; (simp; done)) | (with_reducible refine blk_old ?_) | (with_reducible refine blk_next HB14.out ?_) | (with_reducible refine blk_next HB10.out ?_) | (with_reducible refine blk_next HB7.out ?_)))
      case b1 => (repeat (first | (with_reducible exact HZ.out) | (with_reducible refine blk_new ?_; (simp; done)) | (with_reducible refine blk_old ?_) | (with_reducible refine blk_next HB14.out ?_) | (with_reducible refine blk_next HB10.out ?_) | (with_reducible refine blk_next HB7.out ?_)))
      case b2 => (repeat (first | (with_reducible exact HZ.out) | (with_reducible refine blk_new ?_; (simp; done)) | (with_reducible refine blk_old ?_) | (with_reducible refine blk_next HB14.out ?_) | (with_reducible refine blk_next HB10.out ?_) | (with_reducible refine blk_next HB7.out ?_)))
      case b3 => (repeat (first | (with_reducible exact HZ.out) | (with_reducible refine blk_new ?_; (simp; done)) | (with_reducible refine blk_old ?_) | (with_reducible refine blk_next HB14.out ?_) | (with_reducible refine blk_next HB10.out ?_) | (with_reducible refine blk_next HB7.out ?_)))
  case rest =>
    obtain ⟨B12, B17, B15, bf, cf, HBX, HB12, HB17, HB15, HVF, HBW⟩ := hcut
    obtain ⟨zb, hz12⟩ := HB12.out
    have HES := Lib.hid (vec_envS hz12 HB17.out HB15.out HVF.out)
    clear hz12 HB12
    go_wp2_with fail
    refine bodyPost_ret (results_e6 (a := 0) (by kernel_rfl) (B := R) (by rfl) HBX.out) rfl ?_
    exact ⟨_, 2, _, 2, rfl, HES.out, HBW.out⟩
end Ty
end Go.Proofs.Ytfjgebdpbmnicaa
