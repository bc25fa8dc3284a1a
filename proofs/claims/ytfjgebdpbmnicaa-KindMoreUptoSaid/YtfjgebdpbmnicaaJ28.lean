/- What find returns. Conditions: the environment lies in memory; what findConstructor does. -/
import Derived.Test.YtfjgebdpbmnicaaJ27
import Derived.Test.YtfjgebdpbmnicaaJ24
import Derived.Deep.RegionHeld3
import Derived.Deep.RegionHeld2
namespace Go.Proofs.Ytfjgebdpbmnicaa
open Go.RowKit

namespace Ty
theorem cv_zero (ok : Nat → Prop) (w : World) : CV ok zeroT 0 w (.agg #[.int .i64 0, .int .i64 0, .string ⟨#[]⟩, .slice none 0 0, .int .i64 0]) := ⟨none, 0, rfl, Nat.zero_le _, Nat.zero_le _, .inl rfl⟩
theorem con20 {ok : Nat → Prop} {w w' : World} {e : Ending} (hb : Below w.heap.size w w') (he : e = .returned (.tuple #[.agg #[.int .i64 0, .int .i64 0, .string ⟨#[]⟩, .slice none 0 0, .int .i64 0], .int .i64 20])) : ConO ok (.bad 20, 0) w e w' := ⟨zeroT, 20, _, ⟨rfl, rfl, by decide⟩, he, cv_zero _ _, hb⟩

set_option maxHeartbeats 8000000 in
theorem find_blt {ok : Nat → Prop} (E : Nat) (s : List UInt8) (w : World) (hok : ∀ g, ok g → g < w.heap.size) (k : Ty) (hk : builtinT s = some k) :
    Calls Try.prog 8 #[.pointer (some ⟨E, 0, none⟩), .string ⟨s.toArray⟩] w (ConO ok (.ok k, 0) w) := by
  have hb1 : Below w.heap.size w (w.alloc (Obj.cells #[.int .i64 0, .int .i64 0, .string ⟨#[]⟩, .slice none 0 0, .int .i64 0] 51)) := (Below.refl _ _).alloc (Nat.le_refl _) _
  have ht1 : B5 (w.alloc (Obj.cells #[.int .i64 0, .int .i64 0, .string ⟨#[]⟩, .slice none 0 0, .int .i64 0] 51)) w.heap.size (.int .i64 0) (.int .i64 0) (.string ⟨#[]⟩) (.slice none 0 0) (.int .i64 0) := heap_alloc_new _ _
  have HB1 := Lib.hid hb1
  have HT1 := Lib.hid ht1
  have HOK := Lib.hid hok
  clear hb1 ht1 hok
  have HK := Lib.hid hk
  clear hk
  go_enter Try.func8, Try.ntmps8
  go_upto_region 1 with fail
  obtain ⟨W1, hW1⟩ : ∃ W1, W1 = w.alloc (Obj.cells #[.int .i64 0, .int .i64 0, .string ⟨#[]⟩, .slice none 0 0, .int .i64 0] 51) := ⟨_, rfl⟩
  have hs1 : W1.heap.size = w.heap.size + 1 := by rw [hW1]; simp
  rw [← hW1] at HB1 HT1 ⊢
  clear hW1
  have HS1 := Lib.hid hs1
  clear hs1
  go_wp2_with fail
  refine (blt_any s W1).mono ?_
  unfold BltO
  rw [HK.out]
  rintro e w2 ⟨k', v, ⟨rfl, rfl⟩, ⟨b, c, rfl, hs2, hl2⟩, hb2⟩
  have hal : Below w2.heap.size w2 (w2.alloc (Obj.cells #[.int .i64 k'.op, .int .i64 k'.n, .string k'.name, .slice b k'.args.length c] 36)) := (Below.refl _ _).alloc (Nat.le_refl _) _
  have hbx : B4 (w2.alloc (Obj.cells #[.int .i64 k'.op, .int .i64 k'.n, .string k'.name, .slice b k'.args.length c] 36)) w2.heap.size (.int .i64 k'.op) (.int .i64 k'.n) (.string k'.name) (.slice b k'.args.length c) := heap_alloc_new _ _
  have HBX := Lib.hid hbx
  have HB3 := Lib.hid ((HB1.out.trans (hb2.mono HB1.out.size)).trans (hal.mono (by have := HB1.out.size; have := hb2.size; omega)))
  have HT3 := Lib.hid ((HT1.out.next hb2).next hal)
  have HS2 := Lib.hid hs2
  have HL2 : Hid (SlO (W1.heap.size ≤ ·) (w2.alloc (Obj.cells #[.int .i64 k'.op, .int .i64 k'.n, .string k'.name, .slice b k'.args.length c] 36)) b k'.args) := Lib.hid (hl2.keep (fun _ h => h) (fun p v _ hc => keeps hal p v hc))
  clear hal hbx hs2 hl2 hb2
  go_upto_region 2 with fail
  obtain ⟨W3, hW3⟩ : ∃ W3, W3 = w2.alloc (Obj.cells #[.int .i64 k'.op, .int .i64 k'.n, .string k'.name, .slice b k'.args.length c] 36) := ⟨_, rfl⟩
  rw [← hW3] at HBX HB3 HT3 HL2 ⊢
  clear hW3
  obtain ⟨b0, b1, b2, b3⟩ := HBX.out.cells
  obtain ⟨z0, z1, z2, z3, z4⟩ := HT3.out.cells
  have f0 := HT3.out.frozen 0
  have f1 := HT3.out.frozen 1
  have f2 := HT3.out.frozen 2
  have f3 := HT3.out.frozen 3
  have f4 := HT3.out.frozen 4
  go_wp2_with fail
  refine bodyPost_ret (results_con (a := 4) (b := 5) (by kernel_rfl) (B := w.heap.size) (by rfl) (by rfl) (put5_cells HT3.out _ _ _ _ _)) rfl ?_
  have hs1 := HS1.out
  exact ⟨k', 0, _, ⟨rfl, rfl⟩, rfl, ⟨b, c, rfl, HS2.out, HL2.out.keep (fun g hg => .inr (by have : W1.heap.size ≤ g := hg; omega)) (fun p v hp hc => put5_keep _ _ _ _ _ p v hc (by have : W1.heap.size ≤ p.block := hp; omega))⟩, below_put5 HB3.out (Nat.le_refl _) _ _ _ _ _⟩

set_option maxHeartbeats 8000000 in
theorem find_eq {ok : Nat → Prop} (E : Nat) (s : List UInt8) (w : World) (hok : ∀ g, ok g → g < w.heap.size) (hk : builtinT s = none) (hq : (s == [126]) = true) :
    Calls Try.prog 8 #[.pointer (some ⟨E, 0, none⟩), .string ⟨s.toArray⟩] w (ConO ok (.bad 20, 0) w) := by
  have hb1 : Below w.heap.size w (w.alloc (Obj.cells #[.int .i64 0, .int .i64 0, .string ⟨#[]⟩, .slice none 0 0, .int .i64 0] 51)) := (Below.refl _ _).alloc (Nat.le_refl _) _
  have ht1 : B5 (w.alloc (Obj.cells #[.int .i64 0, .int .i64 0, .string ⟨#[]⟩, .slice none 0 0, .int .i64 0] 51)) w.heap.size (.int .i64 0) (.int .i64 0) (.string ⟨#[]⟩) (.slice none 0 0) (.int .i64 0) := heap_alloc_new _ _
  have HB1 := Lib.hid hb1
  have HT1 := Lib.hid ht1
  have HOK := Lib.hid hok
  clear hb1 ht1 hok
  have HK := Lib.hid hk
  clear hk HOK
  go_enter Try.func8, Try.ntmps8
  go_upto_region 1 with fail
  obtain ⟨W1, hW1⟩ : ∃ W1, W1 = w.alloc (Obj.cells #[.int .i64 0, .int .i64 0, .string ⟨#[]⟩, .slice none 0 0, .int .i64 0] 51) := ⟨_, rfl⟩
  have hs1 : W1.heap.size = w.heap.size + 1 := by rw [hW1]; simp
  rw [← hW1] at HB1 HT1 ⊢
  clear hW1
  have HS1 := Lib.hid hs1
  clear hs1
  go_wp2_with fail
  refine (blt_any s W1).mono ?_
  unfold BltO
  rw [HK.out]
  rintro e w2 ⟨k', v, ⟨rfl, rfl⟩, ⟨b, c, rfl, hs2, hl2⟩, hb2⟩
  have hal : Below w2.heap.size w2 (w2.alloc (Obj.cells #[.int .i64 zeroT.op, .int .i64 zeroT.n, .string zeroT.name, .slice b zeroT.args.length c] 36)) := (Below.refl _ _).alloc (Nat.le_refl _) _
  have HB3 := Lib.hid ((HB1.out.trans (hb2.mono HB1.out.size)).trans (hal.mono (by have := HB1.out.size; have := hb2.size; omega)))
  have HT3 := Lib.hid ((HT1.out.next hb2).next hal)
  clear hal hs2 hl2 hb2
  go_upto_region 2 with fail
  obtain ⟨W3, hW3⟩ : ∃ W3, W3 = w2.alloc (Obj.cells #[.int .i64 zeroT.op, .int .i64 zeroT.n, .string zeroT.name, .slice b zeroT.args.length c] 36) := ⟨_, rfl⟩
  rw [← hW3] at HB3 HT3 ⊢
  clear hW3
  obtain ⟨z0, z1, z2, z3, z4⟩ := HT3.out.cells
  have f0 := HT3.out.frozen 0
  have f1 := HT3.out.frozen 1
  have f2 := HT3.out.frozen 2
  have f3 := HT3.out.frozen 3
  have f4 := HT3.out.frozen 4
  go_wp2_with fail
  refine bodyPost_ret (results_con (a := 4) (b := 5) (by kernel_rfl) (B := w.heap.size) (by rfl) (by rfl) (put5_cells HT3.out _ _ _ _ _)) rfl ?_
  exact con20 (below_put5 HB3.out (Nat.le_refl _) _ _ _ _ _) rfl

set_option maxHeartbeats 8000000 in
theorem find_con {ok : Nat → Prop} (E : Nat) (s : List UInt8) (w : World) (hok : ∀ g, ok g → g < w.heap.size) (r : Res × Int) (bare : List UInt8) (hk : builtinT s = none) (hq : (s == [126]) = false) (hcut : cutP s = (bare, true)) (hfc : ∀ W, Below w.heap.size w W → Calls Try.prog 22 #[.pointer (some ⟨E, 0, none⟩), .string ⟨bare.toArray⟩] W (ConO ok r W)) :
    Calls Try.prog 8 #[.pointer (some ⟨E, 0, none⟩), .string ⟨s.toArray⟩] w (ConO ok r w) := by
  have hb1 : Below w.heap.size w (w.alloc (Obj.cells #[.int .i64 0, .int .i64 0, .string ⟨#[]⟩, .slice none 0 0, .int .i64 0] 51)) := (Below.refl _ _).alloc (Nat.le_refl _) _
  have ht1 : B5 (w.alloc (Obj.cells #[.int .i64 0, .int .i64 0, .string ⟨#[]⟩, .slice none 0 0, .int .i64 0] 51)) w.heap.size (.int .i64 0) (.int .i64 0) (.string ⟨#[]⟩) (.slice none 0 0) (.int .i64 0) := heap_alloc_new _ _
  have HB1 := Lib.hid hb1
  have HT1 := Lib.hid ht1
  have HOK := Lib.hid hok
  clear hb1 ht1 hok
  have HK := Lib.hid hk
  have HC := Lib.hid hfc
  have HCUT := Lib.hid (fun W => show Calls Try.prog 21 #[.string ⟨s.toArray⟩, .string ⟨#[39]⟩] W fun e w' => e = .returned (.tuple #[.string ⟨bare.toArray⟩, .bool true]) ∧ w' = W from by have h := cut_any s W; rw [hcut] at h; exact h)
  clear hk hfc hcut
  go_enter Try.func8, Try.ntmps8
  go_upto_region 1 with fail
  obtain ⟨W1, hW1⟩ : ∃ W1, W1 = w.alloc (Obj.cells #[.int .i64 0, .int .i64 0, .string ⟨#[]⟩, .slice none 0 0, .int .i64 0] 51) := ⟨_, rfl⟩
  have hs1 : W1.heap.size = w.heap.size + 1 := by rw [hW1]; simp
  rw [← hW1] at HB1 HT1 ⊢
  clear hW1
  have HS1 := Lib.hid hs1
  clear hs1
  go_wp2_with fail
  refine (blt_any s W1).mono ?_
  unfold BltO
  rw [HK.out]
  rintro e w2 ⟨k', v, ⟨rfl, rfl⟩, ⟨b, c, rfl, hs2, hl2⟩, hb2⟩
  have hal : Below w2.heap.size w2 (w2.alloc (Obj.cells #[.int .i64 zeroT.op, .int .i64 zeroT.n, .string zeroT.name, .slice b zeroT.args.length c] 36)) := (Below.refl _ _).alloc (Nat.le_refl _) _
  have HB3 := Lib.hid ((HB1.out.trans (hb2.mono HB1.out.size)).trans (hal.mono (by have := HB1.out.size; have := hb2.size; omega)))
  have HT3 := Lib.hid ((HT1.out.next hb2).next hal)
  clear hal hs2 hl2 hb2
  go_upto_region 2 with fail
  obtain ⟨W3, hW3⟩ : ∃ W3, W3 = w2.alloc (Obj.cells #[.int .i64 zeroT.op, .int .i64 zeroT.n, .string zeroT.name, .slice b zeroT.args.length c] 36) := ⟨_, rfl⟩
  rw [← hW3] at HB3 HT3 ⊢
  clear hW3
  go_wp2_with fail
  refine (HCUT.out _).mono ?_
  rintro e w4 ⟨rfl, rfl⟩
  go_wp2_with fail
  refine (HC.out _ HB3.out).mono ?_
  rintro e w5 ⟨k5, n, c5, hr, rfl, ⟨b5, cap5, rfl, h51, h52⟩, hb5⟩
  have HR := Lib.hid hr
  have HT5 := Lib.hid (HT3.out.next hb5)
  have HB5 := Lib.hid (HB3.out.trans (hb5.mono HB3.out.size))
  have H51 := Lib.hid h51
  have H52 := Lib.hid h52
  have HZ := Lib.hid (lt_of_block HT3.out)
  clear hr h51 h52 hb5
  obtain ⟨z0, z1, z2, z3, z4⟩ := HT5.out.cells
  have f0 := HT5.out.frozen 0
  have f1 := HT5.out.frozen 1
  have f2 := HT5.out.frozen 2
  have f3 := HT5.out.frozen 3
  have f4 := HT5.out.frozen 4
  go_wp2_with fail
  refine bodyPost_ret (results_con (a := 4) (b := 5) (by kernel_rfl) (B := w.heap.size) (by rfl) (by rfl) (put5_cells HT5.out _ _ _ _ _)) rfl ?_
  have hz := HZ.out
  refine ⟨k5, n, _, HR.out, rfl, ⟨b5, cap5, rfl, H51.out, H52.out.keep (fun g hg => by rcases hg with hg | hg; exact .inl hg; exact .inr (by omega)) (fun p v hp hc => put5_keep _ _ _ _ _ p v hc (by rcases hp with hp | hp; (have := HOK.out _ hp; omega); omega))⟩, below_put5 HB5.out (Nat.le_refl _) _ _ _ _ _⟩

end Ty
end Go.Proofs.Ytfjgebdpbmnicaa

/- What find returns. Conditions: the environment lies in memory; what findConstructor does. -/
namespace Go.Proofs.Ytfjgebdpbmnicaa
open Go.RowKit

namespace Ty

set_option maxHeartbeats 8000000 in
theorem find_data {ok : Nat → Prop} (E : Nat) (s : List UInt8) (w : World) (hok : ∀ g, ok g → g < w.heap.size) (bare : List UInt8) (hk : builtinT s = none) (hq : (s == [126]) = false) (hcut : cutP s = (bare, false)) (db : Option Addr) (dn dc : Nat) (hd : w.cell? ⟨E, 0, none⟩ = some (.slice db dn dc)) (g oo : Nat) (hdf : ∀ W, Below w.heap.size w W → Calls Try.prog 23 #[.slice db dn dc, .string ⟨s.toArray⟩, .func (.func 24) #[] #[]] W fun e w' => w' = W ∧ e = .returned (.pointer (some ⟨g, oo, none⟩))) (t : Ty) (hgk : ok g) (ht : AtO ok w g (oo + 1) t) :
    Calls Try.prog 8 #[.pointer (some ⟨E, 0, none⟩), .string ⟨s.toArray⟩] w (ConO ok (declT t 0) w) := by
  have hb1 : Below w.heap.size w (w.alloc (Obj.cells #[.int .i64 0, .int .i64 0, .string ⟨#[]⟩, .slice none 0 0, .int .i64 0] 51)) := (Below.refl _ _).alloc (Nat.le_refl _) _
  have ht1 : B5 (w.alloc (Obj.cells #[.int .i64 0, .int .i64 0, .string ⟨#[]⟩, .slice none 0 0, .int .i64 0] 51)) w.heap.size (.int .i64 0) (.int .i64 0) (.string ⟨#[]⟩) (.slice none 0 0) (.int .i64 0) := heap_alloc_new _ _
  have HB1 := Lib.hid hb1
  have HT1 := Lib.hid ht1
  have HOK := Lib.hid hok
  clear hb1 ht1 hok
  have HCUT := Lib.hid (fun W => show Calls Try.prog 21 #[.string ⟨s.toArray⟩, .string ⟨#[39]⟩] W fun e w' => e = .returned (.tuple #[.string ⟨bare.toArray⟩, .bool false]) ∧ w' = W from by have h := cut_any s W; rw [hcut] at h; exact h)
  have HK := Lib.hid hk
  clear hk hcut
  have HdF := Lib.hid hdf
  clear hdf
  go_enter Try.func8, Try.ntmps8
  go_upto_region 1 with fail
  obtain ⟨W1, hW1⟩ : ∃ W1, W1 = w.alloc (Obj.cells #[.int .i64 0, .int .i64 0, .string ⟨#[]⟩, .slice none 0 0, .int .i64 0] 51) := ⟨_, rfl⟩
  have hs1 : W1.heap.size = w.heap.size + 1 := by rw [hW1]; simp
  rw [← hW1] at HB1 HT1 ⊢
  clear hW1
  have HS1 := Lib.hid hs1
  clear hs1
  go_wp2_with fail
  refine (blt_any s W1).mono ?_
  unfold BltO
  rw [HK.out]
  rintro e w2 ⟨k', v, ⟨rfl, rfl⟩, ⟨b, c, rfl, hs2, hl2⟩, hb2⟩
  have hal : Below w2.heap.size w2 (w2.alloc (Obj.cells #[.int .i64 zeroT.op, .int .i64 zeroT.n, .string zeroT.name, .slice b zeroT.args.length c] 36)) := (Below.refl _ _).alloc (Nat.le_refl _) _
  have HB3 := Lib.hid ((HB1.out.trans (hb2.mono HB1.out.size)).trans (hal.mono (by have := HB1.out.size; have := hb2.size; omega)))
  have HT3 := Lib.hid ((HT1.out.next hb2).next hal)
  clear hal hs2 hl2 hb2
  go_upto_region 2 with fail
  obtain ⟨W3, hW3⟩ : ∃ W3, W3 = w2.alloc (Obj.cells #[.int .i64 zeroT.op, .int .i64 zeroT.n, .string zeroT.name, .slice b zeroT.args.length c] 36) := ⟨_, rfl⟩
  rw [← hW3] at HB3 HT3 ⊢
  clear hW3
  have D0 := keeps HB3.out _ _ hd
  obtain ⟨t0, t1, t2, tl, tb, tc, t3, t4⟩ := atO_iff.1 (AtO.keep (ok' := ok) (fun _ h => h) (fun p v hp hc => keeps HB3.out p v hc) hgk ht)
  have HV := Lib.hid (show VO ok W3 t (.agg #[.int .i64 t.op, .int .i64 t.n, .string t.name, .slice tb t.args.length tc]) from ⟨tb, tc, rfl, tl, t4⟩)
  clear ht tl t4
  go_wp2_with fail
  refine (HCUT.out _).mono ?_
  rintro e w4 ⟨rfl, rfl⟩
  go_wp2_with fail
  refine (HdF.out _ HB3.out).mono ?_
  rintro e w5 ⟨rfl, rfl⟩
  go_wp2_with fail
  refine (declared_any t 0 _ _ HV.out).mono ?_
  rintro e w5 ⟨k5, n, c5, hr, rfl, ⟨b5, cap5, rfl, h51, h52⟩, hb5⟩
  have HR := Lib.hid hr
  have HT5 := Lib.hid (HT3.out.next hb5)
  have HB5 := Lib.hid (HB3.out.trans (hb5.mono HB3.out.size))
  have H51 := Lib.hid h51
  have H52 := Lib.hid h52
  have HZ := Lib.hid (lt_of_block HT3.out)
  clear hr h51 h52 hb5
  obtain ⟨z0, z1, z2, z3, z4⟩ := HT5.out.cells
  have f0 := HT5.out.frozen 0
  have f1 := HT5.out.frozen 1
  have f2 := HT5.out.frozen 2
  have f3 := HT5.out.frozen 3
  have f4 := HT5.out.frozen 4
  go_wp2_with fail
  refine bodyPost_ret (results_con (a := 4) (b := 5) (by kernel_rfl) (B := w.heap.size) (by rfl) (by rfl) (put5_cells HT5.out _ _ _ _ _)) rfl ?_
  have hz := HZ.out
  refine ⟨k5, n, _, HR.out, rfl, ⟨b5, cap5, rfl, H51.out, H52.out.keep (fun g hg => by rcases hg with hg | hg; exact .inl hg; exact .inr (by omega)) (fun p v hp hc => put5_keep _ _ _ _ _ p v hc (by rcases hp with hp | hp; (have := HOK.out _ hp; omega); omega))⟩, below_put5 HB5.out (Nat.le_refl _) _ _ _ _ _⟩

end Ty
end Go.Proofs.Ytfjgebdpbmnicaa

/- What find returns. Conditions: the environment lies in memory; what findConstructor does. -/
namespace Go.Proofs.Ytfjgebdpbmnicaa
open Go.RowKit

namespace Ty

theorem fm_keep {W : World} {B g oo : Nat} {x0 x1 x2 x3 x4 : Value} (c0 : W.cell? ⟨g, oo + 1, none⟩ = some x0) (c1 : W.cell? ⟨g, oo + 1 + 1, none⟩ = some x1) (c2 : W.cell? ⟨g, oo + 1 + 2, none⟩ = some x2) (c3 : W.cell? ⟨g, oo + 1 + 3, none⟩ = some x3) (c4 : W.cell? ⟨g, oo + 5, none⟩ = some x4) (v0 v1 v2 v3 v4 : Value) (h : g ≠ B) :
    (((((W.setCell ⟨B, 0, none⟩ v0).setCell ⟨B, 1, none⟩ v1).setCell ⟨B, 2, none⟩ v2).setCell ⟨B, 3, none⟩ v3).setCell ⟨B, 4, none⟩ v4).cell? ⟨g, oo + 1, none⟩ = some x0 ∧ (((((W.setCell ⟨B, 0, none⟩ v0).setCell ⟨B, 1, none⟩ v1).setCell ⟨B, 2, none⟩ v2).setCell ⟨B, 3, none⟩ v3).setCell ⟨B, 4, none⟩ v4).cell? ⟨g, oo + 1 + 1, none⟩ = some x1 ∧ (((((W.setCell ⟨B, 0, none⟩ v0).setCell ⟨B, 1, none⟩ v1).setCell ⟨B, 2, none⟩ v2).setCell ⟨B, 3, none⟩ v3).setCell ⟨B, 4, none⟩ v4).cell? ⟨g, oo + 1 + 2, none⟩ = some x2 ∧ (((((W.setCell ⟨B, 0, none⟩ v0).setCell ⟨B, 1, none⟩ v1).setCell ⟨B, 2, none⟩ v2).setCell ⟨B, 3, none⟩ v3).setCell ⟨B, 4, none⟩ v4).cell? ⟨g, oo + 1 + 3, none⟩ = some x3 ∧ (((((W.setCell ⟨B, 0, none⟩ v0).setCell ⟨B, 1, none⟩ v1).setCell ⟨B, 2, none⟩ v2).setCell ⟨B, 3, none⟩ v3).setCell ⟨B, 4, none⟩ v4).cell? ⟨g, oo + 5, none⟩ = some x4 :=
  ⟨put5_keep v0 v1 v2 v3 v4 _ _ c0 h, put5_keep v0 v1 v2 v3 v4 _ _ c1 h, put5_keep v0 v1 v2 v3 v4 _ _ c2 h, put5_keep v0 v1 v2 v3 v4 _ _ c3 h, put5_keep v0 v1 v2 v3 v4 _ _ c4 h⟩

set_option maxHeartbeats 8000000 in
theorem find_fam {ok : Nat → Prop} (E : Nat) (s : List UInt8) (w : World) (hok : ∀ g, ok g → g < w.heap.size) (bare : List UInt8) (hk : builtinT s = none) (hq : (s == [126]) = false) (hcut : cutP s = (bare, false)) (db : Option Addr) (dn dc : Nat) (hd : w.cell? ⟨E, 0, none⟩ = some (.slice db dn dc)) (hdf : ∀ W, Below w.heap.size w W → Calls Try.prog 23 #[.slice db dn dc, .string ⟨s.toArray⟩, .func (.func 24) #[] #[]] W fun e w' => w' = W ∧ e = .returned (.pointer none)) (fb : Option Addr) (fn fc : Nat) (hf : w.cell? ⟨E, 2, none⟩ = some (.slice fb fn fc)) (g oo : Nat) (hff : ∀ W, Below w.heap.size w W → Calls Try.prog 26 #[.slice fb fn fc, .string ⟨s.toArray⟩, .func (.func 27) #[] #[]] W fun e w' => w' = W ∧ e = .returned (.pointer (some ⟨g, oo, none⟩))) (t : Ty) (a : Int) (hgk : ok g) (ht : AtO ok w g (oo + 1) t) (ha : w.cell? ⟨g, oo + 5, none⟩ = some (.int .i64 a)) :
    Calls Try.prog 8 #[.pointer (some ⟨E, 0, none⟩), .string ⟨s.toArray⟩] w (ConO ok (declT t a) w) := by
  have hb1 : Below w.heap.size w (w.alloc (Obj.cells #[.int .i64 0, .int .i64 0, .string ⟨#[]⟩, .slice none 0 0, .int .i64 0] 51)) := (Below.refl _ _).alloc (Nat.le_refl _) _
  have ht1 : B5 (w.alloc (Obj.cells #[.int .i64 0, .int .i64 0, .string ⟨#[]⟩, .slice none 0 0, .int .i64 0] 51)) w.heap.size (.int .i64 0) (.int .i64 0) (.string ⟨#[]⟩) (.slice none 0 0) (.int .i64 0) := heap_alloc_new _ _
  have HB1 := Lib.hid hb1
  have HT1 := Lib.hid ht1
  have HOK := Lib.hid hok
  clear hb1 ht1 hok
  have HCUT := Lib.hid (fun W => show Calls Try.prog 21 #[.string ⟨s.toArray⟩, .string ⟨#[39]⟩] W fun e w' => e = .returned (.tuple #[.string ⟨bare.toArray⟩, .bool false]) ∧ w' = W from by have h := cut_any s W; rw [hcut] at h; exact h)
  have HK := Lib.hid hk
  clear hk hcut
  have HdF := Lib.hid hdf
  clear hdf
  have HfF := Lib.hid hff
  clear hff
  go_enter Try.func8, Try.ntmps8
  go_upto_region 1 with fail
  obtain ⟨W1, hW1⟩ : ∃ W1, W1 = w.alloc (Obj.cells #[.int .i64 0, .int .i64 0, .string ⟨#[]⟩, .slice none 0 0, .int .i64 0] 51) := ⟨_, rfl⟩
  have hs1 : W1.heap.size = w.heap.size + 1 := by rw [hW1]; simp
  rw [← hW1] at HB1 HT1 ⊢
  clear hW1
  have HS1 := Lib.hid hs1
  clear hs1
  go_wp2_with fail
  refine (blt_any s W1).mono ?_
  unfold BltO
  rw [HK.out]
  rintro e w2 ⟨k', v, ⟨rfl, rfl⟩, ⟨b, c, rfl, hs2, hl2⟩, hb2⟩
  have hal : Below w2.heap.size w2 (w2.alloc (Obj.cells #[.int .i64 zeroT.op, .int .i64 zeroT.n, .string zeroT.name, .slice b zeroT.args.length c] 36)) := (Below.refl _ _).alloc (Nat.le_refl _) _
  have HB3 := Lib.hid ((HB1.out.trans (hb2.mono HB1.out.size)).trans (hal.mono (by have := HB1.out.size; have := hb2.size; omega)))
  have HT3 := Lib.hid ((HT1.out.next hb2).next hal)
  clear hal hs2 hl2 hb2
  go_upto_region 2 with fail
  obtain ⟨W3, hW3⟩ : ∃ W3, W3 = w2.alloc (Obj.cells #[.int .i64 zeroT.op, .int .i64 zeroT.n, .string zeroT.name, .slice b zeroT.args.length c] 36) := ⟨_, rfl⟩
  rw [← hW3] at HB3 HT3 ⊢
  clear hW3
  have D0 := keeps HB3.out _ _ hd
  have F0 := keeps HB3.out _ _ hf
  have A5 := keeps HB3.out _ _ ha
  obtain ⟨t0, t1, t2, tl, tb, tc, t3, t4⟩ := atO_iff.1 (AtO.keep (ok' := ok) (fun _ h => h) (fun p v hp hc => keeps HB3.out p v hc) hgk ht)
  have HV := Lib.hid (show VO ok W3 t (.agg #[.int .i64 t.op, .int .i64 t.n, .string t.name, .slice tb t.args.length tc]) from ⟨tb, tc, rfl, tl, t4⟩)
  clear ht tl t4
  go_wp2_with fail
  refine (HCUT.out _).mono ?_
  rintro e w4 ⟨rfl, rfl⟩
  go_wp2_with fail
  refine (HdF.out _ HB3.out).mono ?_
  rintro e w5 ⟨rfl, rfl⟩
  go_wp2_with fail
  refine (HfF.out _ HB3.out).mono ?_
  rintro e w5 ⟨rfl, rfl⟩
  go_upto_region 14 with fail
  have hdr := drew_below w5
  have HTD := Lib.hid (HT3.out.next hdr)
  have HBD := Lib.hid (HB3.out.trans (hdr.mono HB3.out.size))
  have d0 := keeps hdr _ _ t0
  have d1 := keeps hdr _ _ t1
  have d2 := keeps hdr _ _ t2
  have d3 := keeps hdr _ _ t3
  have d4 := keeps hdr _ _ A5
  have HVD := Lib.hid (HV.out.keep (fun _ h => h) (fun p v _ hc => keeps hdr p v hc))
  have HNE := Lib.hid (show g ≠ w.heap.size from by have := HOK.out _ hgk; omega)
  clear t0 t1 t2 t3 A5 hdr D0 F0 hd hf ha
  go_region_held2 (fun W => W.cell? ⟨g, oo + 1, none⟩ = some (.int .i64 t.op) ∧ W.cell? ⟨g, oo + 1 + 1, none⟩ = some (.int .i64 t.n) ∧ W.cell? ⟨g, oo + 1 + 2, none⟩ = some (.string t.name) ∧ W.cell? ⟨g, oo + 1 + 3, none⟩ = some (.slice tb t.args.length tc) ∧ W.cell? ⟨g, oo + 5, none⟩ = some (.int .i64 a))
    (first | (with_reducible exact ⟨d0, d1, d2, d3, d4⟩) | (with_reducible exact ⟨u0, u1, u2, u3, u4⟩) | (with_reducible exact fm_keep u0 u1 u2 u3 u4 _ _ _ _ _ HNE.out))
    (first
    | (go_at_call 25; refine (declared_any t a _ _ HVD.out).mono ?_; rintro e w5 ⟨k5, n, c5, hr, rfl, ⟨b5, cap5, rfl, h51, h52⟩, hb5⟩; have HR := Lib.hid hr; have HT5 := Lib.hid (HTD.out.next hb5); have HB5 := Lib.hid (HBD.out.trans (hb5.mono HBD.out.size)); have H51 := Lib.hid h51; have H52 := Lib.hid h52; have HZ := Lib.hid (lt_of_block HTD.out); have u0 := keeps hb5 _ _ d0; have u1 := keeps hb5 _ _ d1; have u2 := keeps hb5 _ _ d2; have u3 := keeps hb5 _ _ d3; have u4 := keeps hb5 _ _ d4; clear hr h51 h52 hb5; obtain ⟨z0, z1, z2, z3, z4⟩ := HT5.out.cells; have f0 := HT5.out.frozen 0; have f1 := HT5.out.frozen 1; have f2 := HT5.out.frozen 2; have f3 := HT5.out.frozen 3; have f4 := HT5.out.frozen 4))
  rename_i hS
  clear hS
  go_wp2_with fail
  refine bodyPost_ret (results_con (a := 4) (b := 5) (by kernel_rfl) (B := w.heap.size) (by rfl) (by rfl) (put5_cells HT5.out _ _ _ _ _)) rfl ?_
  have hz := HZ.out
  refine ⟨k5, n, _, HR.out, rfl, ⟨b5, cap5, rfl, H51.out, H52.out.keep (fun g hg => by rcases hg with hg | hg; exact .inl hg; exact .inr (by omega)) (fun p v hp hc => put5_keep _ _ _ _ _ p v hc (by rcases hp with hp | hp; (have := HOK.out _ hp; omega); omega))⟩, below_put5 HB5.out (Nat.le_refl _) _ _ _ _ _⟩

end Ty
end Go.Proofs.Ytfjgebdpbmnicaa
