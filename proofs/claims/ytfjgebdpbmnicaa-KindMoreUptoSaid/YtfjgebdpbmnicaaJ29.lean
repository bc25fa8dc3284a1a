/- What find returns. Conditions: the environment lies in memory; what findConstructor does. -/
import Derived.Test.YtfjgebdpbmnicaaJ28
import Derived.Deep.RegionHeld3
import Derived.Deep.DeepCutAuto
namespace Go.Proofs.Ytfjgebdpbmnicaa
open Go.RowKit

namespace Ty

theorem kswap_cell {W : World} {o o' : Obj} {p : Addr} {v : Value} (hp : p.block < W.heap.size) (h : (W.alloc o).cell? p = some v) : (W.alloc o').cell? p = some v :=
  (World.cell?_of_block ((Below.heap_alloc W o' _ hp).trans (Below.heap_alloc W o _ hp).symm)).trans h
theorem kbox_next {W w' : World} {v0 v1 v2 v3 : Value} (hb : Below (W.alloc (Obj.cells #[v0, v1, v2, v3] 36)).heap.size (W.alloc (Obj.cells #[v0, v1, v2, v3] 36)) w') : B4 w' W.heap.size v0 v1 v2 v3 := B4.next (heap_alloc_new _ _) hb
theorem kfin_c {V0 W5 w6 : World} {r : Ty} {b9 : Option Addr} {c9 : Nat} (hs : V0.heap.size ≤ W5.heap.size) (hv : VO (W5.heap.size ≤ ·) w6 r (.agg #[.int .i64 r.op, .int .i64 r.n, .string r.name, .slice b9 r.args.length c9])) (o : Obj) :
    VO (V0.heap.size ≤ ·) (w6.alloc o) r (.agg #[.int .i64 r.op, .int .i64 r.n, .string r.name, .slice b9 r.args.length c9]) :=
  hv.keep (fun g hg => by show V0.heap.size ≤ g; have : W5.heap.size ≤ g := hg; omega) (fun p v _ hc => keeps ((Below.refl _ _).alloc (Nat.le_refl _) _) _ _ hc)
theorem kfin_p {V0 W5 w6 : World} {B : Nat} {r : Ty} {b9 : Option Addr} {c9 : Nat} (hs : V0.heap.size ≤ W5.heap.size) (hB : B < W5.heap.size) (hv : VO (W5.heap.size ≤ ·) w6 r (.agg #[.int .i64 r.op, .int .i64 r.n, .string r.name, .slice b9 r.args.length c9])) (v0 v1 v2 v3 : Value) :
    VO (V0.heap.size ≤ ·) (put4 w6 B v0 v1 v2 v3) r (.agg #[.int .i64 r.op, .int .i64 r.n, .string r.name, .slice b9 r.args.length c9]) :=
  hv.keep (fun g hg => by show V0.heap.size ≤ g; have : W5.heap.size ≤ g := hg; omega) (fun p v hp hc => put4_keep _ _ _ _ p v hc (by have : W5.heap.size ≤ p.block := hp; omega))
theorem c1_next {V0 W W' : World} {a : Addr} {v : Value} (h : Hid (Below V0.heap.size V0 W) ∧ W.cell? a = some v) (hb : Below W.heap.size W W') : Hid (Below V0.heap.size V0 W') ∧ W'.cell? a = some v :=
  ⟨Lib.hid (h.1.out.trans (hb.mono h.1.out.size)), keeps hb _ _ h.2⟩
theorem c1_put {V0 W : World} {a : Addr} {v : Value} {B : Nat} (v0 v1 v2 v3 : Value) (h : Hid (Below V0.heap.size V0 W) ∧ W.cell? a = some v) (hB : V0.heap.size ≤ B) (ha : a.block ≠ B) :
    Hid (Below V0.heap.size V0 ((((W.setCell ⟨B, 0, none⟩ v0).setCell ⟨B, 1, none⟩ v1).setCell ⟨B, 2, none⟩ v2).setCell ⟨B, 3, none⟩ v3)) ∧ ((((W.setCell ⟨B, 0, none⟩ v0).setCell ⟨B, 1, none⟩ v1).setCell ⟨B, 2, none⟩ v2).setCell ⟨B, 3, none⟩ v3).cell? a = some v :=
  ⟨Lib.hid (below_put4 h.1.out hB _ _ _ _), put4_keep _ _ _ _ _ _ h.2 ha⟩
theorem c1_swap {V0 W : World} {o o' : Obj} {a : Addr} {v : Value} (h : Hid (Below V0.heap.size V0 (W.alloc o)) ∧ (W.alloc o).cell? a = some v) (hs : V0.heap.size ≤ W.heap.size) (ha : a.block < V0.heap.size) : Hid (Below V0.heap.size V0 (W.alloc o')) ∧ (W.alloc o').cell? a = some v := by
  obtain ⟨b, k0⟩ := h
  refine ⟨Lib.hid ⟨b.out.os, b.out.tape, b.out.output, by simp; omega, fun j hj => ?_⟩, kswap_cell (by omega) k0⟩
  have hj' : j < W.heap.size := by omega
  exact ((Below.heap_alloc W o' j hj').trans (Below.heap_alloc W o j hj').symm).trans (b.out.block j hj)

set_option maxRecDepth 100000 in
set_option maxHeartbeats 8000000 in
theorem find_cls {ok : Nat → Prop} (E : Nat) (s : List UInt8) (w : World) (hok : ∀ g, ok g → g < w.heap.size) (bare : List UInt8) (hk : builtinT s = none) (hq : (s == [126]) = false) (hcut : cutP s = (bare, false)) (db : Option Addr) (dn dc : Nat) (hd : w.cell? ⟨E, 0, none⟩ = some (.slice db dn dc)) (hdf : ∀ W, Below w.heap.size w W → Calls Try.prog 23 #[.slice db dn dc, .string ⟨s.toArray⟩, .func (.func 24) #[] #[]] W fun e w' => w' = W ∧ e = .returned (.pointer none)) (fb : Option Addr) (fn fc : Nat) (hf : w.cell? ⟨E, 2, none⟩ = some (.slice fb fn fc)) (hff : ∀ W, Below w.heap.size w W → Calls Try.prog 26 #[.slice fb fn fc, .string ⟨s.toArray⟩, .func (.func 27) #[] #[]] W fun e w' => w' = W ∧ e = .returned (.pointer none)) (sb : Option Addr) (sn sc : Nat) (hs : w.cell? ⟨E, 3, none⟩ = some (.slice sb sn sc)) (g oo : Nat) (hsf : ∀ W, Below w.heap.size w W → Calls Try.prog 28 #[.slice sb sn sc, .string ⟨s.toArray⟩, .func (.func 29) #[] #[]] W fun e w' => w' = W ∧ e = .returned (.pointer (some ⟨g, oo, none⟩))) (vars : List Ty) (vb : Option Addr) (vc : Nat) (ha : w.cell? ⟨g, oo + 1, none⟩ = some (.slice vb vars.length vc)) (hvs : Sl w vb vars) :
    Calls Try.prog 8 #[.pointer (some ⟨E, 0, none⟩), .string ⟨s.toArray⟩] w (ConO ok (declT (funR vars tConstraint).val 0) w) := by
  have hb1 : Below w.heap.size w (w.alloc (Obj.cells #[.int .i64 0, .int .i64 0, .string ⟨#[]⟩, .slice none 0 0, .int .i64 0] 51)) := (Below.refl _ _).alloc (Nat.le_refl _) _
  have ht1 : B5 (w.alloc (Obj.cells #[.int .i64 0, .int .i64 0, .string ⟨#[]⟩, .slice none 0 0, .int .i64 0] 51)) w.heap.size (.int .i64 0) (.int .i64 0) (.string ⟨#[]⟩) (.slice none 0 0) (.int .i64 0) := heap_alloc_new _ _
  have HB1 := Lib.hid hb1
  have HT1 := Lib.hid ht1
  have HOK := Lib.hid hok
  clear hb1 ht1 hok
  have HCUT := Lib.hid (fun W => show Calls Try.prog 21 #[.string ⟨s.toArray⟩, .string ⟨#[39]⟩] W fun e w' => e = .returned (.tuple #[.string ⟨bare.toArray⟩, .bool false]) ∧ w' = W from by have h := cut_any s W; rw [hcut] at h; exact h)
  have HK := Lib.hid hk
  clear hk hcut
  have HdF := Lib.hid hdf
  clear hdf
  have HfF := Lib.hid hff
  clear hff
  have HsF := Lib.hid hsf
  clear hsf
  go_enter Try.func8, Try.ntmps8
  go_upto_region 1 with fail
  obtain ⟨W1, hW1⟩ : ∃ W1, W1 = w.alloc (Obj.cells #[.int .i64 0, .int .i64 0, .string ⟨#[]⟩, .slice none 0 0, .int .i64 0] 51) := ⟨_, rfl⟩
  have hs1 : W1.heap.size = w.heap.size + 1 := by rw [hW1]; simp
  rw [← hW1] at HB1 HT1 ⊢
  clear hW1
  have HS1 := Lib.hid hs1
  clear hs1
  go_wp2_with fail
  refine (blt_any s W1).mono ?_
  unfold BltO
  rw [HK.out]
  rintro e w2 ⟨k', v, ⟨rfl, rfl⟩, ⟨b, c, rfl, hs2, hl2⟩, hb2⟩
  have hal : Below w2.heap.size w2 (w2.alloc (Obj.cells #[.int .i64 zeroT.op, .int .i64 zeroT.n, .string zeroT.name, .slice b zeroT.args.length c] 36)) := (Below.refl _ _).alloc (Nat.le_refl _) _
  have HB3 := Lib.hid ((HB1.out.trans (hb2.mono HB1.out.size)).trans (hal.mono (by have := HB1.out.size; have := hb2.size; omega)))
  have HT3 := Lib.hid ((HT1.out.next hb2).next hal)
  clear hal hs2 hl2 hb2
  go_upto_region 2 with fail
  obtain ⟨W3, hW3⟩ : ∃ W3, W3 = w2.alloc (Obj.cells #[.int .i64 zeroT.op, .int .i64 zeroT.n, .string zeroT.name, .slice b zeroT.args.length c] 36) := ⟨_, rfl⟩
  rw [← hW3] at HB3 HT3 ⊢
  clear hW3
  have D0 := keeps HB3.out _ _ hd
  have F0 := keeps HB3.out _ _ hf
  have S0 := keeps HB3.out _ _ hs
  have A5 := keeps HB3.out _ _ ha
  have HVS := Lib.hid (hvs.next HB3.out)
  have HG := Lib.hid (World.block_lt_of_cell? w _ ha)
  clear hd hf hs ha hvs
  go_wp2_with fail
  refine (HCUT.out _).mono ?_
  rintro e w4 ⟨rfl, rfl⟩
  go_wp2_with fail
  refine (HdF.out _ HB3.out).mono ?_
  rintro e w5 ⟨rfl, rfl⟩
  go_wp2_with fail
  refine (HfF.out _ HB3.out).mono ?_
  rintro e w5 ⟨rfl, rfl⟩
  go_wp2_with fail
  refine (HsF.out _ HB3.out).mono ?_
  rintro e w5 ⟨rfl, rfl⟩
  go_upto_region 17 with fail
  have hdr := drew_below w5
  have HTD := Lib.hid (HT3.out.next hdr)
  have HBD := Lib.hid (HB3.out.trans (hdr.mono HB3.out.size))
  have q1 := keeps hdr _ _ A5
  have HVD := Lib.hid (HVS.out.next hdr)
  obtain ⟨r, hr⟩ : ∃ r, r = funR vars tConstraint := ⟨_, rfl⟩
  have HRQ := Lib.hid hr
  have HNR := Lib.hid (fun (W : World) (hb : Below w5.drew.heap.size w5.drew W) => (named_ex ⟨#[67, 111, 110, 115, 116, 114, 97, 105, 110, 116]⟩ W).mono fun e w' ⟨h1, h2⟩ => (⟨h1, h2, Nat.le_trans hb.size h2.size⟩ : e = Ending.returned (.agg #[.int .i64 2, .int .i64 0, .string ⟨#[67, 111, 110, 115, 116, 114, 97, 105, 110, 116]⟩, .slice none 0 0]) ∧ Below W.heap.size W w' ∧ w5.drew.heap.size ≤ w'.heap.size))
  have HFR := Lib.hid (fun (W : World) (hb : Below w5.drew.heap.size w5.drew W) => (show Calls Try.prog 30 #[.slice vb vars.length vc, .agg #[.int .i64 2, .int .i64 0, .string ⟨#[67, 111, 110, 115, 116, 114, 97, 105, 110, 116]⟩, .slice none 0 0]] W (fun e w' => ∃ k n v, r.is k n ∧ e = .returned (.tuple #[v, .int .i64 n]) ∧ VO (W.heap.size ≤ ·) w' k v ∧ Below W.heap.size W w' ∧ w5.drew.heap.size ≤ W.heap.size) from
    (fun_o2 tConstraint vars _ vb vc W (show V W tConstraint (.agg #[.int .i64 2, .int .i64 0, .string ⟨#[67, 111, 110, 115, 116, 114, 97, 105, 110, 116]⟩, .slice none 0 0]) from ⟨none, 0, rfl, by decide, Nat.zero_le _, .inl rfl⟩) (HVD.out.next hb)).mono fun e w' ⟨k, n, v, h1, h2, h3, h4⟩ => ⟨k, n, v, hr ▸ h1, h2, h3, h4, hb.size⟩))
  clear hdr A5 D0 F0 S0 hr
  go_cut [13, 14] (fun s13 s14 wx => ∃ (k : Ty) (n : Int) (B : Nat) (b9 : Option Addr) (c9 : Nat), r.is k n ∧ s13 = .pointer (some ⟨B, 0, none⟩) ∧ s14 = .int .i64 n ∧ Hid (B4 wx B (.int .i64 k.op) (.int .i64 k.n) (.string k.name) (.slice b9 k.args.length c9)) ∧ Hid (VO (w5.drew.heap.size ≤ ·) wx k (.agg #[.int .i64 k.op, .int .i64 k.n, .string k.name, .slice b9 k.args.length c9])) ∧ Hid (Below w5.drew.heap.size w5.drew wx))
  case first =>
    have HKB : Hid (Below w5.drew.heap.size w5.drew w5.drew) := Lib.hid (Below.refl _ _)
    have hle0 : w5.drew.heap.size ≤ w5.heap.size := Nat.le_refl _
    have hlt1 : g < w5.drew.heap.size := Nat.lt_of_lt_of_le HG.out HBD.out.size
    have hne1 : g ≠ w5.heap.size := by omega
    go_region_held3 (fun W => Hid (Below w5.drew.heap.size w5.drew W) ∧ W.cell? ⟨g, oo + 1, none⟩ = some (.slice vb vars.length vc))
      (first | (with_reducible exact ⟨HKB, q1⟩) | assumption | ((with_reducible refine c1_next ?_ hb); assumption) | (exact c1_next (W := w5.drew) ⟨HKB, q1⟩ (show Below w5.drew.heap.size w5.drew (w5.drew.alloc _) from (Below.refl _ _).alloc (Nat.le_refl _) _)) | ((with_reducible refine c1_next ?_ ((Below.refl _ _).alloc (Nat.le_refl _) _)); assumption) | ((with_reducible refine c1_put (B := w5.heap.size) _ _ _ _ ?_ hle0 hne1); assumption) | ((with_reducible refine c1_put (B := w6.heap.size) _ _ _ _ ?_ hsz6 hne6); assumption) | ((with_reducible refine c1_swap (o := Obj.cells #[.int .i64 0, .int .i64 0, .string ⟨#[]⟩, .slice none 0 0] 36) ?_ hsz7 hlt1); assumption))
      (first
      | (go_at_call 31; refine (HNR.out _ (Hid.out (And.left (by assumption)))).mono ?_; rintro e w6 ⟨rfl, hb, hsz6⟩; (try have HZB := Lib.hid (kbox_next hb)); (try have HZB := Lib.hid (kbox_next (W := w5) (w' := w6) ⟨hb.os, hb.tape, hb.output, hb.size, hb.block⟩)); have hne6 : g ≠ w6.heap.size := (by omega))
      | (go_at_call 30; refine (HFR.out _ (Hid.out (And.left (by assumption)))).mono ?_; rintro e w7 ⟨k, n, v7, hrk, rfl, hvo, hb, hsz6b⟩; have HRK := Lib.hid hrk; have hsz7 := Nat.le_trans hsz6b hb.size; have hvo2 := Lib.hid hvo; obtain ⟨b9, c9, rfl, _, _⟩ := hvo; (try have HZC := Lib.hid (HZB.out.next hb)); (try have HZC := Lib.hid (kbox_next hb)); (try obtain ⟨e0, e1, e2, e3⟩ := HZC.out.cells); (try have f0 := HZC.out.frozen 0); (try have f1 := HZC.out.frozen 1); (try have f2 := HZC.out.frozen 2); (try have f3 := HZC.out.frozen 3)))
    all_goals
      rename_i hHeld
      have HH := Lib.hid hHeld.1.out
      clear hHeld
      go_wp2_with fail
      go_meet
      first
      | (have hzb := HZB.out; exact ⟨k, n, w5.heap.size, b9, c9, HRK.out, rfl, rfl, Lib.hid (put4_cells HZC.out _ _ _ _), Lib.hid (kfin_p hsz6b (lt_of_block hzb) hvo2.out _ _ _ _), HH⟩)
      | (have hzc := HZC.out; exact ⟨k, n, w6.heap.size, b9, c9, HRK.out, rfl, rfl, Lib.hid (put4_cells hzc _ _ _ _), Lib.hid (kfin_p (W5 := w6.alloc (Obj.cells #[.int .i64 0, .int .i64 0, .string ⟨#[]⟩, .slice none 0 0] 36)) hsz6b (by simp) hvo2.out _ _ _ _), HH⟩)
      | exact ⟨k, n, w7.heap.size, b9, c9, HRK.out, rfl, rfl, Lib.hid (heap_alloc_new _ _), Lib.hid (kfin_c hsz6b hvo2.out _), HH⟩
  case rest =>
  obtain ⟨k, n, B, b9, c9, hrk, rfl, rfl, HBX, HVX, HBL⟩ := hcut
  have HRV := Lib.hid (is_val hrk)
  have HZ := Lib.hid (lt_of_block HTD.out)
  have HT6 := Lib.hid (HTD.out.next HBL.out)
  have HB6 := Lib.hid (HBD.out.trans (HBL.out.mono HBD.out.size))
  have HV6 : Hid (VO (w.heap.size + 1 ≤ ·) wc k (.agg #[.int .i64 k.op, .int .i64 k.n, .string k.name, .slice b9 k.args.length c9])) := Lib.hid (HVX.out.keep (fun g hg => by have : w5.drew.heap.size ≤ g := hg; have := HZ.out; show w.heap.size + 1 ≤ g; omega) (fun p v _ hc => hc))
  clear hrk HNR HFR HVX HTD HBL HVD q1
  obtain ⟨x0, x1, x2, x3⟩ := HBX.out.cells
  go_wp2_with fail
  refine (declared_any k 0 _ _ HV6.out).mono ?_
  rintro e w8 ⟨k5, n, c5, hr, rfl, ⟨b5, cap5, rfl, h51, h52⟩, hb5⟩
  have HR := Lib.hid hr
  have HT5 := Lib.hid (HT6.out.next hb5)
  have HB5 := Lib.hid (HB6.out.trans (hb5.mono HB6.out.size))
  have H51 := Lib.hid h51
  have H52 := Lib.hid h52
  have HZC := Lib.hid (lt_of_block HT6.out)
  clear hr h51 h52 hb5 x0 x1 x2 x3
  obtain ⟨z0, z1, z2, z3, z4⟩ := HT5.out.cells
  have f0 := HT5.out.frozen 0
  have f1 := HT5.out.frozen 1
  have f2 := HT5.out.frozen 2
  have f3 := HT5.out.frozen 3
  have f4 := HT5.out.frozen 4
  go_wp2_with fail
  refine bodyPost_ret (results_con (a := 4) (b := 5) (by kernel_rfl) (B := w.heap.size) (by rfl) (by rfl) (put5_cells HT5.out _ _ _ _ _)) rfl ?_
  have hz := HZC.out
  rw [← HRQ.out, HRV.out]
  refine ⟨k5, n, _, HR.out, rfl, ⟨b5, cap5, rfl, H51.out, H52.out.keep (fun g hg => by rcases hg with hg | hg; (exact .inr (by have : w.heap.size + 1 ≤ g := hg; omega)); exact .inr (by omega)) (fun p v hp hc => put5_keep _ _ _ _ _ p v hc (by rcases hp with hp | hp; (have : w.heap.size + 1 ≤ p.block := hp; omega); omega))⟩, below_put5 HB5.out (Nat.le_refl _) _ _ _ _ _⟩

end Ty
end Go.Proofs.Ytfjgebdpbmnicaa
