/- What the walker's kind returns for an application. Conditions: what kind does with its parts. -/
import Derived.Test.YtfjgebdpbmnicaaJ35
import Derived.Test.YtfjgebdpbmnicaaJ27
namespace Go.Proofs.Ytfjgebdpbmnicaa
open Go.RowKit

namespace Ty
theorem applied_any {ok okx : Nat → Prop} (a0 a1 a2 a3 : Value) (f x : Ty) (rx : Res) (hg : Good f) (fv xv : Value) (w : World) (hf : VO ok w f fv) (hx : V w x xv)
    (hc : ∀ W, Below w.heap.size w W → Calls Try.prog 18 #[.agg #[a0, a1, a2, a3], xv, .int .i64 0] W (KndO okx rx W)) :
    Calls Try.prog 47 #[.agg #[a0, a1, a2, a3], fv, xv] w (KndO ok (appliedT (.ok f) x rx) w) := by
  cases hw : wantT f with
  | none =>
    obtain ⟨xb, xc, ex, _, _⟩ := hx
    subst ex
    exact applied_none a0 a1 a2 a3 _ _ _ _ f x rx hg hw fv w hf.weak
  | some k =>
    obtain ⟨op, a, b, rfl, hgb, _⟩ := want_form hg hw
    rw [app_some hw]
    exact applied_some a0 a1 a2 a3 op a b x k rx hg hgb hw fv xv w hf hx hc
theorem ks_put13 {W : World} {B : Nat} {p0 p1 p2 p3 p4 p5 p6 p7 p8 p9 p10 p11 p12 : Addr} {c0 c1 c2 c3 c4 c5 c6 c7 c8 c9 c10 c11 c12 : Value} (h0 : W.cell? p0 = some c0) (h1 : W.cell? p1 = some c1) (h2 : W.cell? p2 = some c2) (h3 : W.cell? p3 = some c3) (h4 : W.cell? p4 = some c4) (h5 : W.cell? p5 = some c5) (h6 : W.cell? p6 = some c6) (h7 : W.cell? p7 = some c7) (h8 : W.cell? p8 = some c8) (h9 : W.cell? p9 = some c9) (h10 : W.cell? p10 = some c10) (h11 : W.cell? p11 = some c11) (h12 : W.cell? p12 = some c12) (v0 v1 v2 v3 : Value) (hne : p0.block ≠ B ∧ p1.block ≠ B ∧ p2.block ≠ B ∧ p3.block ≠ B ∧ p4.block ≠ B ∧ p5.block ≠ B ∧ p6.block ≠ B ∧ p7.block ≠ B ∧ p8.block ≠ B ∧ p9.block ≠ B ∧ p10.block ≠ B ∧ p11.block ≠ B ∧ p12.block ≠ B) :
    ((((W.setCell ⟨B, 0, none⟩ v0).setCell ⟨B, 1, none⟩ v1).setCell ⟨B, 2, none⟩ v2).setCell ⟨B, 3, none⟩ v3).cell? p0 = some c0 ∧ ((((W.setCell ⟨B, 0, none⟩ v0).setCell ⟨B, 1, none⟩ v1).setCell ⟨B, 2, none⟩ v2).setCell ⟨B, 3, none⟩ v3).cell? p1 = some c1 ∧ ((((W.setCell ⟨B, 0, none⟩ v0).setCell ⟨B, 1, none⟩ v1).setCell ⟨B, 2, none⟩ v2).setCell ⟨B, 3, none⟩ v3).cell? p2 = some c2 ∧ ((((W.setCell ⟨B, 0, none⟩ v0).setCell ⟨B, 1, none⟩ v1).setCell ⟨B, 2, none⟩ v2).setCell ⟨B, 3, none⟩ v3).cell? p3 = some c3 ∧ ((((W.setCell ⟨B, 0, none⟩ v0).setCell ⟨B, 1, none⟩ v1).setCell ⟨B, 2, none⟩ v2).setCell ⟨B, 3, none⟩ v3).cell? p4 = some c4 ∧ ((((W.setCell ⟨B, 0, none⟩ v0).setCell ⟨B, 1, none⟩ v1).setCell ⟨B, 2, none⟩ v2).setCell ⟨B, 3, none⟩ v3).cell? p5 = some c5 ∧ ((((W.setCell ⟨B, 0, none⟩ v0).setCell ⟨B, 1, none⟩ v1).setCell ⟨B, 2, none⟩ v2).setCell ⟨B, 3, none⟩ v3).cell? p6 = some c6 ∧ ((((W.setCell ⟨B, 0, none⟩ v0).setCell ⟨B, 1, none⟩ v1).setCell ⟨B, 2, none⟩ v2).setCell ⟨B, 3, none⟩ v3).cell? p7 = some c7 ∧ ((((W.setCell ⟨B, 0, none⟩ v0).setCell ⟨B, 1, none⟩ v1).setCell ⟨B, 2, none⟩ v2).setCell ⟨B, 3, none⟩ v3).cell? p8 = some c8 ∧ ((((W.setCell ⟨B, 0, none⟩ v0).setCell ⟨B, 1, none⟩ v1).setCell ⟨B, 2, none⟩ v2).setCell ⟨B, 3, none⟩ v3).cell? p9 = some c9 ∧ ((((W.setCell ⟨B, 0, none⟩ v0).setCell ⟨B, 1, none⟩ v1).setCell ⟨B, 2, none⟩ v2).setCell ⟨B, 3, none⟩ v3).cell? p10 = some c10 ∧ ((((W.setCell ⟨B, 0, none⟩ v0).setCell ⟨B, 1, none⟩ v1).setCell ⟨B, 2, none⟩ v2).setCell ⟨B, 3, none⟩ v3).cell? p11 = some c11 ∧ ((((W.setCell ⟨B, 0, none⟩ v0).setCell ⟨B, 1, none⟩ v1).setCell ⟨B, 2, none⟩ v2).setCell ⟨B, 3, none⟩ v3).cell? p12 = some c12 := by
  obtain ⟨n0, n1, n2, n3, n4, n5, n6, n7, n8, n9, n10, n11, n12⟩ := hne
  exact ⟨an_one v0 v1 v2 v3 h0 n0, an_one v0 v1 v2 v3 h1 n1, an_one v0 v1 v2 v3 h2 n2, an_one v0 v1 v2 v3 h3 n3, an_one v0 v1 v2 v3 h4 n4, an_one v0 v1 v2 v3 h5 n5, an_one v0 v1 v2 v3 h6 n6, an_one v0 v1 v2 v3 h7 n7, an_one v0 v1 v2 v3 h8 n8, an_one v0 v1 v2 v3 h9 n9, an_one v0 v1 v2 v3 h10 n10, an_one v0 v1 v2 v3 h11 n11, an_one v0 v1 v2 v3 h12 n12⟩

set_option maxHeartbeats 8000000 in
theorem kind_app {ok okx : Nat → Prop} (a0 a1 a2 a3 : Value) (f x : Ty) (rf rx : Res) (ar : Nat) (har : ar ≤ 1000000) (hgf : Good f) (hgx : Good x) (hna : ¬ (ar = 0 ∧ isAppl (.mk 3 0 [] [f, x]) [126] = true)) (v : Value) (w : World) (hok : ∀ q, ok q → q < w.heap.size) (hv : V w (.mk 3 0 [] [f, x]) v)
    (hcf : ∀ W fv, Below w.heap.size w W → V W f fv → Calls Try.prog 18 #[.agg #[a0, a1, a2, a3], fv, .int .i64 (ar + 1)] W (KndO ok rf W))
    (hcx : ∀ W xv, Below w.heap.size w W → V W x xv → Calls Try.prog 18 #[.agg #[a0, a1, a2, a3], xv, .int .i64 0] W (KndO okx rx W)) :
    Calls Try.prog 18 #[.agg #[a0, a1, a2, a3], v, .int .i64 ar] w (KndO ok (appliedT rf x rx) w) := by
  obtain ⟨T, hT⟩ : ∃ T, T = appliedT rf x rx := ⟨_, rfl⟩
  rw [← hT]
  have HTA := Lib.hid hT
  clear hT
  have HIA := Lib.hid (fun W (hb : Below w.heap.size w W) => isappl_any (.mk 3 0 [] [f, x]) (.node 3 f x (.inl rfl) hgf hgx) ⟨#[126]⟩ v W (hv.next hb))
  obtain ⟨tb, tc, ev, _, hl, h4⟩ := hv
  rcases h4 with h4 | ⟨g, o, rfl, hrow⟩
  · cases h4
  obtain ⟨hrf, hrx, _⟩ := hrow
  obtain ⟨fb, fc, f0, f1, f2, f3, hvf⟩ := at_v hrf
  obtain ⟨xb, xc, x0, x1, x2, x3, hvx⟩ := at_v hrx
  have HVF := Lib.hid hvf
  have HVX := Lib.hid hvx
  have F0 := Lib.hid f0
  have F1 := Lib.hid f1
  have F2 := Lib.hid f2
  have F3 := Lib.hid f3
  have X0 := Lib.hid x0
  have X1 := Lib.hid x1
  have X2 := Lib.hid x2
  have X3 := Lib.hid x3
  replace ev : v = .agg #[.int .i64 3, .int .i64 0, .string ⟨#[]⟩, .slice (some ⟨g, o, none⟩) 2 tc] := ev
  subst ev
  have HCF := Lib.hid hcf
  have HCX := Lib.hid hcx
  have HM := Lib.hid (Va3.new w a0 a1 a2 a3 (.int .i64 3) (.int .i64 0) (.string ⟨#[]⟩) (.slice (some ⟨g, o, none⟩) 2 tc))
  have HOK := Lib.hid (show g < w.heap.size from World.block_lt_of_cell? w _ f0)
  have hw1 : IntKind.i64.wrap ((ar : Int) + 1) = (ar : Int) + 1 := IntWalk.i64_in _ (by omega)
  clear hgf hgx
  clear hcf hcx hrf hrx hvf hvx f0 f1 f2 f3 x0 x1 x2 x3 hl
  go_enter Try.func18, Try.ntmps18
  go_upto_region 1 with fail
  obtain ⟨W1, hW1⟩ : ∃ W1, W1 = ((w.alloc (Obj.cells #[a0, a1, a2, a3] 61)).alloc (Obj.cells #[.int .i64 3, .int .i64 0, .string ⟨#[]⟩, .slice (some ⟨g, o, none⟩) 2 tc] 36)).alloc (Obj.cells #[.int .i64 0, .int .i64 0, .string ⟨#[]⟩, .slice none 0 0] 36) := ⟨_, rfl⟩
  rw [← hW1] at HM ⊢
  clear hW1
  have HOKK := Lib.hid hok
  clear hok
  by_cases har0 : ar = 0
  · subst har0
    have hia : isAppl (.mk 3 0 [] [f, x]) [126] = false := by
      cases h : isAppl (.mk 3 0 [] [f, x]) [126] with
      | false => rfl
      | true => exact absurd ⟨rfl, h⟩ hna
    rw [show ((⟨#[126]⟩ : ByteArray).data.toList) = [126] from rfl, hia] at HIA
    clear hia hna har
    obtain ⟨t0, t1, t2, t3⟩ := HM.out.t.cells
    go_upto_region 3 with fail
    go_wp2_with fail
    refine (HIA.out _ HM.out.below).mono ?_
    rintro e wi ⟨rfl, hbi⟩
    have HMI := Lib.hid (HM.out.next hbi)
    clear hbi t0 t1 t2 t3 HM HIA
    go_upto_region 6 with fail
    have hdr := drew_below wi
    have HD := Lib.hid HMI.out.drew
    obtain ⟨d0, d1, d2, d3⟩ := HD.out.wk.cells
    obtain ⟨_, _, _, d4⟩ := HD.out.t.cells
    have d5 := keeps HD.out.below _ _ F0.out
    have d6 := keeps HD.out.below _ _ F1.out
    have d7 := keeps HD.out.below _ _ F2.out
    have d8 := keeps HD.out.below _ _ F3.out
    have d9 := keeps HD.out.below _ _ X0.out
    have d10 := keeps HD.out.below _ _ X1.out
    have d11 := keeps HD.out.below _ _ X2.out
    have d12 := keeps HD.out.below _ _ X3.out
    have HNE : Hid (w.heap.size ≠ w.heap.size + 2 ∧ w.heap.size ≠ w.heap.size + 2 ∧ w.heap.size ≠ w.heap.size + 2 ∧ w.heap.size ≠ w.heap.size + 2 ∧ w.heap.size + 1 ≠ w.heap.size + 2 ∧ g ≠ w.heap.size + 2 ∧ g ≠ w.heap.size + 2 ∧ g ≠ w.heap.size + 2 ∧ g ≠ w.heap.size + 2 ∧ g ≠ w.heap.size + 2 ∧ g ≠ w.heap.size + 2 ∧ g ≠ w.heap.size + 2 ∧ g ≠ w.heap.size + 2) := Lib.hid (by have := HOK.out; omega)
    go_region_held2 (fun W => W.cell? ⟨w.heap.size, 0, none⟩ = some a0 ∧ W.cell? ⟨w.heap.size, 1, none⟩ = some a1 ∧ W.cell? ⟨w.heap.size, 2, none⟩ = some a2 ∧ W.cell? ⟨w.heap.size, 3, none⟩ = some a3 ∧ W.cell? ⟨w.heap.size + 1, 3, none⟩ = some (.slice (some ⟨g, o, none⟩) 2 tc) ∧ W.cell? ⟨g, o, none⟩ = some (.int .i64 f.op) ∧ W.cell? ⟨g, o + 1, none⟩ = some (.int .i64 f.n) ∧ W.cell? ⟨g, o + 2, none⟩ = some (.string f.name) ∧ W.cell? ⟨g, o + 3, none⟩ = some (.slice fb f.args.length fc) ∧ W.cell? ⟨g, o + 4, none⟩ = some (.int .i64 x.op) ∧ W.cell? ⟨g, o + 4 + 1, none⟩ = some (.int .i64 x.n) ∧ W.cell? ⟨g, o + 4 + 2, none⟩ = some (.string x.name) ∧ W.cell? ⟨g, o + 4 + 3, none⟩ = some (.slice xb x.args.length xc))
      (first | (with_reducible exact ⟨d0, d1, d2, d3, d4, d5, d6, d7, d8, d9, d10, d11, d12⟩) | (with_reducible exact ⟨u0, u1, u2, u3, u4, u5, u6, u7, u8, u9, u10, u11, u12⟩) | (with_reducible exact ⟨y0, y1, y2, y3, y4, y5, y6, y7, y8, y9, y10, y11, y12⟩) | (with_reducible exact ks_put13 y0 y1 y2 y3 y4 y5 y6 y7 y8 y9 y10 y11 y12 _ _ _ _ HNE.out))
      (first
      | (go_at_call 18; refine (HCF.out _ _ HD.out.below (HVF.out.next HD.out.below)).mono ?_; rintro e w2 ⟨hb2, hor⟩; rcases hor with ⟨n, hr, hn, rfl⟩ | ⟨k, v2, hr, hgk, rfl, hv2⟩; exact ⟨rfl, knd_fail (HTA.out.trans (by rw [hr]; rfl)) hn (HD.out.below.trans (hb2.mono HD.out.below.size))⟩; have HRF := Lib.hid hr; have HGK := Lib.hid hgk; have HV2 := Lib.hid hv2; have HM2 := Lib.hid (HD.out.next hb2); have u0 := keeps hb2 _ _ d0; have u1 := keeps hb2 _ _ d1; have u2 := keeps hb2 _ _ d2; have u3 := keeps hb2 _ _ d3; have u4 := keeps hb2 _ _ d4; have u5 := keeps hb2 _ _ d5; have u6 := keeps hb2 _ _ d6; have u7 := keeps hb2 _ _ d7; have u8 := keeps hb2 _ _ d8; have u9 := keeps hb2 _ _ d9; have u10 := keeps hb2 _ _ d10; have u11 := keeps hb2 _ _ d11; have u12 := keeps hb2 _ _ d12; have HZ2 := Lib.hid hb2.size; clear hb2 hr hgk hv2)
      | (go_at_call 47; refine (applied_any a0 a1 a2 a3 k x rx HGK.out _ _ _ HV2.out (HVX.out.next HM2.out.below) (fun W hb => HCX.out W _ (HM2.out.below.trans (hb.mono HM2.out.below.size)) (HVX.out.next (HM2.out.below.trans (hb.mono HM2.out.below.size))))).mono ?_; rintro e w3 ⟨hb3, hor⟩; rcases hor with ⟨n, hr, hn, rfl⟩ | ⟨k3, v3, hr, hg3, rfl, hv3⟩; exact ⟨rfl, knd_fail (HTA.out.trans (by rw [HRF.out]; exact hr)) hn (HM2.out.below.trans (hb3.mono HM2.out.below.size))⟩; have HR3 := Lib.hid hr; have HG3 := Lib.hid hg3; have HV3 := Lib.hid hv3; have HM3 := Lib.hid (HM2.out.next hb3); have y0 := keeps hb3 _ _ u0; have y1 := keeps hb3 _ _ u1; have y2 := keeps hb3 _ _ u2; have y3 := keeps hb3 _ _ u3; have y4 := keeps hb3 _ _ u4; have y5 := keeps hb3 _ _ u5; have y6 := keeps hb3 _ _ u6; have y7 := keeps hb3 _ _ u7; have y8 := keeps hb3 _ _ u8; have y9 := keeps hb3 _ _ u9; have y10 := keeps hb3 _ _ u10; have y11 := keeps hb3 _ _ u11; have y12 := keeps hb3 _ _ u12; clear hb3 hr hg3 hv3; obtain ⟨b3, c3, ev3, _, _⟩ := HV3.out; subst ev3; obtain ⟨z0, z1, z2, z3⟩ := HM3.out.r.cells; have h0 := HM3.out.r.frozen 0; have h1 := HM3.out.r.frozen 1; have h2 := HM3.out.r.frozen 2; have h3 := HM3.out.r.frozen 3))
    rename_i hS
    clear hS
    go_wp2_with fail
    refine bodyPost_ret (results_ty (a := 6) (by kernel_rfl) (B := w.heap.size + 2) (by rfl) (put4_cells HM3.out.r _ _ _ _).cells.1 (put4_cells HM3.out.r _ _ _ _).cells.2.1 (put4_cells HM3.out.r _ _ _ _).cells.2.2.1 (put4_cells HM3.out.r _ _ _ _).cells.2.2.2) rfl ?_
    have hz := lt_of_block HD.out.r
    have hz2 := HZ2.out
    have hokk := HOKK.out
    refine ⟨below_put4 HM3.out.below (by omega) _ _ _ _, .inr ⟨k3, _, HTA.out.trans (by rw [HRF.out]; exact HR3.out), HG3.out, rfl, ?_⟩⟩
    exact HV3.out.keep (fun q hq => by rcases hq with (hq | hq) | hq; exact .inl hq; exact .inr (by omega); exact .inr (by omega)) (fun p v hp hc => put4_keep _ _ _ _ p v hc (by rcases hp with (hp | hp) | hp; (have := hokk _ hp; omega); omega; omega))
  · have hq : ((ar : Int) == 0) = false := by simpa using har0
    clear HIA hna
    obtain ⟨t0, _, _, t3⟩ := HM.out.t.cells
    go_upto_region 6 with fail
    have hdr := drew_below W1
    have HD := Lib.hid HM.out.drew
    obtain ⟨d0, d1, d2, d3⟩ := HD.out.wk.cells
    obtain ⟨_, _, _, d4⟩ := HD.out.t.cells
    have d5 := keeps HD.out.below _ _ F0.out
    have d6 := keeps HD.out.below _ _ F1.out
    have d7 := keeps HD.out.below _ _ F2.out
    have d8 := keeps HD.out.below _ _ F3.out
    have d9 := keeps HD.out.below _ _ X0.out
    have d10 := keeps HD.out.below _ _ X1.out
    have d11 := keeps HD.out.below _ _ X2.out
    have d12 := keeps HD.out.below _ _ X3.out
    have HNE : Hid (w.heap.size ≠ w.heap.size + 2 ∧ w.heap.size ≠ w.heap.size + 2 ∧ w.heap.size ≠ w.heap.size + 2 ∧ w.heap.size ≠ w.heap.size + 2 ∧ w.heap.size + 1 ≠ w.heap.size + 2 ∧ g ≠ w.heap.size + 2 ∧ g ≠ w.heap.size + 2 ∧ g ≠ w.heap.size + 2 ∧ g ≠ w.heap.size + 2 ∧ g ≠ w.heap.size + 2 ∧ g ≠ w.heap.size + 2 ∧ g ≠ w.heap.size + 2 ∧ g ≠ w.heap.size + 2) := Lib.hid (by have := HOK.out; omega)
    go_region_held2 (fun W => W.cell? ⟨w.heap.size, 0, none⟩ = some a0 ∧ W.cell? ⟨w.heap.size, 1, none⟩ = some a1 ∧ W.cell? ⟨w.heap.size, 2, none⟩ = some a2 ∧ W.cell? ⟨w.heap.size, 3, none⟩ = some a3 ∧ W.cell? ⟨w.heap.size + 1, 3, none⟩ = some (.slice (some ⟨g, o, none⟩) 2 tc) ∧ W.cell? ⟨g, o, none⟩ = some (.int .i64 f.op) ∧ W.cell? ⟨g, o + 1, none⟩ = some (.int .i64 f.n) ∧ W.cell? ⟨g, o + 2, none⟩ = some (.string f.name) ∧ W.cell? ⟨g, o + 3, none⟩ = some (.slice fb f.args.length fc) ∧ W.cell? ⟨g, o + 4, none⟩ = some (.int .i64 x.op) ∧ W.cell? ⟨g, o + 4 + 1, none⟩ = some (.int .i64 x.n) ∧ W.cell? ⟨g, o + 4 + 2, none⟩ = some (.string x.name) ∧ W.cell? ⟨g, o + 4 + 3, none⟩ = some (.slice xb x.args.length xc))
      (first | (with_reducible exact ⟨d0, d1, d2, d3, d4, d5, d6, d7, d8, d9, d10, d11, d12⟩) | (with_reducible exact ⟨u0, u1, u2, u3, u4, u5, u6, u7, u8, u9, u10, u11, u12⟩) | (with_reducible exact ⟨y0, y1, y2, y3, y4, y5, y6, y7, y8, y9, y10, y11, y12⟩) | (with_reducible exact ks_put13 y0 y1 y2 y3 y4 y5 y6 y7 y8 y9 y10 y11 y12 _ _ _ _ HNE.out))
      (first
      | (go_at_call 18; refine (HCF.out _ _ HD.out.below (HVF.out.next HD.out.below)).mono ?_; rintro e w2 ⟨hb2, hor⟩; rcases hor with ⟨n, hr, hn, rfl⟩ | ⟨k, v2, hr, hgk, rfl, hv2⟩; exact ⟨rfl, knd_fail (HTA.out.trans (by rw [hr]; rfl)) hn (HD.out.below.trans (hb2.mono HD.out.below.size))⟩; have HRF := Lib.hid hr; have HGK := Lib.hid hgk; have HV2 := Lib.hid hv2; have HM2 := Lib.hid (HD.out.next hb2); have u0 := keeps hb2 _ _ d0; have u1 := keeps hb2 _ _ d1; have u2 := keeps hb2 _ _ d2; have u3 := keeps hb2 _ _ d3; have u4 := keeps hb2 _ _ d4; have u5 := keeps hb2 _ _ d5; have u6 := keeps hb2 _ _ d6; have u7 := keeps hb2 _ _ d7; have u8 := keeps hb2 _ _ d8; have u9 := keeps hb2 _ _ d9; have u10 := keeps hb2 _ _ d10; have u11 := keeps hb2 _ _ d11; have u12 := keeps hb2 _ _ d12; have HZ2 := Lib.hid hb2.size; clear hb2 hr hgk hv2)
      | (go_at_call 47; refine (applied_any a0 a1 a2 a3 k x rx HGK.out _ _ _ HV2.out (HVX.out.next HM2.out.below) (fun W hb => HCX.out W _ (HM2.out.below.trans (hb.mono HM2.out.below.size)) (HVX.out.next (HM2.out.below.trans (hb.mono HM2.out.below.size))))).mono ?_; rintro e w3 ⟨hb3, hor⟩; rcases hor with ⟨n, hr, hn, rfl⟩ | ⟨k3, v3, hr, hg3, rfl, hv3⟩; exact ⟨rfl, knd_fail (HTA.out.trans (by rw [HRF.out]; exact hr)) hn (HM2.out.below.trans (hb3.mono HM2.out.below.size))⟩; have HR3 := Lib.hid hr; have HG3 := Lib.hid hg3; have HV3 := Lib.hid hv3; have HM3 := Lib.hid (HM2.out.next hb3); have y0 := keeps hb3 _ _ u0; have y1 := keeps hb3 _ _ u1; have y2 := keeps hb3 _ _ u2; have y3 := keeps hb3 _ _ u3; have y4 := keeps hb3 _ _ u4; have y5 := keeps hb3 _ _ u5; have y6 := keeps hb3 _ _ u6; have y7 := keeps hb3 _ _ u7; have y8 := keeps hb3 _ _ u8; have y9 := keeps hb3 _ _ u9; have y10 := keeps hb3 _ _ u10; have y11 := keeps hb3 _ _ u11; have y12 := keeps hb3 _ _ u12; clear hb3 hr hg3 hv3; obtain ⟨b3, c3, ev3, _, _⟩ := HV3.out; subst ev3; obtain ⟨z0, z1, z2, z3⟩ := HM3.out.r.cells; have h0 := HM3.out.r.frozen 0; have h1 := HM3.out.r.frozen 1; have h2 := HM3.out.r.frozen 2; have h3 := HM3.out.r.frozen 3))
    rename_i hS
    clear hS
    go_wp2_with fail
    refine bodyPost_ret (results_ty (a := 6) (by kernel_rfl) (B := w.heap.size + 2) (by rfl) (put4_cells HM3.out.r _ _ _ _).cells.1 (put4_cells HM3.out.r _ _ _ _).cells.2.1 (put4_cells HM3.out.r _ _ _ _).cells.2.2.1 (put4_cells HM3.out.r _ _ _ _).cells.2.2.2) rfl ?_
    have hz := lt_of_block HD.out.r
    have hz2 := HZ2.out
    have hokk := HOKK.out
    refine ⟨below_put4 HM3.out.below (by omega) _ _ _ _, .inr ⟨k3, _, HTA.out.trans (by rw [HRF.out]; exact HR3.out), HG3.out, rfl, ?_⟩⟩
    exact HV3.out.keep (fun q hq => by rcases hq with (hq | hq) | hq; exact .inl hq; exact .inr (by omega); exact .inr (by omega)) (fun p v hp hc => put4_keep _ _ _ _ p v hc (by rcases hp with (hp | hp) | hp; (have := hokk _ hp; omega); omega; omega))

end Ty
end Go.Proofs.Ytfjgebdpbmnicaa
