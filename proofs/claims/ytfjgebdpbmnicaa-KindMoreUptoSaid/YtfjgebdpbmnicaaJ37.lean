/- What the walker's kind returns for an equation of types. Conditions: what kind does with its sides. -/
import Derived.Test.YtfjgebdpbmnicaaJ36
import Derived.Test.YtfjgebdpbmnicaaJ27
namespace Go.Proofs.Ytfjgebdpbmnicaa
open Go.RowKit

namespace Ty
/-- the kind of an equation of types, from what its sides give -/
def eqnT (ra rx : Res) : Res := match ra with | .bad e => .bad e | .ok k => mustT rx k (.ok tConstraint)

set_option maxHeartbeats 8000000 in
theorem kind_eqn {ok okx oka : Nat → Prop} (a0 a1 a2 a3 : Value) (q a x : Ty) (ra rx : Res) (hg : Good (.mk 3 0 [] [.mk 3 0 [] [q, a], x])) (hia : isAppl (.mk 3 0 [] [.mk 3 0 [] [q, a], x]) [126] = true) (v : Value) (w : World) (hv : V w (.mk 3 0 [] [.mk 3 0 [] [q, a], x]) v)
    (hca : ∀ W av, Below w.heap.size w W → V W a av → Calls Try.prog 18 #[.agg #[a0, a1, a2, a3], av, .int .i64 0] W (KndO oka ra W))
    (hcx : ∀ W xv, Below w.heap.size w W → V W x xv → Calls Try.prog 18 #[.agg #[a0, a1, a2, a3], xv, .int .i64 0] W (KndO okx rx W)) :
    Calls Try.prog 18 #[.agg #[a0, a1, a2, a3], v, .int .i64 0] w (KndO ok (eqnT ra rx) w) := by
  obtain ⟨T, hT⟩ : ∃ T, T = eqnT ra rx := ⟨_, rfl⟩
  rw [← hT]
  have HTA := Lib.hid hT
  clear hT
  have HIA := Lib.hid (fun W (hb : Below w.heap.size w W) => isappl_any _ hg ⟨#[126]⟩ v W (hv.next hb))
  rw [show ((⟨#[126]⟩ : ByteArray).data.toList) = [126] from rfl, hia] at HIA
  obtain ⟨tb, tc, ev, _, hl, h4⟩ := hv
  rcases h4 with h4 | ⟨g, o, rfl, hrow⟩
  · cases h4
  obtain ⟨hrf, hrx, _⟩ := hrow
  obtain ⟨fb, fc, f0, f1, f2, f3, hvf⟩ := at_v hrf
  obtain ⟨fb', fc', ef, _, hlf, hf4⟩ := hvf
  simp only [Value.agg.injEq, Array.mk.injEq, List.cons.injEq, Value.slice.injEq, true_and, and_true] at ef
  obtain ⟨ef, ef2⟩ := ef
  subst ef
  subst ef2
  rcases hf4 with h0 | ⟨g2, o2, rfl, hrow2⟩
  · cases h0
  obtain ⟨_, hra, _⟩ := hrow2
  obtain ⟨ab, ac, y0, y1, y2, y3, hva⟩ := at_v hra
  have HVA := Lib.hid hva
  have Y0 := Lib.hid y0
  have Y1 := Lib.hid y1
  have Y2 := Lib.hid y2
  have Y3 := Lib.hid y3
  replace f3 : w.cell? ⟨g, o + 3, none⟩ = some (.slice (some ⟨g2, o2, none⟩) 2 fc) := f3
  obtain ⟨xb, xc, x0, x1, x2, x3, hvx⟩ := at_v hrx
  have HVX := Lib.hid hvx
  have F3 := Lib.hid f3
  have X0 := Lib.hid x0
  have X1 := Lib.hid x1
  have X2 := Lib.hid x2
  have X3 := Lib.hid x3
  replace ev : v = .agg #[.int .i64 3, .int .i64 0, .string ⟨#[]⟩, .slice (some ⟨g, o, none⟩) 2 tc] := ev
  subst ev
  have HCA := Lib.hid hca
  have HCX := Lib.hid hcx
  have HM := Lib.hid (Va3.new w a0 a1 a2 a3 (.int .i64 3) (.int .i64 0) (.string ⟨#[]⟩) (.slice (some ⟨g, o, none⟩) 2 tc))
  clear hca hcx hrf hrx hva hvx f0 f1 f2 f3 x0 x1 x2 x3 y0 y1 y2 y3 hl hlf hra hia hg
  go_enter Try.func18, Try.ntmps18
  go_upto_region 1 with fail
  obtain ⟨W1, hW1⟩ : ∃ W1, W1 = ((w.alloc (Obj.cells #[a0, a1, a2, a3] 61)).alloc (Obj.cells #[.int .i64 3, .int .i64 0, .string ⟨#[]⟩, .slice (some ⟨g, o, none⟩) 2 tc] 36)).alloc (Obj.cells #[.int .i64 0, .int .i64 0, .string ⟨#[]⟩, .slice none 0 0] 36) := ⟨_, rfl⟩
  rw [← hW1] at HM ⊢
  clear hW1
  obtain ⟨t0, t1, t2, t3⟩ := HM.out.t.cells
  go_upto_region 3 with fail
  go_wp2_with fail
  refine (HIA.out _ HM.out.below).mono ?_
  rintro e wi ⟨rfl, hbi⟩
  have HMI := Lib.hid (HM.out.next hbi)
  clear hbi t0 t1 t2 t3 HM HIA
  go_upto_region 4 with fail
  have hdr := drew_below wi
  have HD := Lib.hid HMI.out.drew
  obtain ⟨d0, d1, d2, d3⟩ := HD.out.wk.cells
  obtain ⟨_, _, _, d4⟩ := HD.out.t.cells
  have d5 := keeps HD.out.below _ _ F3.out
  have d6 := keeps HD.out.below _ _ Y0.out
  have d7 := keeps HD.out.below _ _ Y1.out
  have d8 := keeps HD.out.below _ _ Y2.out
  have d9 := keeps HD.out.below _ _ Y3.out
  have d10 := keeps HD.out.below _ _ X0.out
  have d11 := keeps HD.out.below _ _ X1.out
  have d12 := keeps HD.out.below _ _ X2.out
  have d13 := keeps HD.out.below _ _ X3.out
  go_region_held2 (fun W => W.cell? ⟨w.heap.size, 0, none⟩ = some a0 ∧ W.cell? ⟨w.heap.size, 1, none⟩ = some a1 ∧ W.cell? ⟨w.heap.size, 2, none⟩ = some a2 ∧ W.cell? ⟨w.heap.size, 3, none⟩ = some a3 ∧ W.cell? ⟨w.heap.size + 1, 3, none⟩ = some (.slice (some ⟨g, o, none⟩) 2 tc) ∧ W.cell? ⟨g, o + 3, none⟩ = some (.slice (some ⟨g2, o2, none⟩) 2 fc) ∧ W.cell? ⟨g2, o2 + 4, none⟩ = some (.int .i64 a.op) ∧ W.cell? ⟨g2, o2 + 4 + 1, none⟩ = some (.int .i64 a.n) ∧ W.cell? ⟨g2, o2 + 4 + 2, none⟩ = some (.string a.name) ∧ W.cell? ⟨g2, o2 + 4 + 3, none⟩ = some (.slice ab a.args.length ac) ∧ W.cell? ⟨g, o + 4, none⟩ = some (.int .i64 x.op) ∧ W.cell? ⟨g, o + 4 + 1, none⟩ = some (.int .i64 x.n) ∧ W.cell? ⟨g, o + 4 + 2, none⟩ = some (.string x.name) ∧ W.cell? ⟨g, o + 4 + 3, none⟩ = some (.slice xb x.args.length xc))
    (first | (with_reducible exact ⟨d0, d1, d2, d3, d4, d5, d6, d7, d8, d9, d10, d11, d12, d13⟩) | (with_reducible exact ⟨u0, u1, u2, u3, u4, u5, u6, u7, u8, u9, u10, u11, u12, u13⟩) | (with_reducible exact ⟨y0, y1, y2, y3, y4, y5, y6, y7, y8, y9, y10, y11, y12, y13⟩))
    (first
    | (go_at_call 18; refine (HCA.out _ _ HD.out.below (HVA.out.next HD.out.below)).mono ?_; rintro e w2 ⟨hb2, hor⟩; rcases hor with ⟨n, hr, hn, rfl⟩ | ⟨k, v2, hr, hgk, rfl, hv2⟩; exact ⟨rfl, knd_fail (HTA.out.trans (by rw [hr]; rfl)) hn (HD.out.below.trans (hb2.mono HD.out.below.size))⟩; have HRA := Lib.hid hr; have HV2 := Lib.hid hv2.weak; have HM2 := Lib.hid (HD.out.next hb2); have u0 := keeps hb2 _ _ d0; have u1 := keeps hb2 _ _ d1; have u2 := keeps hb2 _ _ d2; have u3 := keeps hb2 _ _ d3; have u4 := keeps hb2 _ _ d4; have u5 := keeps hb2 _ _ d5; have u6 := keeps hb2 _ _ d6; have u7 := keeps hb2 _ _ d7; have u8 := keeps hb2 _ _ d8; have u9 := keeps hb2 _ _ d9; have u10 := keeps hb2 _ _ d10; have u11 := keeps hb2 _ _ d11; have u12 := keeps hb2 _ _ d12; have u13 := keeps hb2 _ _ d13; clear hb2 hr hgk hv2)
    | (go_at_call 46; refine (kmust_any (ok := okx) a0 a1 a2 a3 _ _ _ _ rx k _ _ HV2.out (fun W hb => HCX.out W _ (HM2.out.below.trans (hb.mono HM2.out.below.size)) (HVX.out.next (HM2.out.below.trans (hb.mono HM2.out.below.size))))).mono ?_; rintro e w3 ⟨hb3, hor⟩; rcases hor with ⟨n, hr, hn, rfl⟩ | ⟨k', hr, rfl⟩; exact ⟨rfl, knd_fail (HTA.out.trans (by rw [HRA.out]; exact must_zero hr)) hn (HM2.out.below.trans (hb3.mono HM2.out.below.size))⟩; have HR3 := Lib.hid hr; have HM3 := Lib.hid (HM2.out.next hb3); have y0 := keeps hb3 _ _ u0; have y1 := keeps hb3 _ _ u1; have y2 := keeps hb3 _ _ u2; have y3 := keeps hb3 _ _ u3; have y4 := keeps hb3 _ _ u4; have y5 := keeps hb3 _ _ u5; have y6 := keeps hb3 _ _ u6; have y7 := keeps hb3 _ _ u7; have y8 := keeps hb3 _ _ u8; have y9 := keeps hb3 _ _ u9; have y10 := keeps hb3 _ _ u10; have y11 := keeps hb3 _ _ u11; have y12 := keeps hb3 _ _ u12; have y13 := keeps hb3 _ _ u13; clear hb3 hr))
  rename_i hS
  clear hS
  have HTC : Hid (T = .ok tConstraint) := Lib.hid (HTA.out.trans (by rw [HRA.out]; exact must_next HR3.out))
  clear d0 d1 d2 d3 d4 d5 d6 d7 d8 d9 d10 d11 d12 d13 u0 u1 u2 u3 u4 u5 u6 u7 u8 u9 u10 u11 u12 u13 y0 y1 y2 y3 y4 y5 y6 y7 y8 y9 y10 y11 y12 y13 hdr
  go_wp2_with fail
  refine (named_ex ⟨#[67, 111, 110, 115, 116, 114, 97, 105, 110, 116]⟩ _).mono ?_
  rintro e w9 ⟨rfl, hb9⟩
  have HM9 := Lib.hid (HM3.out.next hb9)
  clear hb9
  obtain ⟨z0, z1, z2, z3⟩ := HM9.out.r.cells
  have g0 := HM9.out.r.frozen 0
  have g1 := HM9.out.r.frozen 1
  have g2 := HM9.out.r.frozen 2
  have g3 := HM9.out.r.frozen 3
  go_wp2_with fail
  refine bodyPost_ret (results_ty (a := 6) (by kernel_rfl) (B := w.heap.size + 2) (by rfl) (put4_cells HM9.out.r _ _ _ _).cells.1 (put4_cells HM9.out.r _ _ _ _).cells.2.1 (put4_cells HM9.out.r _ _ _ _).cells.2.2.1 (put4_cells HM9.out.r _ _ _ _).cells.2.2.2) rfl ?_
  exact ⟨below_put4 HM9.out.below (by omega) _ _ _ _, .inr ⟨tConstraint, _, HTC.out, Good.con _ (by decide) (by decide), rfl, ⟨none, 0, rfl, by decide, Nat.zero_le _, .inl rfl⟩⟩⟩

end Ty
end Go.Proofs.Ytfjgebdpbmnicaa

/- What the walker's kind returns for a variable and a constant. Conditions: what variable and constant return. -/
namespace Go.Proofs.Ytfjgebdpbmnicaa
open Go.RowKit

namespace Ty

set_option maxHeartbeats 8000000 in
theorem kind_var {ok : Nat → Prop} (a0 a1 a2 a3 : Value) (op n ar : Int) (q3 : (op == 3) = false) (q4 : (op == 4) = false) (q5 : (op == 5) = false) (q2 : (op == 2) = false) (s : ByteArray) (tb : Option Addr) (tl tc : Nat) (r : Res) (w : World) (hok : ∀ q, ok q → q < w.heap.size)
    (hc : ∀ W, Below w.heap.size w W → Calls Try.prog 50 #[.agg #[a0, a1, a2, a3], .agg #[.int .i64 op, .int .i64 n, .string s, .slice tb tl tc]] W (KndO ok r W)) :
    Calls Try.prog 18 #[.agg #[a0, a1, a2, a3], .agg #[.int .i64 op, .int .i64 n, .string s, .slice tb tl tc], .int .i64 ar] w (KndO ok r w) := by
  have HC := Lib.hid hc
  have HOKK := Lib.hid hok
  have HM := Lib.hid (Va3.new w a0 a1 a2 a3 (.int .i64 op) (.int .i64 n) (.string s) (.slice tb tl tc))
  clear hc hok
  go_enter Try.func18, Try.ntmps18
  go_upto_region 1 with fail
  obtain ⟨W1, hW1⟩ : ∃ W1, W1 = ((w.alloc (Obj.cells #[a0, a1, a2, a3] 61)).alloc (Obj.cells #[.int .i64 op, .int .i64 n, .string s, .slice tb tl tc] 36)).alloc (Obj.cells #[.int .i64 0, .int .i64 0, .string ⟨#[]⟩, .slice none 0 0] 36) := ⟨_, rfl⟩
  rw [← hW1] at HM ⊢
  clear hW1
  obtain ⟨t0, t1, t2, t3⟩ := HM.out.t.cells
  obtain ⟨d0, d1, d2, d3⟩ := HM.out.wk.cells
  go_wp2_with fail
  refine (HC.out _ HM.out.below).mono ?_
  rintro e w2 ⟨hb2, hor⟩
  rcases hor with ⟨c, hr, hn, rfl⟩ | ⟨k, v2, hr, hgk, rfl, hv2⟩
  · exact ⟨rfl, knd_fail hr hn (HM.out.below.trans (hb2.mono HM.out.below.size))⟩
  have HR := Lib.hid hr
  have HG := Lib.hid hgk
  have HV := Lib.hid hv2
  have HM2 := Lib.hid (HM.out.next hb2)
  have HZ := Lib.hid (lt_of_block HM.out.r)
  obtain ⟨b, c, ev, _, _⟩ := hv2
  subst ev
  clear hb2 hr hgk t0 t1 t2 t3 d0 d1 d2 d3 HM HC
  obtain ⟨z0, z1, z2, z3⟩ := HM2.out.r.cells
  have f0 := HM2.out.r.frozen 0
  have f1 := HM2.out.r.frozen 1
  have f2 := HM2.out.r.frozen 2
  have f3 := HM2.out.r.frozen 3
  go_wp2_with fail
  refine bodyPost_ret (results_ty (a := 6) (by kernel_rfl) (B := w.heap.size + 2) (by rfl) (put4_cells HM2.out.r _ _ _ _).cells.1 (put4_cells HM2.out.r _ _ _ _).cells.2.1 (put4_cells HM2.out.r _ _ _ _).cells.2.2.1 (put4_cells HM2.out.r _ _ _ _).cells.2.2.2) rfl ?_
  have hz := HZ.out
  have hok := HOKK.out
  refine ⟨below_put4 HM2.out.below (by omega) _ _ _ _, .inr ⟨k, _, HR.out, HG.out, rfl, ?_⟩⟩
  exact HV.out.keep (fun q hq => by rcases hq with hq | hq; exact .inl hq; exact .inr (by omega)) (fun p v hp hc => put4_keep _ _ _ _ p v hc (by rcases hp with hp | hp; (have := hok _ hp; omega); omega))

set_option maxHeartbeats 8000000 in
theorem kind_con {ok : Nat → Prop} (a0 a1 a2 a3 : Value) (n ar : Int) (s : ByteArray) (tb : Option Addr) (tl tc : Nat) (r : Res) (w : World) (hok : ∀ q, ok q → q < w.heap.size)
    (hc : ∀ W, Below w.heap.size w W → Calls Try.prog 49 #[.agg #[a0, a1, a2, a3], .string s, .int .i64 ar] W (KndO ok r W)) :
    Calls Try.prog 18 #[.agg #[a0, a1, a2, a3], .agg #[.int .i64 2, .int .i64 n, .string s, .slice tb tl tc], .int .i64 ar] w (KndO ok r w) := by
  have HC := Lib.hid hc
  have HOKK := Lib.hid hok
  have HM := Lib.hid (Va3.new w a0 a1 a2 a3 (.int .i64 2) (.int .i64 n) (.string s) (.slice tb tl tc))
  clear hc hok
  go_enter Try.func18, Try.ntmps18
  go_upto_region 1 with fail
  obtain ⟨W1, hW1⟩ : ∃ W1, W1 = ((w.alloc (Obj.cells #[a0, a1, a2, a3] 61)).alloc (Obj.cells #[.int .i64 2, .int .i64 n, .string s, .slice tb tl tc] 36)).alloc (Obj.cells #[.int .i64 0, .int .i64 0, .string ⟨#[]⟩, .slice none 0 0] 36) := ⟨_, rfl⟩
  rw [← hW1] at HM ⊢
  clear hW1
  obtain ⟨t0, t1, t2, t3⟩ := HM.out.t.cells
  obtain ⟨d0, d1, d2, d3⟩ := HM.out.wk.cells
  go_wp2_with fail
  refine (HC.out _ HM.out.below).mono ?_
  rintro e w2 ⟨hb2, hor⟩
  rcases hor with ⟨c, hr, hn, rfl⟩ | ⟨k, v2, hr, hgk, rfl, hv2⟩
  · exact ⟨rfl, knd_fail hr hn (HM.out.below.trans (hb2.mono HM.out.below.size))⟩
  have HR := Lib.hid hr
  have HG := Lib.hid hgk
  have HV := Lib.hid hv2
  have HM2 := Lib.hid (HM.out.next hb2)
  have HZ := Lib.hid (lt_of_block HM.out.r)
  obtain ⟨b, c, ev, _, _⟩ := hv2
  subst ev
  clear hb2 hr hgk t0 t1 t2 t3 d0 d1 d2 d3 HM HC
  obtain ⟨z0, z1, z2, z3⟩ := HM2.out.r.cells
  have f0 := HM2.out.r.frozen 0
  have f1 := HM2.out.r.frozen 1
  have f2 := HM2.out.r.frozen 2
  have f3 := HM2.out.r.frozen 3
  go_wp2_with fail
  refine bodyPost_ret (results_ty (a := 6) (by kernel_rfl) (B := w.heap.size + 2) (by rfl) (put4_cells HM2.out.r _ _ _ _).cells.1 (put4_cells HM2.out.r _ _ _ _).cells.2.1 (put4_cells HM2.out.r _ _ _ _).cells.2.2.1 (put4_cells HM2.out.r _ _ _ _).cells.2.2.2) rfl ?_
  have hz := HZ.out
  have hok := HOKK.out
  refine ⟨below_put4 HM2.out.below (by omega) _ _ _ _, .inr ⟨k, _, HR.out, HG.out, rfl, ?_⟩⟩
  exact HV.out.keep (fun q hq => by rcases hq with hq | hq; exact .inl hq; exact .inr (by omega)) (fun p v hp hc => put4_keep _ _ _ _ p v hc (by rcases hp with hp | hp; (have := hok _ hp; omega); omega))

end Ty
end Go.Proofs.Ytfjgebdpbmnicaa

/- What the walker's kind returns. Conditions: what find and within do; the metavariables' and rigid variables' kinds are well formed. -/
namespace Go.Proofs.Ytfjgebdpbmnicaa
open Go.RowKit

namespace Ty
/-- a walker's value -/
abbrev wkV (E : Nat) (mb : Option Addr) (ml mc : Nat) (rb : Option Addr) (rl rc : Nat) (xb : Option Addr) (xl xc : Nat) : Value := .agg #[.pointer (some ⟨E, 0, none⟩), .slice mb ml mc, .slice rb rl rc, .slice xb xl xc]
/-- what a walker stands on -/
structure KHyp (w0 : World) (K : KW) (E : Nat) (mb rb : Option Addr) (mc rc : Nat) : Prop where
  find : ∀ (s : List UInt8) W, Below w0.heap.size w0 W → Calls Try.prog 8 #[.pointer (some ⟨E, 0, none⟩), .string ⟨s.toArray⟩] W (ConO (· < w0.heap.size) (findT K.env s) W)
  goodf : ∀ s k a, findT K.env s = (.ok k, a) → Good k
  met : SlG 10 At w0 mb K.metas
  rig : SlG 5 At w0 rb K.rigids
  goodm : ∀ i (h : i < K.metas.length), Good (K.metas[i]'h)
  goodr : ∀ i (h : i < K.rigids.length), Good (K.rigids[i]'h)
  within : ∀ (ctx : List Ty) (xb : Option Addr) (xc : Nat) (k : Ty) (kv : Value) W, ctx.length ≤ 1000 → ctx.length ≤ xc → Sl W xb ctx → V W k kv →
    Calls Try.prog 48 #[wkV E mb K.metas.length mc rb K.rigids.length rc xb ctx.length xc, kv] W fun e w' => Below W.heap.size W w' ∧ ∃ b c, e = .returned (wkV E mb K.metas.length mc rb K.rigids.length rc b (ctx.length + 1) c) ∧ ctx.length + 1 ≤ c ∧ Sl w' b (ctx ++ [k])
theorem kindF_node (K : KW) (m : Nat) (op n : Int) (s : List UInt8) (f x : Ty) (ctx : List Ty) (ar : Nat) : kindF K (m + 1) (.mk op n s [f, x]) ctx ar =
    (if op = 3 then (if ar = 0 ∧ isAppl (.mk op n s [f, x]) [126] = true then (match kindF K m ((f.args[1]?).getD zeroT) ctx 0 with | .bad e => .bad e | .ok k => mustT (kindF K m x ctx 0) k (.ok tConstraint)) else appliedT (kindF K m f ctx (ar + 1)) x (kindF K m x ctx 0))
     else if op = 4 then mustT (kindF K m f ctx 0) tType (mustT (kindF K m x (ctx ++ [f]) 0) tType (.ok tType))
     else mustT (kindF K m f ctx 0) tConstraint (mustT (kindF K m x ctx 0) tType (.ok tType))) := rfl
section
variable {w0 : World} {K : KW} {E : Nat} {mb rb : Option Addr} {mc rc : Nat}
theorem variable_any (h : KHyp w0 K E mb rb mc rc) (ctx : List Ty) (op n : Int) (hop : op = 1 ∨ op = 6 ∨ op = 7) (hn0 : 0 ≤ n) (hn9 : n ≤ 9999) (xb : Option Addr) (xc : Nat) (tb : Option Addr) (tc : Nat) (W : World) (hb : Below w0.heap.size w0 W) (hcl : ctx.length ≤ 1000) (hsl : Sl W xb ctx) :
    Calls Try.prog 50 #[wkV E mb K.metas.length mc rb K.rigids.length rc xb ctx.length xc, .agg #[.int .i64 op, .int .i64 n, .string ⟨#[]⟩, .slice tb 0 tc]] W (KndO (· < w0.heap.size) (varT K ctx op n) W) := by
  obtain ⟨p, rfl⟩ : ∃ p : Nat, n = p := ⟨n.toNat, by omega⟩
  have hok : ∀ g, g < w0.heap.size → g < W.heap.size := fun g hg => Nat.lt_of_lt_of_le hg hb.size
  have atk : ∀ {sz : Nat} {bb : Option Addr} {l : List Ty} (hl : SlG sz At w0 bb l) (i : Nat) (hi : i < l.length), ∃ g o, bb = some ⟨g, o, none⟩ ∧ AtO (· < w0.heap.size) W g (o + i * sz) (l[i]'hi) := fun hl i hi => by
    rcases hl.2 with h0 | ⟨g, o, e, hr⟩
    · rw [h0] at hi; simp at hi
    · exact ⟨g, o, e, AtO.keep (ok := (· < w0.heap.size)) (ok' := (· < w0.heap.size)) (fun _ h => h) (fun p v _ hc => keeps hb p v hc) (show g < w0.heap.size from World.block_lt_of_cell? w0 _ (at_v (hr i hi)).choose_spec.choose_spec.1) (hr i hi).bound⟩
  by_cases h1 : op = 1 ∧ p < ctx.length
  · obtain ⟨rfl, hp⟩ := h1
    exact variable_var K ctx p (ctx.length - 1 - p) (by omega) (by omega) (by omega) _ mb rb xb mc rc xc W hsl tb tc
  · by_cases h6 : op = 6 ∧ p < K.metas.length
    · obtain ⟨rfl, hp⟩ := h6
      exact variable_meta K ctx p hp (h.goodm p hp) _ mb rb xb mc rc xc W hok (atk h.met p hp) tb tc
    · by_cases h7 : op = 7 ∧ p < K.rigids.length
      · obtain ⟨rfl, hp⟩ := h7
        exact variable_rigid K ctx p hp (h.goodr p hp) _ mb rb xb mc rc xc W hok (atk h.rig p hp) tb tc
      · exact variable_none K ctx op p hop _ mb rb xb mc rc xc W (fun e => by by_cases hh : p < ctx.length; exact absurd ⟨e, hh⟩ h1; omega) (fun e => by by_cases hh : p < K.metas.length; exact absurd ⟨e, hh⟩ h6; omega) (fun e => by by_cases hh : p < K.rigids.length; exact absurd ⟨e, hh⟩ h7; omega) tb tc

theorem kind_any (h : KHyp w0 K E mb rb mc rc) : ∀ (m : Nat) (t : Ty) (ctx : List Ty) (ar : Nat) (xb : Option Addr) (xc : Nat) (v : Value) (W : World), Good t → nodes t ≤ m → ctx.length + m ≤ 1000 → ctx.length ≤ xc → ar + m ≤ 1000000 → Below w0.heap.size w0 W → Sl W xb ctx → V W t v →
    Calls Try.prog 18 #[wkV E mb K.metas.length mc rb K.rigids.length rc xb ctx.length xc, v, .int .i64 ar] W (KndO (· < w0.heap.size) (kindF K m t ctx ar) W) := by
  intro m
  induction m with
  | zero => intro t _ _ _ _ _ _ _ hn; have := nodes_pos t; omega
  | succ m ih =>
    intro t ctx ar xb xc v W hg hn hcl hcx har hb hsl hv
    have hok : ∀ g, g < w0.heap.size → g < W.heap.size := fun g hg => Nat.lt_of_lt_of_le hg hb.size
    have hnx : ∀ {W' : World}, Below W.heap.size W W' → Below w0.heap.size w0 W' := fun h' => hb.trans (h'.mono hb.size)
    cases hg with
    | var op n h1 h2 h3 =>
      have e : kindF K (m + 1) (.mk op n [] []) ctx ar = varT K ctx op n := by
        show (if op = 2 then _ else _) = _
        rw [if_neg (by omega)]
        rfl
      rw [e]
      obtain ⟨tb, tc, ev, _, _⟩ := hv
      subst ev
      have nq : ∀ k : Int, op ≠ k → (op == k) = false := fun k hk => by simpa using hk
      exact kind_var _ _ _ _ op n ar (nq 3 (by omega)) (nq 4 (by omega)) (nq 5 (by omega)) (nq 2 (by omega)) _ tb 0 tc _ W hok (fun W' hb' => variable_any h ctx op n h1 h2 h3 xb xc tb tc W' (hnx hb') (by omega) (hsl.next hb'))
    | con s h1 h2 =>
      have e : kindF K (m + 1) (.mk 2 0 s []) ctx ar = constantT K.env s ar := by
        show (if (2 : Int) = 2 then constantT K.env s ar else varT K ctx 2 0) = _
        rw [if_pos rfl]
      rw [e]
      obtain ⟨tb, tc, ev, _, _⟩ := hv
      subst ev
      exact kind_con _ _ _ _ 0 ar _ tb 0 tc _ W hok (fun W' hb' => constant_any K.env s ar _ _ _ _ W' (fun g hg => Nat.lt_of_lt_of_le hg (hnx hb').size) (h.goodf s) (fun W2 hb2 => h.find s W2 ((hnx hb').trans (hb2.mono (hnx hb').size))))
    | node op f x hop hf hx =>
      rw [nodes_node] at hn
      have hnf := nodes_pos f
      have hnxx := nodes_pos x
      have hcx0 : ∀ W' xv, Below W.heap.size W W' → V W' x xv → Calls Try.prog 18 #[wkV E mb K.metas.length mc rb K.rigids.length rc xb ctx.length xc, xv, .int .i64 0] W' (KndO (· < w0.heap.size) (kindF K m x ctx 0) W') := fun W' xv hb' hxv => ih x ctx 0 xb xc xv W' hx (by omega) (by omega) hcx (by omega) (hnx hb') (hsl.next hb') hxv
      have hcf0 : ∀ W' fv, Below W.heap.size W W' → V W' f fv → Calls Try.prog 18 #[wkV E mb K.metas.length mc rb K.rigids.length rc xb ctx.length xc, fv, .int .i64 0] W' (KndO (· < w0.heap.size) (kindF K m f ctx 0) W') := fun W' fv hb' hfv => ih f ctx 0 xb xc fv W' hf (by omega) (by omega) hcx (by omega) (hnx hb') (hsl.next hb') hfv
      rcases hop with rfl | rfl | rfl
      · by_cases hq : ar = 0 ∧ isAppl (.mk 3 0 [] [f, x]) [126] = true
        · obtain ⟨rfl, hia⟩ := hq
          obtain ⟨q, a, r, ht, hgq, hga, hgr⟩ := isAppl_form (.node 3 f x (.inl rfl) hf hx) hia
          injection ht with _ _ _ ht
          injection ht with h1 ht
          injection ht with h2 _
          subst h1
          subst h2
          rw [nodes_node] at hn
          have hnq := nodes_pos q
          have e : kindF K (m + 1) (.mk 3 0 [] [.mk 3 0 [] [q, a], x]) ctx 0 = eqnT (kindF K m a ctx 0) (kindF K m x ctx 0) := by
            rw [kindF_node, if_pos rfl, if_pos ⟨rfl, hia⟩]
            rfl
          rw [e]
          exact kind_eqn _ _ _ _ q a x _ _ (.node 3 _ x (.inl rfl) (.node 3 q a (.inl rfl) hgq hga) hx) hia v W hv (fun W' av hb' hav => ih a ctx 0 xb xc av W' hga (by omega) (by omega) hcx (by omega) (hnx hb') (hsl.next hb') hav) hcx0
        · have e : kindF K (m + 1) (.mk 3 0 [] [f, x]) ctx ar = appliedT (kindF K m f ctx (ar + 1)) x (kindF K m x ctx 0) := by
            rw [kindF_node, if_pos rfl, if_neg hq]
          rw [e]
          exact kind_app _ _ _ _ f x _ _ ar (by omega) hf hx hq v W hok hv (fun W' fv hb' hfv => ih f ctx (ar + 1) xb xc fv W' hf (by omega) (by omega) hcx (by omega) (hnx hb') (hsl.next hb') hfv) hcx0
      · have e : kindF K (m + 1) (.mk 4 0 [] [f, x]) ctx ar = mustT (kindF K m f ctx 0) tType (mustT (kindF K m x (ctx ++ [f]) 0) tType (.ok tType)) := by
          rw [kindF_node, if_neg (by decide), if_pos rfl]
        rw [e]
        refine kind_all _ _ _ _ f x _ _ ar v W hv hcf0 (fun u W' => ∃ b c, u = .slice b (ctx.length + 1) c ∧ ctx.length + 1 ≤ c ∧ Sl W' b (ctx ++ [f])) (fun W1 W2 u hb' ⟨b, c, h1, h2, h3⟩ => ⟨b, c, h1, h2, h3.next hb'⟩)
          (fun W' fv hb' hfv => (h.within ctx xb xc f fv W' (by omega) hcx (hsl.next hb') hfv).mono fun e w' ⟨h1, b, c, h2, h3, h4⟩ => ⟨h1, _, h2, b, c, rfl, h3, h4⟩) ?_
        rintro W' xv u hb' ⟨b, c, rfl, hc, hs⟩ hxv
        have hl : (ctx ++ [f]).length = ctx.length + 1 := by simp
        have := ih x (ctx ++ [f]) 0 b c xv W' hx (by omega) (by omega) (by omega) (by omega) (hnx hb') hs hxv
        rw [hl] at this
        exact this
      · have e : kindF K (m + 1) (.mk 5 0 [] [f, x]) ctx ar = mustT (kindF K m f ctx 0) tConstraint (mustT (kindF K m x ctx 0) tType (.ok tType)) := by
          rw [kindF_node, if_neg (by decide), if_neg (by decide)]
        rw [e]
        exact kind_imp _ _ _ _ f x _ _ ar v W hv hcf0 hcx0
end
end Ty
end Go.Proofs.Ytfjgebdpbmnicaa
