/- What the walker's kind returns for an implication. Conditions: what kind does with its parts. -/
import Derived.Test.YtfjgebdpbmnicaaJ34
import Derived.Test.YtfjgebdpbmnicaaJ27
namespace Go.Proofs.Ytfjgebdpbmnicaa
open Go.RowKit

namespace Ty

set_option maxHeartbeats 8000000 in
theorem kind_imp {ok : Nat → Prop} (a0 a1 a2 a3 : Value) (f x : Ty) (rf rx : Res) (ar : Int) (v : Value) (w : World) (hv : V w (.mk 5 0 [] [f, x]) v)
    (hcf : ∀ W fv, Below w.heap.size w W → V W f fv → Calls Try.prog 18 #[.agg #[a0, a1, a2, a3], fv, .int .i64 0] W (KndO ok rf W))
    (hcx : ∀ W xv, Below w.heap.size w W → V W x xv → Calls Try.prog 18 #[.agg #[a0, a1, a2, a3], xv, .int .i64 0] W (KndO ok rx W)) :
    Calls Try.prog 18 #[.agg #[a0, a1, a2, a3], v, .int .i64 ar] w (KndO ok (mustT rf tConstraint (mustT rx tType (.ok tType))) w) := by
  obtain ⟨T, hT⟩ : ∃ T, T = mustT rf tConstraint (mustT rx tType (.ok tType)) := ⟨_, rfl⟩
  rw [← hT]
  have HTA := Lib.hid hT
  clear hT
  obtain ⟨tb, tc, ev, _, hl, h4⟩ := hv
  rcases h4 with h4 | ⟨g, o, rfl, hrow⟩
  · cases h4
  obtain ⟨hrf, hrx, _⟩ := hrow
  obtain ⟨fb, fc, f0, f1, f2, f3, hvf⟩ := at_v hrf
  obtain ⟨xb, xc, x0, x1, x2, x3, hvx⟩ := at_v hrx
  have HVF := Lib.hid hvf
  have HVX := Lib.hid hvx
  have F0 := Lib.hid f0
  have F1 := Lib.hid f1
  have F2 := Lib.hid f2
  have F3 := Lib.hid f3
  have X0 := Lib.hid x0
  have X1 := Lib.hid x1
  have X2 := Lib.hid x2
  have X3 := Lib.hid x3
  replace ev : v = .agg #[.int .i64 5, .int .i64 0, .string ⟨#[]⟩, .slice (some ⟨g, o, none⟩) 2 tc] := ev
  subst ev
  have HCF := Lib.hid hcf
  have HCX := Lib.hid hcx
  have HM := Lib.hid (Va3.new w a0 a1 a2 a3 (.int .i64 5) (.int .i64 0) (.string ⟨#[]⟩) (.slice (some ⟨g, o, none⟩) 2 tc))
  clear hcf hcx hrf hrx hvf hvx f0 f1 f2 f3 x0 x1 x2 x3 hl
  go_enter Try.func18, Try.ntmps18
  go_upto_region 1 with fail
  obtain ⟨W1, hW1⟩ : ∃ W1, W1 = ((w.alloc (Obj.cells #[a0, a1, a2, a3] 61)).alloc (Obj.cells #[.int .i64 5, .int .i64 0, .string ⟨#[]⟩, .slice (some ⟨g, o, none⟩) 2 tc] 36)).alloc (Obj.cells #[.int .i64 0, .int .i64 0, .string ⟨#[]⟩, .slice none 0 0] 36) := ⟨_, rfl⟩
  rw [← hW1] at HM ⊢
  clear hW1
  obtain ⟨t0, _, _, t3⟩ := HM.out.t.cells
  go_upto_region 12 with fail
  have hdrA := drew_below W1
  have HDA := Lib.hid HM.out.drew
  obtain ⟨pA0, pA1, pA2, pA3⟩ := HDA.out.wk.cells
  obtain ⟨_, _, _, pA4⟩ := HDA.out.t.cells
  have pA5 := keeps HDA.out.below _ _ F0.out
  have pA6 := keeps HDA.out.below _ _ F1.out
  have pA7 := keeps HDA.out.below _ _ F2.out
  have pA8 := keeps HDA.out.below _ _ F3.out
  go_region_held2 (fun W => W.cell? ⟨w.heap.size, 0, none⟩ = some a0 ∧ W.cell? ⟨w.heap.size, 1, none⟩ = some a1 ∧ W.cell? ⟨w.heap.size, 2, none⟩ = some a2 ∧ W.cell? ⟨w.heap.size, 3, none⟩ = some a3 ∧ W.cell? ⟨w.heap.size + 1, 3, none⟩ = some (.slice (some ⟨g, o, none⟩) 2 tc) ∧ W.cell? ⟨g, o, none⟩ = some (.int .i64 f.op) ∧ W.cell? ⟨g, o + 1, none⟩ = some (.int .i64 f.n) ∧ W.cell? ⟨g, o + 2, none⟩ = some (.string f.name) ∧ W.cell? ⟨g, o + 3, none⟩ = some (.slice fb f.args.length fc))
    (first | (with_reducible exact ⟨pA0, pA1, pA2, pA3, pA4, pA5, pA6, pA7, pA8⟩) | (with_reducible exact ⟨uA0, uA1, uA2, uA3, uA4, uA5, uA6, uA7, uA8⟩) | (with_reducible exact ⟨xA0, xA1, xA2, xA3, xA4, xA5, xA6, xA7, xA8⟩))
    (first
    | (go_at_call 31; refine (named_ex ⟨#[67, 111, 110, 115, 116, 114, 97, 105, 110, 116]⟩ _).mono ?_; rintro e w2A ⟨rfl, hb2⟩; have HM2A := Lib.hid (HDA.out.next hb2); have uA0 := keeps hb2 _ _ pA0; have uA1 := keeps hb2 _ _ pA1; have uA2 := keeps hb2 _ _ pA2; have uA3 := keeps hb2 _ _ pA3; have uA4 := keeps hb2 _ _ pA4; have uA5 := keeps hb2 _ _ pA5; have uA6 := keeps hb2 _ _ pA6; have uA7 := keeps hb2 _ _ pA7; have uA8 := keeps hb2 _ _ pA8; clear hb2)
    | (go_at_call 46; refine (kmust_any (ok := ok) a0 a1 a2 a3 _ _ _ _ rf (conT bConstraint) _ _ (v_con bConstraint (by decide) _) (fun W hb => HCF.out W _ (HM2A.out.below.trans (hb.mono HM2A.out.below.size)) (HVF.out.next (HM2A.out.below.trans (hb.mono HM2A.out.below.size))))).mono ?_; rintro e w3A ⟨hb3, hor⟩; rcases hor with ⟨n, hr, hn, rfl⟩ | ⟨k', hr, rfl⟩; exact ⟨rfl, knd_fail (HTA.out.trans (must_zero hr)) hn (HM2A.out.below.trans (hb3.mono HM2A.out.below.size))⟩; have HRA := Lib.hid hr; have HMA := Lib.hid (HM2A.out.next hb3); have xA0 := keeps hb3 _ _ uA0; have xA1 := keeps hb3 _ _ uA1; have xA2 := keeps hb3 _ _ uA2; have xA3 := keeps hb3 _ _ uA3; have xA4 := keeps hb3 _ _ uA4; have xA5 := keeps hb3 _ _ uA5; have xA6 := keeps hb3 _ _ uA6; have xA7 := keeps hb3 _ _ uA7; have xA8 := keeps hb3 _ _ uA8; clear hb3 hr))
  rename_i hS
  clear hS pA0 pA1 pA2 pA3 pA4 pA5 pA6 pA7 pA8 uA0 uA1 uA2 uA3 uA4 uA5 uA6 uA7 uA8 xA0 xA1 xA2 xA3 xA4 xA5 xA6 xA7 xA8 hdrA HDA HM2A
  have HTB := Lib.hid (HTA.out.trans (must_next HRA.out))
  go_upto_region 13 with fail
  have hdrB := drew_below w3A
  have HDB := Lib.hid HMA.out.drew
  obtain ⟨pB0, pB1, pB2, pB3⟩ := HDB.out.wk.cells
  obtain ⟨_, _, _, pB4⟩ := HDB.out.t.cells
  have pB5 := keeps HDB.out.below _ _ X0.out
  have pB6 := keeps HDB.out.below _ _ X1.out
  have pB7 := keeps HDB.out.below _ _ X2.out
  have pB8 := keeps HDB.out.below _ _ X3.out
  go_region_held2 (fun W => W.cell? ⟨w.heap.size, 0, none⟩ = some a0 ∧ W.cell? ⟨w.heap.size, 1, none⟩ = some a1 ∧ W.cell? ⟨w.heap.size, 2, none⟩ = some a2 ∧ W.cell? ⟨w.heap.size, 3, none⟩ = some a3 ∧ W.cell? ⟨w.heap.size + 1, 3, none⟩ = some (.slice (some ⟨g, o, none⟩) 2 tc) ∧ W.cell? ⟨g, o + 4, none⟩ = some (.int .i64 x.op) ∧ W.cell? ⟨g, o + 4 + 1, none⟩ = some (.int .i64 x.n) ∧ W.cell? ⟨g, o + 4 + 2, none⟩ = some (.string x.name) ∧ W.cell? ⟨g, o + 4 + 3, none⟩ = some (.slice xb x.args.length xc))
    (first | (with_reducible exact ⟨pB0, pB1, pB2, pB3, pB4, pB5, pB6, pB7, pB8⟩) | (with_reducible exact ⟨uB0, uB1, uB2, uB3, uB4, uB5, uB6, uB7, uB8⟩) | (with_reducible exact ⟨xB0, xB1, xB2, xB3, xB4, xB5, xB6, xB7, xB8⟩))
    (first
    | (go_at_call 31; refine (named_ex ⟨#[84, 121, 112, 101]⟩ _).mono ?_; rintro e w2B ⟨rfl, hb2⟩; have HM2B := Lib.hid (HDB.out.next hb2); have uB0 := keeps hb2 _ _ pB0; have uB1 := keeps hb2 _ _ pB1; have uB2 := keeps hb2 _ _ pB2; have uB3 := keeps hb2 _ _ pB3; have uB4 := keeps hb2 _ _ pB4; have uB5 := keeps hb2 _ _ pB5; have uB6 := keeps hb2 _ _ pB6; have uB7 := keeps hb2 _ _ pB7; have uB8 := keeps hb2 _ _ pB8; clear hb2)
    | (go_at_call 46; refine (kmust_any (ok := ok) a0 a1 a2 a3 _ _ _ _ rx (conT bType) _ _ (v_con bType (by decide) _) (fun W hb => HCX.out W _ (HM2B.out.below.trans (hb.mono HM2B.out.below.size)) (HVX.out.next (HM2B.out.below.trans (hb.mono HM2B.out.below.size))))).mono ?_; rintro e w3B ⟨hb3, hor⟩; rcases hor with ⟨n, hr, hn, rfl⟩ | ⟨k', hr, rfl⟩; exact ⟨rfl, knd_fail (HTB.out.trans (must_zero hr)) hn (HM2B.out.below.trans (hb3.mono HM2B.out.below.size))⟩; have HRB := Lib.hid hr; have HMB := Lib.hid (HM2B.out.next hb3); have xB0 := keeps hb3 _ _ uB0; have xB1 := keeps hb3 _ _ uB1; have xB2 := keeps hb3 _ _ uB2; have xB3 := keeps hb3 _ _ uB3; have xB4 := keeps hb3 _ _ uB4; have xB5 := keeps hb3 _ _ uB5; have xB6 := keeps hb3 _ _ uB6; have xB7 := keeps hb3 _ _ uB7; have xB8 := keeps hb3 _ _ uB8; clear hb3 hr))
  rename_i hS
  clear hS pB0 pB1 pB2 pB3 pB4 pB5 pB6 pB7 pB8 uB0 uB1 uB2 uB3 uB4 uB5 uB6 uB7 uB8 xB0 xB1 xB2 xB3 xB4 xB5 xB6 xB7 xB8 hdrB HDB HM2B
  have HTC := Lib.hid (HTB.out.trans (must_next HRB.out))
  go_wp2_with fail
  refine (named_ex ⟨#[84, 121, 112, 101]⟩ _).mono ?_
  rintro e w9 ⟨rfl, hb9⟩
  have HM9 := Lib.hid (HMB.out.next hb9)
  clear hb9
  obtain ⟨z0, z1, z2, z3⟩ := HM9.out.r.cells
  have g0 := HM9.out.r.frozen 0
  have g1 := HM9.out.r.frozen 1
  have g2 := HM9.out.r.frozen 2
  have g3 := HM9.out.r.frozen 3
  go_wp2_with fail
  refine bodyPost_ret (results_ty (a := 6) (by kernel_rfl) (B := w.heap.size + 2) (by rfl) (put4_cells HM9.out.r _ _ _ _).cells.1 (put4_cells HM9.out.r _ _ _ _).cells.2.1 (put4_cells HM9.out.r _ _ _ _).cells.2.2.1 (put4_cells HM9.out.r _ _ _ _).cells.2.2.2) rfl ?_
  exact ⟨below_put4 HM9.out.below (by omega) _ _ _ _, .inr ⟨tType, _, HTC.out, Good.con _ (by decide) (by decide), rfl, ⟨none, 0, rfl, by decide, Nat.zero_le _, .inl rfl⟩⟩⟩

end Ty
end Go.Proofs.Ytfjgebdpbmnicaa

/- What the walker's kind returns for a forall. Conditions: what kind does with its parts, and within. -/
namespace Go.Proofs.Ytfjgebdpbmnicaa
open Go.RowKit

namespace Ty
theorem ka_next {w W W' : World} {a0 a1 a2 a3 f0 f1 f2 f3 x0 x1 x2 x3 : Value} {g o tc : Nat} (h : Hid (Below w.heap.size w W) ∧ Hid (Va3 w W a0 a1 a2 a3 (.int .i64 4) (.int .i64 0) (.string ⟨#[]⟩) (.slice (some ⟨g, o, none⟩) 2 tc)) ∧ W.cell? ⟨w.heap.size, 0, none⟩ = some a0 ∧ W.cell? ⟨w.heap.size, 1, none⟩ = some a1 ∧ W.cell? ⟨w.heap.size, 2, none⟩ = some a2 ∧ W.cell? ⟨w.heap.size, 3, none⟩ = some a3 ∧ W.cell? ⟨w.heap.size + 1, 3, none⟩ = some (.slice (some ⟨g, o, none⟩) 2 tc) ∧ W.cell? ⟨g, o, none⟩ = some f0 ∧ W.cell? ⟨g, o + 1, none⟩ = some f1 ∧ W.cell? ⟨g, o + 2, none⟩ = some f2 ∧ W.cell? ⟨g, o + 3, none⟩ = some f3 ∧ W.cell? ⟨g, o + 4, none⟩ = some x0 ∧ W.cell? ⟨g, o + 4 + 1, none⟩ = some x1 ∧ W.cell? ⟨g, o + 4 + 2, none⟩ = some x2 ∧ W.cell? ⟨g, o + 4 + 3, none⟩ = some x3) (hb : Below W.heap.size W W') : Hid (Below w.heap.size w W') ∧ Hid (Va3 w W' a0 a1 a2 a3 (.int .i64 4) (.int .i64 0) (.string ⟨#[]⟩) (.slice (some ⟨g, o, none⟩) 2 tc)) ∧ W'.cell? ⟨w.heap.size, 0, none⟩ = some a0 ∧ W'.cell? ⟨w.heap.size, 1, none⟩ = some a1 ∧ W'.cell? ⟨w.heap.size, 2, none⟩ = some a2 ∧ W'.cell? ⟨w.heap.size, 3, none⟩ = some a3 ∧ W'.cell? ⟨w.heap.size + 1, 3, none⟩ = some (.slice (some ⟨g, o, none⟩) 2 tc) ∧ W'.cell? ⟨g, o, none⟩ = some f0 ∧ W'.cell? ⟨g, o + 1, none⟩ = some f1 ∧ W'.cell? ⟨g, o + 2, none⟩ = some f2 ∧ W'.cell? ⟨g, o + 3, none⟩ = some f3 ∧ W'.cell? ⟨g, o + 4, none⟩ = some x0 ∧ W'.cell? ⟨g, o + 4 + 1, none⟩ = some x1 ∧ W'.cell? ⟨g, o + 4 + 2, none⟩ = some x2 ∧ W'.cell? ⟨g, o + 4 + 3, none⟩ = some x3 := by
  obtain ⟨hz, h0, h1, h2, h3, h4, h5, h6, h7, h8, h9, hA, hB, hC, hD⟩ := h
  exact ⟨Lib.hid (h0.out.next hb).below, Lib.hid (h0.out.next hb), keeps hb _ _ h1, keeps hb _ _ h2, keeps hb _ _ h3, keeps hb _ _ h4, keeps hb _ _ h5, keeps hb _ _ h6, keeps hb _ _ h7, keeps hb _ _ h8, keeps hb _ _ h9, keeps hb _ _ hA, keeps hb _ _ hB, keeps hb _ _ hC, keeps hb _ _ hD⟩

set_option maxHeartbeats 8000000 in
theorem kind_all {ok : Nat → Prop} (a0 a1 a2 a3 : Value) (f x : Ty) (rf rx : Res) (ar : Int) (v : Value) (w : World) (hv : V w (.mk 4 0 [] [f, x]) v)
    (hcf : ∀ W fv, Below w.heap.size w W → V W f fv → Calls Try.prog 18 #[.agg #[a0, a1, a2, a3], fv, .int .i64 0] W (KndO ok rf W))
    (PW : Value → World → Prop) (hPW : ∀ W W' u, Below W.heap.size W W' → PW u W → PW u W')
    (hwi : ∀ W fv, Below w.heap.size w W → V W f fv → Calls Try.prog 48 #[.agg #[a0, a1, a2, a3], fv] W fun e w' => Below W.heap.size W w' ∧ ∃ u, e = .returned (.agg #[a0, a1, a2, u]) ∧ PW u w')
    (hcx : ∀ W xv u, Below w.heap.size w W → PW u W → V W x xv → Calls Try.prog 18 #[.agg #[a0, a1, a2, u], xv, .int .i64 0] W (KndO ok rx W)) :
    Calls Try.prog 18 #[.agg #[a0, a1, a2, a3], v, .int .i64 ar] w (KndO ok (mustT rf tType (mustT rx tType (.ok tType))) w) := by
  obtain ⟨T, hT⟩ : ∃ T, T = mustT rf tType (mustT rx tType (.ok tType)) := ⟨_, rfl⟩
  rw [← hT]
  have HTA := Lib.hid hT
  clear hT
  obtain ⟨tb, tc, ev, _, hl, h4⟩ := hv
  rcases h4 with h4 | ⟨g, o, rfl, hrow⟩
  · cases h4
  obtain ⟨hrf, hrx, _⟩ := hrow
  obtain ⟨fb, fc, f0, f1, f2, f3, hvf⟩ := at_v hrf
  obtain ⟨xb, xc, x0, x1, x2, x3, hvx⟩ := at_v hrx
  have HVF := Lib.hid hvf
  have HVX := Lib.hid hvx
  have F0 := Lib.hid f0
  have F1 := Lib.hid f1
  have F2 := Lib.hid f2
  have F3 := Lib.hid f3
  have X0 := Lib.hid x0
  have X1 := Lib.hid x1
  have X2 := Lib.hid x2
  have X3 := Lib.hid x3
  replace ev : v = .agg #[.int .i64 4, .int .i64 0, .string ⟨#[]⟩, .slice (some ⟨g, o, none⟩) 2 tc] := ev
  subst ev
  have HCF := Lib.hid hcf
  have HCX := Lib.hid hcx
  have HWI := Lib.hid hwi
  have HNX := Lib.hid hPW
  have HM := Lib.hid (Va3.new w a0 a1 a2 a3 (.int .i64 4) (.int .i64 0) (.string ⟨#[]⟩) (.slice (some ⟨g, o, none⟩) 2 tc))
  clear hcf hcx hwi hPW hrf hrx hvf hvx f0 f1 f2 f3 x0 x1 x2 x3 hl
  go_enter Try.func18, Try.ntmps18
  go_upto_region 1 with fail
  obtain ⟨W1, hW1⟩ : ∃ W1, W1 = ((w.alloc (Obj.cells #[a0, a1, a2, a3] 61)).alloc (Obj.cells #[.int .i64 4, .int .i64 0, .string ⟨#[]⟩, .slice (some ⟨g, o, none⟩) 2 tc] 36)).alloc (Obj.cells #[.int .i64 0, .int .i64 0, .string ⟨#[]⟩, .slice none 0 0] 36) := ⟨_, rfl⟩
  rw [← hW1] at HM ⊢
  clear hW1
  obtain ⟨t0, _, _, t3⟩ := HM.out.t.cells
  go_upto_region 8 with fail
  have hdrA := drew_below W1
  have HDA := Lib.hid HM.out.drew
  obtain ⟨pA0, pA1, pA2, pA3⟩ := HDA.out.wk.cells
  obtain ⟨_, _, _, pA4⟩ := HDA.out.t.cells
  have pA5 := keeps HDA.out.below _ _ F0.out
  have pA6 := keeps HDA.out.below _ _ F1.out
  have pA7 := keeps HDA.out.below _ _ F2.out
  have pA8 := keeps HDA.out.below _ _ F3.out
  go_region_held2 (fun W => W.cell? ⟨w.heap.size, 0, none⟩ = some a0 ∧ W.cell? ⟨w.heap.size, 1, none⟩ = some a1 ∧ W.cell? ⟨w.heap.size, 2, none⟩ = some a2 ∧ W.cell? ⟨w.heap.size, 3, none⟩ = some a3 ∧ W.cell? ⟨w.heap.size + 1, 3, none⟩ = some (.slice (some ⟨g, o, none⟩) 2 tc) ∧ W.cell? ⟨g, o, none⟩ = some (.int .i64 f.op) ∧ W.cell? ⟨g, o + 1, none⟩ = some (.int .i64 f.n) ∧ W.cell? ⟨g, o + 2, none⟩ = some (.string f.name) ∧ W.cell? ⟨g, o + 3, none⟩ = some (.slice fb f.args.length fc))
    (first | (with_reducible exact ⟨pA0, pA1, pA2, pA3, pA4, pA5, pA6, pA7, pA8⟩) | (with_reducible exact ⟨uA0, uA1, uA2, uA3, uA4, uA5, uA6, uA7, uA8⟩) | (with_reducible exact ⟨xA0, xA1, xA2, xA3, xA4, xA5, xA6, xA7, xA8⟩))
    (first
    | (go_at_call 31; refine (named_ex ⟨#[84, 121, 112, 101]⟩ _).mono ?_; rintro e w2A ⟨rfl, hb2⟩; have HM2A := Lib.hid (HDA.out.next hb2); have uA0 := keeps hb2 _ _ pA0; have uA1 := keeps hb2 _ _ pA1; have uA2 := keeps hb2 _ _ pA2; have uA3 := keeps hb2 _ _ pA3; have uA4 := keeps hb2 _ _ pA4; have uA5 := keeps hb2 _ _ pA5; have uA6 := keeps hb2 _ _ pA6; have uA7 := keeps hb2 _ _ pA7; have uA8 := keeps hb2 _ _ pA8; clear hb2)
    | (go_at_call 46; refine (kmust_any (ok := ok) a0 a1 a2 a3 _ _ _ _ rf (conT bType) _ _ (v_con bType (by decide) _) (fun W hb => HCF.out W _ (HM2A.out.below.trans (hb.mono HM2A.out.below.size)) (HVF.out.next (HM2A.out.below.trans (hb.mono HM2A.out.below.size))))).mono ?_; rintro e w3A ⟨hb3, hor⟩; rcases hor with ⟨n, hr, hn, rfl⟩ | ⟨k', hr, rfl⟩; exact ⟨rfl, knd_fail (HTA.out.trans (must_zero hr)) hn (HM2A.out.below.trans (hb3.mono HM2A.out.below.size))⟩; have HRA := Lib.hid hr; have HMA := Lib.hid (HM2A.out.next hb3); have xA0 := keeps hb3 _ _ uA0; have xA1 := keeps hb3 _ _ uA1; have xA2 := keeps hb3 _ _ uA2; have xA3 := keeps hb3 _ _ uA3; have xA4 := keeps hb3 _ _ uA4; have xA5 := keeps hb3 _ _ uA5; have xA6 := keeps hb3 _ _ uA6; have xA7 := keeps hb3 _ _ uA7; have xA8 := keeps hb3 _ _ uA8; clear hb3 hr))
  rename_i hS
  clear hS pA0 pA1 pA2 pA3 pA4 pA5 pA6 pA7 pA8 uA0 uA1 uA2 uA3 uA4 uA5 uA6 uA7 uA8 xA0 xA1 xA2 xA3 xA4 xA5 xA6 xA7 xA8 hdrA HDA HM2A
  have HTB := Lib.hid (HTA.out.trans (must_next HRA.out))
  go_upto_region 9 with fail
  have HS0 := Lib.hid (ka_next (f0 := .int .i64 f.op) (f1 := .int .i64 f.n) (f2 := .string f.name) (f3 := .slice fb f.args.length fc) (x0 := .int .i64 x.op) (x1 := .int .i64 x.n) (x2 := .string x.name) (x3 := .slice xb x.args.length xc) ⟨Lib.hid HMA.out.below, HMA, HMA.out.wk.cells.1, HMA.out.wk.cells.2.1, HMA.out.wk.cells.2.2.1, HMA.out.wk.cells.2.2.2, HMA.out.t.cells.2.2.2, keeps HMA.out.below _ _ F0.out, keeps HMA.out.below _ _ F1.out, keeps HMA.out.below _ _ F2.out, keeps HMA.out.below _ _ F3.out, keeps HMA.out.below _ _ X0.out, keeps HMA.out.below _ _ X1.out, keeps HMA.out.below _ _ X2.out, keeps HMA.out.below _ _ X3.out⟩ (drew_below _))
  go_region_held2 (fun W => Hid (Below w.heap.size w W) ∧ Hid (Va3 w W a0 a1 a2 a3 (.int .i64 4) (.int .i64 0) (.string ⟨#[]⟩) (.slice (some ⟨g, o, none⟩) 2 tc)) ∧ W.cell? ⟨w.heap.size, 0, none⟩ = some a0 ∧ W.cell? ⟨w.heap.size, 1, none⟩ = some a1 ∧ W.cell? ⟨w.heap.size, 2, none⟩ = some a2 ∧ W.cell? ⟨w.heap.size, 3, none⟩ = some a3 ∧ W.cell? ⟨w.heap.size + 1, 3, none⟩ = some (.slice (some ⟨g, o, none⟩) 2 tc) ∧ W.cell? ⟨g, o, none⟩ = some (.int .i64 f.op) ∧ W.cell? ⟨g, o + 1, none⟩ = some (.int .i64 f.n) ∧ W.cell? ⟨g, o + 2, none⟩ = some (.string f.name) ∧ W.cell? ⟨g, o + 3, none⟩ = some (.slice fb f.args.length fc) ∧ W.cell? ⟨g, o + 4, none⟩ = some (.int .i64 x.op) ∧ W.cell? ⟨g, o + 4 + 1, none⟩ = some (.int .i64 x.n) ∧ W.cell? ⟨g, o + 4 + 2, none⟩ = some (.string x.name) ∧ W.cell? ⟨g, o + 4 + 3, none⟩ = some (.slice xb x.args.length xc))
    (first | (with_reducible exact HS0.out) | (with_reducible assumption) | (with_reducible exact ka_next (by assumption) hb48) | (with_reducible exact ka_next (by assumption) hb31) | (with_reducible exact ka_next (by assumption) hb46))
    (first
    | (go_at_call 48; refine (HWI.out _ _ (Hid.out (And.left (by assumption))) (HVF.out.next (Hid.out (And.left (by assumption))))).mono ?_; rintro e w48 ⟨hb48, u, rfl, hpw⟩; have HPW := Lib.hid hpw; clear hpw)
    | (go_at_call 31; refine (named_ex ⟨#[84, 121, 112, 101]⟩ _).mono ?_; rintro e w31 ⟨rfl, hb31⟩)
    | (go_at_call 46; refine (kmust_any (ok := ok) a0 a1 a2 u _ _ _ _ rx (conT bType) _ _ (v_con bType (by decide) _) (fun W hb => HCX.out W _ _ (Below.trans (Hid.out (And.left (by assumption))) (hb.mono (Below.size (Hid.out (And.left (by assumption)))))) (HNX.out _ _ _ hb (by first | exact HPW.out | exact HNX.out _ _ _ hb31 HPW.out)) (HVX.out.next (Below.trans (Hid.out (And.left (by assumption))) (hb.mono (Below.size (Hid.out (And.left (by assumption))))))))).mono ?_; rintro e w46 ⟨hb46, hor⟩; rcases hor with ⟨n, hr, hn, rfl⟩ | ⟨k', hr, rfl⟩; exact ⟨rfl, knd_fail (HTB.out.trans (must_zero hr)) hn (Below.trans (Hid.out (And.left (by assumption))) (hb46.mono (Below.size (Hid.out (And.left (by assumption))))))⟩; have HRB := Lib.hid hr; clear hr))
  all_goals
    rename_i hS
    have HMB := Lib.hid hS.2.1.out
    have HTC := Lib.hid (HTB.out.trans (must_next HRB.out))
    clear hS hb48 hb31 hb46 HS0
    go_wp2_with fail
    refine (named_ex ⟨#[84, 121, 112, 101]⟩ _).mono ?_
    rintro e w9 ⟨rfl, hb9⟩
    have HM9 := Lib.hid (HMB.out.next hb9)
    clear hb9
    obtain ⟨z0, z1, z2, z3⟩ := HM9.out.r.cells
    have g0 := HM9.out.r.frozen 0
    have g1 := HM9.out.r.frozen 1
    have g2 := HM9.out.r.frozen 2
    have g3 := HM9.out.r.frozen 3
    go_wp2_with fail
    refine bodyPost_ret (results_ty (a := 6) (by kernel_rfl) (B := w.heap.size + 2) (by rfl) (put4_cells HM9.out.r _ _ _ _).cells.1 (put4_cells HM9.out.r _ _ _ _).cells.2.1 (put4_cells HM9.out.r _ _ _ _).cells.2.2.1 (put4_cells HM9.out.r _ _ _ _).cells.2.2.2) rfl ?_
    exact ⟨below_put4 HM9.out.below (by omega) _ _ _ _, .inr ⟨tType, _, HTC.out, Good.con _ (by decide) (by decide), rfl, ⟨none, 0, rfl, by decide, Nat.zero_le _, .inl rfl⟩⟩⟩

end Ty
end Go.Proofs.Ytfjgebdpbmnicaa
