/- What KindMore returns: true. Conditions: the arguments lie in memory; what Constant, Kind and awake return; not too many declarations. -/
import Derived.Test.YtfjgebdpbmnicaaJ48
import Derived.Deep.RegionHeld3
import Derived.Deep.DeepCutAuto
import Derived.IntWalk
namespace Go.Proofs.Ytfjgebdpbmnicaa
open Go.RowKit

namespace Ty
/-- beside a type a family's last slice -/
def FamX (w : World) (b o : Nat) (d : PFam) : Prop := FamAt w b o d ∧ ∃ xb xn xc, w.cell? ⟨b, o + 6, none⟩ = some (.slice xb xn xc)
def DataX (w : World) (b o : Nat) (d : PData) : Prop := DataAt w b o d ∧ ∃ xb xn xc nw, w.cell? ⟨b, o + 5, none⟩ = some (.slice xb xn xc) ∧ w.cell? ⟨b, o + 6, none⟩ = some (.bool nw)
theorem FamX.next {w w' : World} (hb : Below w.heap.size w w') {b o : Nat} {d : PFam} (h : FamX w b o d) : FamX w' b o d := by
  obtain ⟨h1, xb, xn, xc, h2⟩ := h
  exact ⟨h1.next hb, xb, xn, xc, keeps hb _ _ h2⟩
theorem DataX.next {w w' : World} (hb : Below w.heap.size w w') {b o : Nat} {d : PData} (h : DataX w b o d) : DataX w' b o d := by
  obtain ⟨h1, xb, xn, xc, nw, h2, h3⟩ := h
  exact ⟨h1.next hb, xb, xn, xc, nw, keeps hb _ _ h2, keeps hb _ _ h3⟩
theorem bad20 {r : Res} {k : Ty} {n : Int} (h : r.is k n) : (n = 20 ∧ r = .bad 20) ∨ n ≠ 20 := by
  cases r with
  | ok k' => exact .inr (by rw [h.2]; decide)
  | bad c =>
    by_cases hc : c = 20
    · exact .inl ⟨by rw [h.2.1, hc], by rw [hc]⟩
    · exact .inr (by rw [h.2.1]; exact hc)
theorem res_ok {r : Res} {k : Ty} {n : Int} (h : r.is k n) : (n = 0 ∧ r = .ok k) ∨ n ≠ 0 := by
  cases r with
  | ok k' => exact .inl ⟨h.2, by rw [h.1]⟩
  | bad c => exact .inr (by rw [h.2.1]; exact h.2.2)

/-- the three boxes of the arguments -/
structure MB (w : World) (wh : Array Value) (t : Ty) (tb : Option Addr) (tl tc : Nat) (mo : Array Value) (W : World) : Prop where
  below : Below w.heap.size w W
  wh : W.heap[w.heap.size]? = some (Obj.cells wh 34)
  ty : B4 W (w.heap.size + 1) (.int .i64 t.op) (.int .i64 t.n) (.string t.name) (.slice tb tl tc)
  mo : W.heap[w.heap.size + 2]? = some (Obj.cells mo 29)
theorem MB.next {w W W' : World} {wh : Array Value} {t : Ty} {tb : Option Addr} {tl tc : Nat} {mo : Array Value} (h : MB w wh t tb tl tc mo W) (hb : Below W.heap.size W W') : MB w wh t tb tl tc mo W' :=
  ⟨h.below.trans (hb.mono h.below.size), (hb.block _ (lt_of_block h.wh)).trans h.wh, h.ty.next hb, (hb.block _ (lt_of_block h.mo)).trans h.mo⟩

def ldm0 : Oper := { dst := some 78, op := Op.load 22 (Operand.tmp 77), type := 22, pos := "law.go:154", after := #[{ on := 1, ground := Ground.data }], guard := none }
theorem ldm0_eq : ldm0 = { dst := some 78, op := Op.load 22 (Operand.tmp 77), type := 22, pos := "law.go:154", after := #[{ on := 1, ground := Ground.data }], guard := none } := rfl
def ldm1 : Oper := { dst := some 86, op := Op.load 23 (Operand.tmp 85), type := 23, pos := "law.go:155", after := #[{ on := 1, ground := Ground.data }], guard := none }
theorem ldm1_eq : ldm1 = { dst := some 86, op := Op.load 23 (Operand.tmp 85), type := 23, pos := "law.go:155", after := #[{ on := 1, ground := Ground.data }], guard := none } := rfl
def ldm2 : Oper := { dst := some 94, op := Op.load 24 (Operand.tmp 93), type := 24, pos := "law.go:156", after := #[{ on := 1, ground := Ground.data }], guard := none }
theorem ldm2_eq : ldm2 = { dst := some 94, op := Op.load 24 (Operand.tmp 93), type := 24, pos := "law.go:156", after := #[{ on := 1, ground := Ground.data }], guard := none } := rfl
def ldm3 : Oper := { dst := some 102, op := Op.load 25 (Operand.tmp 101), type := 25, pos := "law.go:157", after := #[{ on := 1, ground := Ground.data }], guard := none }
theorem ldm3_eq : ldm3 = { dst := some 102, op := Op.load 25 (Operand.tmp 101), type := 25, pos := "law.go:157", after := #[{ on := 1, ground := Ground.data }], guard := none } := rfl
theorem own_drew {W : World} {base e sz : Nat} {ov : Value} {n : Nat} {xs : List Value} (h : W.ownsRow base e sz ov n xs) : W.drew.ownsRow base e sz ov n xs := h
theorem mb_grown {w W W' : World} {E : Nat} {wh : Array Value} {t : Ty} {tb : Option Addr} {tl tc : Nat} {mo : Array Value} (h : MB w wh t tb tl tc mo W) (hg : W.grownBy W' (some E)) (hE : w.heap.size + 2 < E) : MB w wh t tb tl tc mo W' :=
  ⟨below_grown h.below hg (by omega), (hg.block _ (lt_of_block h.wh) (fun e => by injection e; omega)).trans h.wh, b4_grown h.ty hg (by omega), (hg.block _ (lt_of_block h.mo) (fun e => by injection e; omega)).trans h.mo⟩
set_option maxRecDepth 100000 in
set_option maxHeartbeats 16000000 in
theorem more_walk (env M : PEnv) (t : Ty) (R R2 : Res) (b0 b1 b2 b3 b4 b5 m0 m1 m2 m3 m4 m5 xb mb rb tb : Option Addr) (n0 n1 n2 n3 n4 n5 c0 c1 c2 c3 c4 c5 k0 k1 k2 k3 k4 k5 e0 e1 e2 e3 e4 e5 xl ml rl xc mc rc tc : Nat) (vd0 vd1 vd2 vd3 ve0 ve1 ve2 ve3 : List Value) (w : World)
    (hl0 : env.data.length = n0) (hl1 : env.cons.length = n1) (hl2 : env.fams.length = n2) (hl3 : env.clss.length = n3) (hk0 : M.data.length = k0) (hk1 : M.cons.length = k1) (hk2 : M.fams.length = k2) (hk3 : M.clss.length = k3)
    (hE : EnvS w b0 b1 b2 b3 env) (hM : EnvS w m0 m1 m2 m3 M) (hMX : SlG 7 FamX w m2 M.fams) (hDX : SlG 7 DataX w m0 M.data)
    (r0 : RawAt w b0 n0 7 vd0) (r1 : RawAt w b1 n1 8 vd1) (r2 : RawAt w b2 n2 7 vd2) (r3 : RawAt w b3 n3 5 vd3) (q0 : RawAt w m0 k0 7 ve0) (q1 : RawAt w m1 k1 8 ve1) (q2 : RawAt w m2 k2 7 ve2) (q3 : RawAt w m3 k3 5 ve3)
    (hs0 : n0 + k0 ≤ 3000000) (hs1 : n1 + k1 ≤ 3000000) (hs2 : n2 + k2 ≤ 3000000) (hs3 : n3 + k3 ≤ 3000000)
    (ht : V w t (.agg #[.int .i64 t.op, .int .i64 t.n, .string t.name, .slice tb t.args.length tc]))
    (hconst : ∀ W, Below w.heap.size w W → ∀ s : List UInt8, Calls Try.prog 4 #[.agg #[.slice b0 n0 c0, .slice b1 n1 c1, .slice b2 n2 c2, .slice b3 n3 c3, .slice b4 n4 c4, .slice b5 n5 c5], .string ⟨s.toArray⟩] W (CstO (findT env s).1 W))
    (hkind : ∀ W, Below w.heap.size w W → Calls Try.prog 6 #[.agg #[.slice b0 n0 c0, .slice b1 n1 c1, .slice b2 n2 c2, .slice b3 n3 c3, .slice b4 n4 c4, .slice b5 n5 c5], .slice mb ml mc, .slice rb rl rc, .slice xb xl xc, .agg #[.int .i64 t.op, .int .i64 t.n, .string t.name, .slice tb t.args.length tc]] W (TopO R W))
    (hkind2 : ∀ (a0 a1 a2 a3 : Option Addr) (g0 g1 g2 g3 : Nat) W, Below w.heap.size w W → EnvS W a0 a1 a2 a3 (envApp env M) → Calls Try.prog 6 #[.agg #[.slice a0 (n0 + k0) g0, .slice a1 (n1 + k1) g1, .slice a2 (n2 + k2) g2, .slice a3 (n3 + k3) g3, .slice b4 n4 c4, .slice b5 n5 c5], .slice mb ml mc, .slice rb rl rc, .slice xb xl xc, .agg #[.int .i64 t.op, .int .i64 t.n, .string t.name, .slice tb t.args.length tc]] W (TopO R2 W))
    (hlaw : (∀ f ∈ M.fams, (findT env f.name).1 = .bad 20) → (∀ d ∈ M.data, (findT env d.name).1 = .bad 20) → ∀ k, R = .ok k → R2 = .ok k)
    (haw : ∀ W, Below w.heap.size w W → Calls Try.prog 5 #[] W fun e w' => e = .returned (.bool true) ∧ Below W.heap.size W w') :
    Calls Try.prog 3 #[.agg #[.slice b0 n0 c0, .slice b1 n1 c1, .slice b2 n2 c2, .slice b3 n3 c3, .slice b4 n4 c4, .slice b5 n5 c5, .slice mb ml mc, .slice rb rl rc, .slice xb xl xc], .agg #[.int .i64 t.op, .int .i64 t.n, .string t.name, .slice tb t.args.length tc], .agg #[.slice m0 k0 e0, .slice m1 k1 e1, .slice m2 k2 e2, .slice m3 k3 e3, .slice m4 k4 e4, .slice m5 k5 e5]] w fun e w' => e = .returned (.bool true) ∧ Below w.heap.size w w' := by
  obtain ⟨_, x1, x2, x3, x4⟩ : True ∧ (((w.alloc (Obj.cells #[.slice b0 n0 c0, .slice b1 n1 c1, .slice b2 n2 c2, .slice b3 n3 c3, .slice b4 n4 c4, .slice b5 n5 c5, .slice mb ml mc, .slice rb rl rc, .slice xb xl xc] 34)).alloc (Obj.cells #[.int .i64 t.op, .int .i64 t.n, .string t.name, .slice tb t.args.length tc] 36)).alloc (Obj.cells #[.slice m0 k0 e0, .slice m1 k1 e1, .slice m2 k2 e2, .slice m3 k3 e3, .slice m4 k4 e4, .slice m5 k5 e5] 29)).heap[w.heap.size]? = some (Obj.cells #[.slice b0 n0 c0, .slice b1 n1 c1, .slice b2 n2 c2, .slice b3 n3 c3, .slice b4 n4 c4, .slice b5 n5 c5, .slice mb ml mc, .slice rb rl rc, .slice xb xl xc] 34) ∧ (((w.alloc (Obj.cells #[.slice b0 n0 c0, .slice b1 n1 c1, .slice b2 n2 c2, .slice b3 n3 c3, .slice b4 n4 c4, .slice b5 n5 c5, .slice mb ml mc, .slice rb rl rc, .slice xb xl xc] 34)).alloc (Obj.cells #[.int .i64 t.op, .int .i64 t.n, .string t.name, .slice tb t.args.length tc] 36)).alloc (Obj.cells #[.slice m0 k0 e0, .slice m1 k1 e1, .slice m2 k2 e2, .slice m3 k3 e3, .slice m4 k4 e4, .slice m5 k5 e5] 29)).heap[w.heap.size + 1]? = some (Obj.cells #[.int .i64 t.op, .int .i64 t.n, .string t.name, .slice tb t.args.length tc] 36) ∧ (((w.alloc (Obj.cells #[.slice b0 n0 c0, .slice b1 n1 c1, .slice b2 n2 c2, .slice b3 n3 c3, .slice b4 n4 c4, .slice b5 n5 c5, .slice mb ml mc, .slice rb rl rc, .slice xb xl xc] 34)).alloc (Obj.cells #[.int .i64 t.op, .int .i64 t.n, .string t.name, .slice tb t.args.length tc] 36)).alloc (Obj.cells #[.slice m0 k0 e0, .slice m1 k1 e1, .slice m2 k2 e2, .slice m3 k3 e3, .slice m4 k4 e4, .slice m5 k5 e5] 29)).heap[w.heap.size + 2]? = some (Obj.cells #[.slice m0 k0 e0, .slice m1 k1 e1, .slice m2 k2 e2, .slice m3 k3 e3, .slice m4 k4 e4, .slice m5 k5 e5] 29) ∧ Below w.heap.size w (((w.alloc (Obj.cells #[.slice b0 n0 c0, .slice b1 n1 c1, .slice b2 n2 c2, .slice b3 n3 c3, .slice b4 n4 c4, .slice b5 n5 c5, .slice mb ml mc, .slice rb rl rc, .slice xb xl xc] 34)).alloc (Obj.cells #[.int .i64 t.op, .int .i64 t.n, .string t.name, .slice tb t.args.length tc] 36)).alloc (Obj.cells #[.slice m0 k0 e0, .slice m1 k1 e1, .slice m2 k2 e2, .slice m3 k3 e3, .slice m4 k4 e4, .slice m5 k5 e5] 29)) := by
    exact ⟨trivial, three_boxes w (Obj.cells #[.slice b0 n0 c0, .slice b1 n1 c1, .slice b2 n2 c2, .slice b3 n3 c3, .slice b4 n4 c4, .slice b5 n5 c5, .slice mb ml mc, .slice rb rl rc, .slice xb xl xc] 34) (Obj.cells #[.int .i64 t.op, .int .i64 t.n, .string t.name, .slice tb t.args.length tc] 36) (Obj.cells #[.slice m0 k0 e0, .slice m1 k1 e1, .slice m2 k2 e2, .slice m3 k3 e3, .slice m4 k4 e4, .slice m5 k5 e5] 29)⟩
  have HMB := Lib.hid (show MB w #[.slice b0 n0 c0, .slice b1 n1 c1, .slice b2 n2 c2, .slice b3 n3 c3, .slice b4 n4 c4, .slice b5 n5 c5, .slice mb ml mc, .slice rb rl rc, .slice xb xl xc] t tb t.args.length tc #[.slice m0 k0 e0, .slice m1 k1 e1, .slice m2 k2 e2, .slice m3 k3 e3, .slice m4 k4 e4, .slice m5 k5 e5] (((w.alloc (Obj.cells #[.slice b0 n0 c0, .slice b1 n1 c1, .slice b2 n2 c2, .slice b3 n3 c3, .slice b4 n4 c4, .slice b5 n5 c5, .slice mb ml mc, .slice rb rl rc, .slice xb xl xc] 34)).alloc (Obj.cells #[.int .i64 t.op, .int .i64 t.n, .string t.name, .slice tb t.args.length tc] 36)).alloc (Obj.cells #[.slice m0 k0 e0, .slice m1 k1 e1, .slice m2 k2 e2, .slice m3 k3 e3, .slice m4 k4 e4, .slice m5 k5 e5] 29)) from ⟨x4, x1, x2, x3⟩)
  have HE := Lib.hid hE
  have HM := Lib.hid hM
  have HMX := Lib.hid hMX
  have HDX := Lib.hid hDX
  have HR0 := Lib.hid r0
  have HR1 := Lib.hid r1
  have HR2 := Lib.hid r2
  have HR3 := Lib.hid r3
  have HQ0 := Lib.hid q0
  have HQ1 := Lib.hid q1
  have HQ2 := Lib.hid q2
  have HQ3 := Lib.hid q3
  have HS0 := Lib.hid hs0
  have HS1 := Lib.hid hs1
  have HS2 := Lib.hid hs2
  have HS3 := Lib.hid hs3
  have HL0 := Lib.hid hl0
  have HL1 := Lib.hid hl1
  have HL2 := Lib.hid hl2
  have HL3 := Lib.hid hl3
  have HK0 := Lib.hid hk0
  have HK1 := Lib.hid hk1
  have HK2 := Lib.hid hk2
  have HK3 := Lib.hid hk3
  have HT := Lib.hid ht
  have HCONST := Lib.hid hconst
  have HKIND := Lib.hid hkind
  have HKIND2 := Lib.hid hkind2
  have HLAW := Lib.hid hlaw
  have HAW := Lib.hid haw
  have hb0 : k0 ≤ 3000000 := by omega
  have hb2 : k2 ≤ 3000000 := by omega
  clear x1 x2 x3 x4 hE hM hMX hDX r0 r1 r2 r3 q0 q1 q2 q3 hs0 hs1 hs2 hs3 hl0 hl1 hl2 hl3 hk0 hk1 hk2 hk3 ht hconst hkind hkind2 hlaw haw
  generalize t.args.length = tl at *
  go_enter Try.func3, Try.ntmps3
  go_upto_region 1 with fail
  obtain ⟨W0, hW0⟩ : ∃ W0, W0 = ((w.alloc (Obj.cells #[.slice b0 n0 c0, .slice b1 n1 c1, .slice b2 n2 c2, .slice b3 n3 c3, .slice b4 n4 c4, .slice b5 n5 c5, .slice mb ml mc, .slice rb rl rc, .slice xb xl xc] 34)).alloc (Obj.cells #[.int .i64 t.op, .int .i64 t.n, .string t.name, .slice tb tl tc] 36)).alloc (Obj.cells #[.slice m0 k0 e0, .slice m1 k1 e1, .slice m2 k2 e2, .slice m3 k3 e3, .slice m4 k4 e4, .slice m5 k5 e5] 29) := ⟨_, rfl⟩
  rw [← hW0] at HMB ⊢
  clear hW0

  have u0 := cell_of_row _ (w.heap.size + 2) 0 _ 29 (0, 0) HMB.out.mo
  have u1 := cell_of_row _ (w.heap.size + 2) 1 _ 29 (0, 0) HMB.out.mo
  have u2 := cell_of_row _ (w.heap.size + 2) 2 _ 29 (0, 0) HMB.out.mo
  have u3 := cell_of_row _ (w.heap.size + 2) 3 _ 29 (0, 0) HMB.out.mo
  go_wp2_with fail
  go_loopw [23] (fun i wr => ∃ j : Nat, j ≤ k2 ∧ i = .int .i64 j ∧ Hid (MB w #[.slice b0 n0 c0, .slice b1 n1 c1, .slice b2 n2 c2, .slice b3 n3 c3, .slice b4 n4 c4, .slice b5 n5 c5, .slice mb ml mc, .slice rb rl rc, .slice xb xl xc] t tb tl tc #[.slice m0 k0 e0, .slice m1 k1 e1, .slice m2 k2 e2, .slice m3 k3 e3, .slice m4 k4 e4, .slice m5 k5 e5] wr) ∧ Hid (∀ p (h : p < M.fams.length), p < j → (findT env (M.fams[p]'h).name).1 = .bad 20)) (fun i _ => k2 - (intOf i).toNat)
  case atStart => exact ⟨0, Nat.zero_le _, rfl, HMB, Lib.hid (fun p _ h => absurd h (Nat.not_lt_zero _))⟩
  case round =>
    obtain ⟨j, hj, rfl, HMW, HALL⟩ := hrel
    by_cases hlt : j < k2
    · have h1 : j < M.fams.length := by rw [HK2.out]; exact hlt
      rcases HMX.out.2 with h0 | ⟨g, oo, rfl, hrow⟩
      · exact absurd h0 (List.ne_nil_of_length_pos (by omega))
      obtain ⟨⟨f0, fl, fat, f5⟩, fb, fn, fc, f6⟩ := (hrow j h1).next HMW.out.below
      obtain ⟨vb, vc, f1, f2, f3, f4, fv⟩ := at_v fat
      have HCC := Lib.hid (fun W (hb : Below w.heap.size w W) => HCONST.out W hb (M.fams[j]'h1).name)
      have HNX := Lib.hid (fun (h : (findT env (M.fams[j]'h1).name).1 = .bad 20) (p : Nat) (h2 : p < M.fams.length) (h3 : p < j + 1) => show (findT env (M.fams[p]'h2).name).1 = .bad 20 from by
        by_cases hpj : p = j
        · subst hpj; exact h
        · exact HALL.out p h2 (by omega))
      obtain ⟨x, hx⟩ : ∃ x, x = M.fams[j]'h1 := ⟨_, rfl⟩
      rw [← hx] at f0 f1 f2 f3 f4 f5 HCC HNX
      clear hx fv fat fl hrow
      generalize (findT env x.name).1 = rr at *
      generalize hnm : (⟨x.name.toArray⟩ : ByteArray) = nm at *
      clear hnm
      generalize x.kind.op = ko at *
      generalize x.kind.n = kn at *
      generalize x.kind.name = ks at *
      generalize x.kind.args.length = kl at *
      generalize x.arity = ka at *
      have HMA := Lib.hid (HMW.out.next (show Below wr.heap.size wr (wr.alloc (Obj.cells #[.string nm, .int .i64 ko, .int .i64 kn, .string ks, .slice vb kl vc, .int .i64 ka, .slice fb fn fc] 39)) from (Below.refl _ _).alloc (Nat.le_refl _) _))
      have y0 := cell_of_row _ w.heap.size 0 _ 34 (0, 0) HMA.out.wh
      have y1 := cell_of_row _ w.heap.size 1 _ 34 (0, 0) HMA.out.wh
      have y2 := cell_of_row _ w.heap.size 2 _ 34 (0, 0) HMA.out.wh
      have y3 := cell_of_row _ w.heap.size 3 _ 34 (0, 0) HMA.out.wh
      have y4 := cell_of_row _ w.heap.size 4 _ 34 (0, 0) HMA.out.wh
      have y5 := cell_of_row _ w.heap.size 5 _ 34 (0, 0) HMA.out.wh
      go_wp2_with fail
      refine (HCC.out _ HMA.out.below).mono ?_
      rintro e w5 ⟨kk, n, v, hr, rfl, ⟨b9, c9, rfl, _, _⟩, hb5⟩
      have HM5 := Lib.hid (HMA.out.next hb5)
      clear hb5 y0 y1 y2 y3 y4 y5
      rcases bad20 hr with ⟨rfl, hrr⟩ | hne
      · have HRR := Lib.hid hrr
        clear hrr hr
        go_wp2_with fail
        go_roundw
        case rel => exact ⟨j + 1, by omega, by go_num, Lib.hid (HM5.out.next ((Below.refl _ _).alloc (Nat.le_refl _) _)), Lib.hid (HNX.out HRR.out)⟩
        case measure => simp [intOf]; omega
      · clear hr
        go_wp2_with fail
        refine (HAW.out _ (HM5.out.next ((Below.refl _ _).alloc (Nat.le_refl _) _)).below).mono ?_
        rintro e w6 ⟨rfl, hb6⟩
        have HB6 := Lib.hid ((HM5.out.next ((Below.refl _ _).alloc (Nat.le_refl _) _)).next hb6).below
        clear hb6
        go_wp2_with fail
        go_ret
        exact ⟨rfl, HB6.out⟩
    · have HALLX : Hid (∀ d ∈ M.fams, (findT env d.name).1 = .bad 20) := Lib.hid (fun d hd => by
        obtain ⟨p, hp, rfl⟩ := List.getElem_of_mem hd
        exact HALL.out p hp (by have := HK2.out; omega))

      have HFAMS := HALLX
      clear HALLX HALL u0 u1 u2 u3 HMB
      have HMB := HMW
      clear HMW

      have u0 := cell_of_row _ (w.heap.size + 2) 0 _ 29 (0, 0) HMB.out.mo
      have u1 := cell_of_row _ (w.heap.size + 2) 1 _ 29 (0, 0) HMB.out.mo
      have u2 := cell_of_row _ (w.heap.size + 2) 2 _ 29 (0, 0) HMB.out.mo
      have u3 := cell_of_row _ (w.heap.size + 2) 3 _ 29 (0, 0) HMB.out.mo
      go_wp2_with fail
      go_loopw [42] (fun i wr => ∃ j : Nat, j ≤ k0 ∧ i = .int .i64 j ∧ Hid (MB w #[.slice b0 n0 c0, .slice b1 n1 c1, .slice b2 n2 c2, .slice b3 n3 c3, .slice b4 n4 c4, .slice b5 n5 c5, .slice mb ml mc, .slice rb rl rc, .slice xb xl xc] t tb tl tc #[.slice m0 k0 e0, .slice m1 k1 e1, .slice m2 k2 e2, .slice m3 k3 e3, .slice m4 k4 e4, .slice m5 k5 e5] wr) ∧ Hid (∀ p (h : p < M.data.length), p < j → (findT env (M.data[p]'h).name).1 = .bad 20)) (fun i _ => k0 - (intOf i).toNat)
      case atStart => exact ⟨0, Nat.zero_le _, rfl, HMB, Lib.hid (fun p _ h => absurd h (Nat.not_lt_zero _))⟩
      case round =>
        obtain ⟨j, hj, rfl, HMW, HALL⟩ := hrel
        by_cases hlt : j < k0
        · have h1 : j < M.data.length := by rw [HK0.out]; exact hlt
          rcases HDX.out.2 with h0 | ⟨g, oo, rfl, hrow⟩
          · exact absurd h0 (List.ne_nil_of_length_pos (by omega))
          obtain ⟨⟨f0, fl, fat⟩, fb, fn, fc, nw, f5, f6⟩ := (hrow j h1).next HMW.out.below
          obtain ⟨vb, vc, f1, f2, f3, f4, fv⟩ := at_v fat
          have HCC := Lib.hid (fun W (hb : Below w.heap.size w W) => HCONST.out W hb (M.data[j]'h1).name)
          have HNX := Lib.hid (fun (h : (findT env (M.data[j]'h1).name).1 = .bad 20) (p : Nat) (h2 : p < M.data.length) (h3 : p < j + 1) => show (findT env (M.data[p]'h2).name).1 = .bad 20 from by
            by_cases hpj : p = j
            · subst hpj; exact h
            · exact HALL.out p h2 (by omega))
          obtain ⟨x, hx⟩ : ∃ x, x = M.data[j]'h1 := ⟨_, rfl⟩
          rw [← hx] at f0 f1 f2 f3 f4 HCC HNX
          clear hx fv fat fl hrow
          generalize (findT env x.name).1 = rr at *
          generalize hnm : (⟨x.name.toArray⟩ : ByteArray) = nm at *
          clear hnm
          generalize x.kind.op = ko at *
          generalize x.kind.n = kn at *
          generalize x.kind.name = ks at *
          generalize x.kind.args.length = kl at *
          have HMA := Lib.hid (HMW.out.next (show Below wr.heap.size wr (wr.alloc (Obj.cells #[.string nm, .int .i64 ko, .int .i64 kn, .string ks, .slice vb kl vc, .slice fb fn fc, .bool nw] 46)) from (Below.refl _ _).alloc (Nat.le_refl _) _))
          have y0 := cell_of_row _ w.heap.size 0 _ 34 (0, 0) HMA.out.wh
          have y1 := cell_of_row _ w.heap.size 1 _ 34 (0, 0) HMA.out.wh
          have y2 := cell_of_row _ w.heap.size 2 _ 34 (0, 0) HMA.out.wh
          have y3 := cell_of_row _ w.heap.size 3 _ 34 (0, 0) HMA.out.wh
          have y4 := cell_of_row _ w.heap.size 4 _ 34 (0, 0) HMA.out.wh
          have y5 := cell_of_row _ w.heap.size 5 _ 34 (0, 0) HMA.out.wh
          go_wp2_with fail
          refine (HCC.out _ HMA.out.below).mono ?_
          rintro e w5 ⟨kk, n, v, hr, rfl, ⟨b9, c9, rfl, _, _⟩, hb5⟩
          have HM5 := Lib.hid (HMA.out.next hb5)
          clear hb5 y0 y1 y2 y3 y4 y5
          rcases bad20 hr with ⟨rfl, hrr⟩ | hne
          · have HRR := Lib.hid hrr
            clear hrr hr
            go_wp2_with fail
            go_roundw
            case rel => exact ⟨j + 1, by omega, by go_num, Lib.hid (HM5.out.next ((Below.refl _ _).alloc (Nat.le_refl _) _)), Lib.hid (HNX.out HRR.out)⟩
            case measure => simp [intOf]; omega
          · clear hr
            go_wp2_with fail
            refine (HAW.out _ (HM5.out.next ((Below.refl _ _).alloc (Nat.le_refl _) _)).below).mono ?_
            rintro e w6 ⟨rfl, hb6⟩
            have HB6 := Lib.hid ((HM5.out.next ((Below.refl _ _).alloc (Nat.le_refl _) _)).next hb6).below
            clear hb6
            go_wp2_with fail
            go_ret
            exact ⟨rfl, HB6.out⟩
        · have HALLX : Hid (∀ d ∈ M.data, (findT env d.name).1 = .bad 20) := Lib.hid (fun d hd => by
            obtain ⟨p, hp, rfl⟩ := List.getElem_of_mem hd
            exact HALL.out p hp (by have := HK0.out; omega))

          have HDATA := HALLX
          clear HALLX HALL u0 u1 u2 u3 HMB
          have HMB := HMW
          clear HMW
          have y0 := cell_of_row _ w.heap.size 0 _ 34 (0, 0) HMB.out.wh
          have y1 := cell_of_row _ w.heap.size 1 _ 34 (0, 0) HMB.out.wh
          have y2 := cell_of_row _ w.heap.size 2 _ 34 (0, 0) HMB.out.wh
          have y3 := cell_of_row _ w.heap.size 3 _ 34 (0, 0) HMB.out.wh
          have y4 := cell_of_row _ w.heap.size 4 _ 34 (0, 0) HMB.out.wh
          have y5 := cell_of_row _ w.heap.size 5 _ 34 (0, 0) HMB.out.wh
          have y6 := cell_of_row _ w.heap.size 6 _ 34 (0, 0) HMB.out.wh
          have y7 := cell_of_row _ w.heap.size 7 _ 34 (0, 0) HMB.out.wh
          have y8 := cell_of_row _ w.heap.size 8 _ 34 (0, 0) HMB.out.wh
          obtain ⟨z0, z1, z2, z3⟩ := HMB.out.ty.cells
          go_wp2_with fail
          refine (HKIND.out _ HMB.out.below).mono ?_
          rintro e w5 ⟨kk, n, v, hr, rfl, hv, hb5⟩
          have HM5 := Lib.hid (HMB.out.next hb5)
          have HV5 := Lib.hid hv
          obtain ⟨b9, c9, rfl, _, _⟩ := hv
          clear hb5 y0 y1 y2 y3 y4 y5 y6 y7 y8 z0 z1 z2 z3
          have hal5 : Below w5.heap.size w5 (w5.alloc (Obj.cells #[.int .i64 kk.op, .int .i64 kk.n, .string kk.name, .slice b9 kk.args.length c9] 36)) := (Below.refl _ _).alloc (Nat.le_refl _) _
          have HMK := Lib.hid (HM5.out.next hal5)
          have HVK := Lib.hid (HV5.out.next hal5)
          have H15 := Lib.hid (show B4 (w5.alloc (Obj.cells #[.int .i64 kk.op, .int .i64 kk.n, .string kk.name, .slice b9 kk.args.length c9] 36)) w5.heap.size (.int .i64 kk.op) (.int .i64 kk.n) (.string kk.name) (.slice b9 kk.args.length c9) from heap_alloc_new _ _)
          clear hal5
          rcases res_ok hr with ⟨rfl, hrr⟩ | hne
          case inr =>
            clear hr
            go_wp2_with fail
            refine (HAW.out _ HMK.out.below).mono ?_
            rintro e w6 ⟨rfl, hb6⟩
            have HB6 := Lib.hid (HMK.out.next hb6).below
            clear hb6
            go_wp2_with fail
            go_ret
            exact ⟨rfl, HB6.out⟩
          have HRR := Lib.hid (HLAW.out HFAMS.out HDATA.out kk hrr)
          clear hr hrr HKIND HCONST HLAW HFAMS HDATA HM5 HV5 HMB HMX HDX
          have y0 := cell_of_row _ w.heap.size 0 _ 34 (0, 0) HMK.out.wh
          have y1 := cell_of_row _ w.heap.size 1 _ 34 (0, 0) HMK.out.wh
          have y2 := cell_of_row _ w.heap.size 2 _ 34 (0, 0) HMK.out.wh
          have y3 := cell_of_row _ w.heap.size 3 _ 34 (0, 0) HMK.out.wh
          have y4 := cell_of_row _ w.heap.size 4 _ 34 (0, 0) HMK.out.wh
          have y5 := cell_of_row _ w.heap.size 5 _ 34 (0, 0) HMK.out.wh
          go_upto_region 19 with fail
          obtain ⟨E2, hE2⟩ : ∃ E2, E2 = w5.heap.size + 1 := ⟨_, rfl⟩
          obtain ⟨MO, hMO⟩ : ∃ m, m = w.heap.size + 2 := ⟨_, rfl⟩
          obtain ⟨W5, hW5⟩ : ∃ W5, W5 = (w5.alloc (Obj.cells #[.int .i64 kk.op, .int .i64 kk.n, .string kk.name, .slice b9 kk.args.length c9] 36)).alloc (Obj.cells #[.slice b0 n0 c0, .slice b1 n1 c1, .slice b2 n2 c2, .slice b3 n3 c3, .slice b4 n4 c4, .slice b5 n5 c5] 29) := ⟨_, rfl⟩
          rw [← hW5, ← hE2]
          rw [show w.heap.size + 1 + 1 = MO from hMO.symm]
          have hal5 : Below (w5.alloc (Obj.cells #[.int .i64 kk.op, .int .i64 kk.n, .string kk.name, .slice b9 kk.args.length c9] 36)).heap.size (w5.alloc (Obj.cells #[.int .i64 kk.op, .int .i64 kk.n, .string kk.name, .slice b9 kk.args.length c9] 36)) W5 := by rw [hW5]; exact (Below.refl _ _).alloc (Nat.le_refl _) _
          have HMB := Lib.hid (HMK.out.next hal5)
          have H15 := Lib.hid (H15.out.next hal5)
          have HVO := Lib.hid (HVK.out.apart (B := E2) hal5 (by rw [hE2]; simp))
          have HX : Hid (B6 W5 E2 (.slice b0 n0 c0) (.slice b1 n1 c1) (.slice b2 n2 c2) (.slice b3 n3 c3) (.slice b4 n4 c4) (.slice b5 n5 c5)) := Lib.hid (by
            have h := heap_alloc_new (w5.alloc (Obj.cells #[.int .i64 kk.op, .int .i64 kk.n, .string kk.name, .slice b9 kk.args.length c9] 36)) (Obj.cells #[.slice b0 n0 c0, .slice b1 n1 c1, .slice b2 n2 c2, .slice b3 n3 c3, .slice b4 n4 c4, .slice b5 n5 c5] 29)
            rw [show (w5.alloc (Obj.cells #[.int .i64 kk.op, .int .i64 kk.n, .string kk.name, .slice b9 kk.args.length c9] 36)).heap.size = w5.heap.size + 1 from by simp] at h
            rw [hW5, hE2]
            exact h)
          have HW : Hid (w.heap.size + 2 < E2 ∧ w5.heap.size ≠ E2) := Lib.hid ⟨by have := lt_of_block HMK.out.mo; rw [hE2]; simp at this; omega, by omega⟩
          have HMO := Lib.hid hMO
          clear hal5 hW5 hE2 hMO HMK HVK y0 y1 y2 y3 y4 y5
          obtain ⟨W, hWW⟩ : ∃ W, W = W5 := ⟨_, rfl⟩
          rw [← hWW] at HMB H15 HVO HX ⊢
          clear hWW
          have hdr := drew_below W
          have HBX := Lib.hid (HX.out.next hdr)
          have HMD := Lib.hid (HMB.out.next hdr)
          have H15D := Lib.hid (H15.out.next hdr)
          have HVOD := Lib.hid (HVO.out.next hdr)
          have d0 : W.drew.cell? ⟨E2, 0, none⟩ = some (.slice b0 n0 c0) := HBX.out.cell 0
          have d1 : (W.alloc (Obj.cells #[] 46)).drew.cell? ⟨E2, 0, none⟩ = some (.slice b0 n0 c0) := keeps (below_da W _) _ _ d0
          have p0 : W.drew.cell? ⟨MO, 0, none⟩ = some (.slice m0 k0 e0) := by rw [HMO.out]; exact cell_of_row _ (w.heap.size + 2) 0 _ 29 (0, 0) HMD.out.mo
          have p1 : (W.alloc (Obj.cells #[] 46)).drew.cell? ⟨MO, 0, none⟩ = some (.slice m0 k0 e0) := keeps (below_da W _) _ _ p0
          have HRV := Lib.hid (HR0.out.next HMD.out.below)
          have HQV := Lib.hid (HQ0.out.next HMD.out.below)
          have HN1 : Hid (n0 * 104 ≤ 140737488355328 ∧ n0 ≤ maxLen ∧ (n0 + k0) * 104 ≤ 140737488355328 ∧ n0 + k0 ≤ maxLen) := Lib.hid (by have := HS0.out; unfold maxLen; omega)
          have HEL : Hid (E2 < W.drew.heap.size) := Lib.hid (lt_of_block HBX.out)
          have HNE : Hid (MO ≠ E2) := Lib.hid (by have := HMO.out; have := HW.out; omega)
          clear hdr HX HMB H15 HVO
          have hld0 := ldm0_eq
          rw [← ldm0_eq]
          go_cut [] from 76 to 83 (fun wx => ∃ bb cc, Hid (B6 wx E2  (.slice bb (n0 + k0) cc) (.slice b1 n1 c1) (.slice b2 n2 c2) (.slice b3 n3 c3) (.slice b4 n4 c4) (.slice b5 n5 c5)) ∧ Hid (wx.ownsRow W.drew.heap.size 46 7 (.slice bb (n0 + k0) cc) (n0 + k0) (vd0 ++ ve0)) ∧ Hid (W.drew.grownBy wx (some E2)))
          case first =>
            go_region_held3 (fun w' => w'.cell? ⟨MO, 0, none⟩ = some (.slice m0 k0 e0))
              (first | (with_reducible exact p0) | (with_reducible exact p1) | (with_reducible exact p7) | (with_reducible exact p8) | (with_reducible exact cell_set p8 HNE.out))
              (first
              | (refine step_app0 (w0 := W.drew) (by rfl) _ _ (by rfl) Try.underlying22 info46 rfl (by omega) (by rfl) (by first | exact own_d rfl (Nat.le_refl _)) (below_da W _) (by rfl) HRV.out HN1.out.1 HN1.out.2.1 ?_; intro b7 c7 w7 ho7 hb7; have HO7 := Lib.hid ho7; have HB7 := Lib.hid hb7; have p7 := keeps hb7 _ _ p0; clear ho7 hb7)
              | (refine step_appG (w0 := W.drew) (by rfl) _ _ (by rfl) Try.underlying22 info46 rfl (by omega) (by rfl) HO7.out HB7.out (by rfl) HQV.out HN1.out.2.2.1 HN1.out.2.2.2 ?_; intro b8 c8 w8 ho8 hb8; have HO8 := Lib.hid ho8; have HB8 := Lib.hid hb8; have p8 := keeps hb8 _ _ p0; have q8 := keeps hb8 _ _ d0; have f8 := (HBX.out.next hb8).frozen 0; clear ho8 hb8))
            all_goals
              rename_i hHeld
              clear hHeld
              go_wp2_with fail
              go_meet
              exact ⟨b8, c8, Lib.hid ((HBX.out.next HB8.out).set0 _), Lib.hid (own_set HO8.out _ HEL.out), Lib.hid (grown_set HB8.out _ _)⟩
          case rest =>
          obtain ⟨a0, g0, HX, HO0, HGR⟩ := hcut
          have HMB := Lib.hid (mb_grown HMD.out HGR.out HW.out.1)
          have H15 := Lib.hid (b4_grown H15D.out HGR.out HW.out.2)
          have HVO := Lib.hid (vo_grown HVOD.out HGR.out)
          have HB0 : Hid (E2 < W.drew.heap.size) := HEL
          obtain ⟨BB0, hBB⟩ : ∃ B, B = W.drew.heap.size := ⟨_, rfl⟩
          have HBB0 : Hid (E2 < BB0) := Lib.hid (by rw [hBB]; exact HEL.out)
          rw [← hBB] at HO0
          clear hBB HB0 HGR HBX HMD H15D HVOD HRV HQV HN1 HEL HNE d0 d1 p0 p1 hld0
          obtain ⟨W2, hW2⟩ : ∃ W2, W2 = wc := ⟨_, rfl⟩
          rw [← hW2] at HMB H15 HVO HX HO0 ⊢
          clear hW2 W
          obtain ⟨W, hWW⟩ : ∃ W, W = W2 := ⟨_, rfl⟩
          rw [← hWW] at HMB H15 HVO HX HO0 ⊢
          clear hWW W2
          go_upto_region 20 with fail
          have hdr := drew_below W
          have HBX := Lib.hid (HX.out.next hdr)
          have HMD := Lib.hid (HMB.out.next hdr)
          have H15D := Lib.hid (H15.out.next hdr)
          have HVOD := Lib.hid (HVO.out.next hdr)
          have d0 : W.drew.cell? ⟨E2, 1, none⟩ = some (.slice b1 n1 c1) := HBX.out.cell 1
          have d1 : (W.alloc (Obj.cells #[] 88)).drew.cell? ⟨E2, 1, none⟩ = some (.slice b1 n1 c1) := keeps (below_da W _) _ _ d0
          have p0 : W.drew.cell? ⟨MO, 1, none⟩ = some (.slice m1 k1 e1) := by rw [HMO.out]; exact cell_of_row _ (w.heap.size + 2) 1 _ 29 (0, 0) HMD.out.mo
          have p1 : (W.alloc (Obj.cells #[] 88)).drew.cell? ⟨MO, 1, none⟩ = some (.slice m1 k1 e1) := keeps (below_da W _) _ _ p0
          have HRV := Lib.hid (HR1.out.next HMD.out.below)
          have HQV := Lib.hid (HQ1.out.next HMD.out.below)
          have HN1 : Hid (n1 * 176 ≤ 140737488355328 ∧ n1 ≤ maxLen ∧ (n1 + k1) * 176 ≤ 140737488355328 ∧ n1 + k1 ≤ maxLen) := Lib.hid (by have := HS1.out; unfold maxLen; omega)
          have HEL : Hid (E2 < W.drew.heap.size) := Lib.hid (lt_of_block HBX.out)
          have HNE : Hid (MO ≠ E2) := Lib.hid (by have := HMO.out; have := HW.out; omega)
          clear hdr HX HMB H15 HVO
          have HOD0 := Lib.hid (own_drew HO0.out)
          clear HO0
          have hld1 := ldm1_eq
          rw [← ldm1_eq]
          go_cut [] from 84 to 91 (fun wx => ∃ bb cc, Hid (B6 wx E2 (.slice a0 (n0 + k0) g0) (.slice bb (n1 + k1) cc) (.slice b2 n2 c2) (.slice b3 n3 c3) (.slice b4 n4 c4) (.slice b5 n5 c5)) ∧ Hid (wx.ownsRow W.drew.heap.size 88 8 (.slice bb (n1 + k1) cc) (n1 + k1) (vd1 ++ ve1)) ∧ Hid (W.drew.grownBy wx (some E2)))
          case first =>
            go_region_held3 (fun w' => w'.cell? ⟨MO, 1, none⟩ = some (.slice m1 k1 e1))
              (first | (with_reducible exact p0) | (with_reducible exact p1) | (with_reducible exact p7) | (with_reducible exact p8) | (with_reducible exact cell_set p8 HNE.out))
              (first
              | (refine step_app0 (w0 := W.drew) (by rfl) _ _ (by rfl) Try.underlying23 info88 rfl (by omega) (by rfl) (by first | exact own_d rfl (Nat.le_refl _)) (below_da W _) (by rfl) HRV.out HN1.out.1 HN1.out.2.1 ?_; intro b7 c7 w7 ho7 hb7; have HO7 := Lib.hid ho7; have HB7 := Lib.hid hb7; have p7 := keeps hb7 _ _ p0; clear ho7 hb7)
              | (refine step_appG (w0 := W.drew) (by rfl) _ _ (by rfl) Try.underlying23 info88 rfl (by omega) (by rfl) HO7.out HB7.out (by rfl) HQV.out HN1.out.2.2.1 HN1.out.2.2.2 ?_; intro b8 c8 w8 ho8 hb8; have HO8 := Lib.hid ho8; have HB8 := Lib.hid hb8; have p8 := keeps hb8 _ _ p0; have q8 := keeps hb8 _ _ d0; have f8 := (HBX.out.next hb8).frozen 1; clear ho8 hb8))
            all_goals
              rename_i hHeld
              clear hHeld
              go_wp2_with fail
              go_meet
              exact ⟨b8, c8, Lib.hid ((HBX.out.next HB8.out).set1 _), Lib.hid (own_set HO8.out _ HEL.out), Lib.hid (grown_set HB8.out _ _)⟩
          case rest =>
          obtain ⟨a1, g1, HX, HO1, HGR⟩ := hcut
          have HMB := Lib.hid (mb_grown HMD.out HGR.out HW.out.1)
          have H15 := Lib.hid (b4_grown H15D.out HGR.out HW.out.2)
          have HVO := Lib.hid (vo_grown HVOD.out HGR.out)
          have HB1 : Hid (E2 < W.drew.heap.size) := HEL
          have HO0 := Lib.hid (own_grown HOD0.out HGR.out (fun r h => by injection h with h; rw [← h]; exact HBB0.out))
          obtain ⟨BB1, hBB⟩ : ∃ B, B = W.drew.heap.size := ⟨_, rfl⟩
          have HBB1 : Hid (E2 < BB1) := Lib.hid (by rw [hBB]; exact HEL.out)
          rw [← hBB] at HO1
          clear hBB HB1 HGR HBX HMD H15D HVOD HRV HQV HN1 HEL HNE d0 d1 p0 p1 hld1 HOD0
          obtain ⟨W2, hW2⟩ : ∃ W2, W2 = wc := ⟨_, rfl⟩
          rw [← hW2] at HMB H15 HVO HX HO0 HO1 ⊢
          clear hW2 W
          obtain ⟨W, hWW⟩ : ∃ W, W = W2 := ⟨_, rfl⟩
          rw [← hWW] at HMB H15 HVO HX HO0 HO1 ⊢
          clear hWW W2
          go_upto_region 21 with fail
          have hdr := drew_below W
          have HBX := Lib.hid (HX.out.next hdr)
          have HMD := Lib.hid (HMB.out.next hdr)
          have H15D := Lib.hid (H15.out.next hdr)
          have HVOD := Lib.hid (HVO.out.next hdr)
          have d0 : W.drew.cell? ⟨E2, 2, none⟩ = some (.slice b2 n2 c2) := HBX.out.cell 2
          have d1 : (W.alloc (Obj.cells #[] 39)).drew.cell? ⟨E2, 2, none⟩ = some (.slice b2 n2 c2) := keeps (below_da W _) _ _ d0
          have p0 : W.drew.cell? ⟨MO, 2, none⟩ = some (.slice m2 k2 e2) := by rw [HMO.out]; exact cell_of_row _ (w.heap.size + 2) 2 _ 29 (0, 0) HMD.out.mo
          have p1 : (W.alloc (Obj.cells #[] 39)).drew.cell? ⟨MO, 2, none⟩ = some (.slice m2 k2 e2) := keeps (below_da W _) _ _ p0
          have HRV := Lib.hid (HR2.out.next HMD.out.below)
          have HQV := Lib.hid (HQ2.out.next HMD.out.below)
          have HN1 : Hid (n2 * 104 ≤ 140737488355328 ∧ n2 ≤ maxLen ∧ (n2 + k2) * 104 ≤ 140737488355328 ∧ n2 + k2 ≤ maxLen) := Lib.hid (by have := HS2.out; unfold maxLen; omega)
          have HEL : Hid (E2 < W.drew.heap.size) := Lib.hid (lt_of_block HBX.out)
          have HNE : Hid (MO ≠ E2) := Lib.hid (by have := HMO.out; have := HW.out; omega)
          clear hdr HX HMB H15 HVO
          have HOD0 := Lib.hid (own_drew HO0.out)
          have HOD1 := Lib.hid (own_drew HO1.out)
          clear HO0 HO1
          have hld2 := ldm2_eq
          rw [← ldm2_eq]
          go_cut [] from 92 to 99 (fun wx => ∃ bb cc, Hid (B6 wx E2 (.slice a0 (n0 + k0) g0) (.slice a1 (n1 + k1) g1) (.slice bb (n2 + k2) cc) (.slice b3 n3 c3) (.slice b4 n4 c4) (.slice b5 n5 c5)) ∧ Hid (wx.ownsRow W.drew.heap.size 39 7 (.slice bb (n2 + k2) cc) (n2 + k2) (vd2 ++ ve2)) ∧ Hid (W.drew.grownBy wx (some E2)))
          case first =>
            go_region_held3 (fun w' => w'.cell? ⟨MO, 2, none⟩ = some (.slice m2 k2 e2))
              (first | (with_reducible exact p0) | (with_reducible exact p1) | (with_reducible exact p7) | (with_reducible exact p8) | (with_reducible exact cell_set p8 HNE.out))
              (first
              | (refine step_app0 (w0 := W.drew) (by rfl) _ _ (by rfl) Try.underlying24 info39 rfl (by omega) (by rfl) (by first | exact own_d rfl (Nat.le_refl _)) (below_da W _) (by rfl) HRV.out HN1.out.1 HN1.out.2.1 ?_; intro b7 c7 w7 ho7 hb7; have HO7 := Lib.hid ho7; have HB7 := Lib.hid hb7; have p7 := keeps hb7 _ _ p0; clear ho7 hb7)
              | (refine step_appG (w0 := W.drew) (by rfl) _ _ (by rfl) Try.underlying24 info39 rfl (by omega) (by rfl) HO7.out HB7.out (by rfl) HQV.out HN1.out.2.2.1 HN1.out.2.2.2 ?_; intro b8 c8 w8 ho8 hb8; have HO8 := Lib.hid ho8; have HB8 := Lib.hid hb8; have p8 := keeps hb8 _ _ p0; have q8 := keeps hb8 _ _ d0; have f8 := (HBX.out.next hb8).frozen 2; clear ho8 hb8))
            all_goals
              rename_i hHeld
              clear hHeld
              go_wp2_with fail
              go_meet
              exact ⟨b8, c8, Lib.hid ((HBX.out.next HB8.out).set2 _), Lib.hid (own_set HO8.out _ HEL.out), Lib.hid (grown_set HB8.out _ _)⟩
          case rest =>
          obtain ⟨a2, g2, HX, HO2, HGR⟩ := hcut
          have HMB := Lib.hid (mb_grown HMD.out HGR.out HW.out.1)
          have H15 := Lib.hid (b4_grown H15D.out HGR.out HW.out.2)
          have HVO := Lib.hid (vo_grown HVOD.out HGR.out)
          have HB2 : Hid (E2 < W.drew.heap.size) := HEL
          have HO0 := Lib.hid (own_grown HOD0.out HGR.out (fun r h => by injection h with h; rw [← h]; exact HBB0.out))
          have HO1 := Lib.hid (own_grown HOD1.out HGR.out (fun r h => by injection h with h; rw [← h]; exact HBB1.out))
          obtain ⟨BB2, hBB⟩ : ∃ B, B = W.drew.heap.size := ⟨_, rfl⟩
          have HBB2 : Hid (E2 < BB2) := Lib.hid (by rw [hBB]; exact HEL.out)
          rw [← hBB] at HO2
          clear hBB HB2 HGR HBX HMD H15D HVOD HRV HQV HN1 HEL HNE d0 d1 p0 p1 hld2 HOD0 HOD1
          obtain ⟨W2, hW2⟩ : ∃ W2, W2 = wc := ⟨_, rfl⟩
          rw [← hW2] at HMB H15 HVO HX HO0 HO1 HO2 ⊢
          clear hW2 W
          obtain ⟨W, hWW⟩ : ∃ W, W = W2 := ⟨_, rfl⟩
          rw [← hWW] at HMB H15 HVO HX HO0 HO1 HO2 ⊢
          clear hWW W2
          go_upto_region 22 with fail
          have hdr := drew_below W
          have HBX := Lib.hid (HX.out.next hdr)
          have HMD := Lib.hid (HMB.out.next hdr)
          have H15D := Lib.hid (H15.out.next hdr)
          have HVOD := Lib.hid (HVO.out.next hdr)
          have d0 : W.drew.cell? ⟨E2, 3, none⟩ = some (.slice b3 n3 c3) := HBX.out.cell 3
          have d1 : (W.alloc (Obj.cells #[] 81)).drew.cell? ⟨E2, 3, none⟩ = some (.slice b3 n3 c3) := keeps (below_da W _) _ _ d0
          have p0 : W.drew.cell? ⟨MO, 3, none⟩ = some (.slice m3 k3 e3) := by rw [HMO.out]; exact cell_of_row _ (w.heap.size + 2) 3 _ 29 (0, 0) HMD.out.mo
          have p1 : (W.alloc (Obj.cells #[] 81)).drew.cell? ⟨MO, 3, none⟩ = some (.slice m3 k3 e3) := keeps (below_da W _) _ _ p0
          have HRV := Lib.hid (HR3.out.next HMD.out.below)
          have HQV := Lib.hid (HQ3.out.next HMD.out.below)
          have HN1 : Hid (n3 * 112 ≤ 140737488355328 ∧ n3 ≤ maxLen ∧ (n3 + k3) * 112 ≤ 140737488355328 ∧ n3 + k3 ≤ maxLen) := Lib.hid (by have := HS3.out; unfold maxLen; omega)
          have HEL : Hid (E2 < W.drew.heap.size) := Lib.hid (lt_of_block HBX.out)
          have HNE : Hid (MO ≠ E2) := Lib.hid (by have := HMO.out; have := HW.out; omega)
          clear hdr HX HMB H15 HVO
          have HOD0 := Lib.hid (own_drew HO0.out)
          have HOD1 := Lib.hid (own_drew HO1.out)
          have HOD2 := Lib.hid (own_drew HO2.out)
          clear HO0 HO1 HO2
          have hld3 := ldm3_eq
          rw [← ldm3_eq]
          go_cut [] from 100 to 107 (fun wx => ∃ bb cc, Hid (B6 wx E2 (.slice a0 (n0 + k0) g0) (.slice a1 (n1 + k1) g1) (.slice a2 (n2 + k2) g2) (.slice bb (n3 + k3) cc) (.slice b4 n4 c4) (.slice b5 n5 c5)) ∧ Hid (wx.ownsRow W.drew.heap.size 81 5 (.slice bb (n3 + k3) cc) (n3 + k3) (vd3 ++ ve3)) ∧ Hid (W.drew.grownBy wx (some E2)))
          case first =>
            go_region_held3 (fun w' => w'.cell? ⟨MO, 3, none⟩ = some (.slice m3 k3 e3))
              (first | (with_reducible exact p0) | (with_reducible exact p1) | (with_reducible exact p7) | (with_reducible exact p8) | (with_reducible exact cell_set p8 HNE.out))
              (first
              | (refine step_app0 (w0 := W.drew) (by rfl) _ _ (by rfl) Try.underlying25 info81 rfl (by omega) (by rfl) (by first | exact own_d rfl (Nat.le_refl _)) (below_da W _) (by rfl) HRV.out HN1.out.1 HN1.out.2.1 ?_; intro b7 c7 w7 ho7 hb7; have HO7 := Lib.hid ho7; have HB7 := Lib.hid hb7; have p7 := keeps hb7 _ _ p0; clear ho7 hb7)
              | (refine step_appG (w0 := W.drew) (by rfl) _ _ (by rfl) Try.underlying25 info81 rfl (by omega) (by rfl) HO7.out HB7.out (by rfl) HQV.out HN1.out.2.2.1 HN1.out.2.2.2 ?_; intro b8 c8 w8 ho8 hb8; have HO8 := Lib.hid ho8; have HB8 := Lib.hid hb8; have p8 := keeps hb8 _ _ p0; have q8 := keeps hb8 _ _ d0; have f8 := (HBX.out.next hb8).frozen 3; clear ho8 hb8))
            all_goals
              rename_i hHeld
              clear hHeld
              go_wp2_with fail
              go_meet
              exact ⟨b8, c8, Lib.hid ((HBX.out.next HB8.out).set3 _), Lib.hid (own_set HO8.out _ HEL.out), Lib.hid (grown_set HB8.out _ _)⟩
          case rest =>
          obtain ⟨a3, g3, HX, HO3, HGR⟩ := hcut
          have HMB := Lib.hid (mb_grown HMD.out HGR.out HW.out.1)
          have H15 := Lib.hid (b4_grown H15D.out HGR.out HW.out.2)
          have HVO := Lib.hid (vo_grown HVOD.out HGR.out)
          have HB3 : Hid (E2 < W.drew.heap.size) := HEL
          have HO0 := Lib.hid (own_grown HOD0.out HGR.out (fun r h => by injection h with h; rw [← h]; exact HBB0.out))
          have HO1 := Lib.hid (own_grown HOD1.out HGR.out (fun r h => by injection h with h; rw [← h]; exact HBB1.out))
          have HO2 := Lib.hid (own_grown HOD2.out HGR.out (fun r h => by injection h with h; rw [← h]; exact HBB2.out))
          obtain ⟨BB3, hBB⟩ : ∃ B, B = W.drew.heap.size := ⟨_, rfl⟩
          have HBB3 : Hid (E2 < BB3) := Lib.hid (by rw [hBB]; exact HEL.out)
          rw [← hBB] at HO3
          clear hBB HB3 HGR HBX HMD H15D HVOD HRV HQV HN1 HEL HNE d0 d1 p0 p1 hld3 HOD0 HOD1 HOD2
          obtain ⟨W2, hW2⟩ : ∃ W2, W2 = wc := ⟨_, rfl⟩
          rw [← hW2] at HMB H15 HVO HX HO0 HO1 HO2 HO3 ⊢
          clear hW2 W
          obtain ⟨W, hWW⟩ : ∃ W, W = W2 := ⟨_, rfl⟩
          rw [← hWW] at HMB H15 HVO HX HO0 HO1 HO2 HO3 ⊢
          clear hWW W2
          have HEA : Hid (EnvS W a0 a1 a2 a3 (envApp env M)) := Lib.hid ⟨app_base copy_data HL0.out HK0.out HE.out.data HR0.out HM.out.data HQ0.out HO0.out HMB.out.below HS0.out, app_base copy_con HL1.out HK1.out HE.out.cons HR1.out HM.out.cons HQ1.out HO1.out HMB.out.below HS1.out, app_base copy_fam HL2.out HK2.out HE.out.fams HR2.out HM.out.fams HQ2.out HO2.out HMB.out.below HS2.out, app_base copy_cls HL3.out HK3.out HE.out.clss HR3.out HM.out.clss HQ3.out HO3.out HMB.out.below HS3.out⟩
          clear HO0 HO1 HO2 HO3 HE HM HR0 HR1 HR2 HR3 HQ0 HQ1 HQ2 HQ3
          have y6 := cell_of_row _ w.heap.size 6 _ 34 (0, 0) HMB.out.wh
          have y7 := cell_of_row _ w.heap.size 7 _ 34 (0, 0) HMB.out.wh
          have y8 := cell_of_row _ w.heap.size 8 _ 34 (0, 0) HMB.out.wh
          have x0 := HX.out.cell 0
          have x1 := HX.out.cell 1
          have x2 := HX.out.cell 2
          have x3 := HX.out.cell 3
          have x4 := HX.out.cell 4
          have x5 := HX.out.cell 5
          obtain ⟨z0, z1, z2, z3⟩ := HMB.out.ty.cells
          go_wp2_with fail
          refine (HKIND2.out a0 a1 a2 a3 g0 g1 g2 g3 _ HMB.out.below HEA.out).mono ?_
          rintro e w6 ⟨kx, nx, v2, hr2, rfl, hv2, hb6⟩
          rw [HRR.out] at hr2
          obtain ⟨rfl, rfl⟩ := hr2
          have HV2 := Lib.hid hv2
          obtain ⟨bx, cx, rfl, _, _⟩ := hv2
          have hal6 : Below w6.heap.size w6 (w6.alloc (Obj.cells #[.int .i64 kx.op, .int .i64 kx.n, .string kx.name, .slice bx kx.args.length cx] 36)) := (Below.refl _ _).alloc (Nat.le_refl _) _
          have hb7 := hb6.trans (hal6.mono hb6.size)
          have HB7 := Lib.hid (HMB.out.below.trans (hb7.mono HMB.out.below.size))
          have H15N := Lib.hid (H15.out.next hb7)
          have HVN := Lib.hid (HVO.out.weak.next hb7)
          have HVM := Lib.hid (HV2.out.next hal6)
          obtain ⟨v0, v1, v2, v3⟩ := H15N.out.cells
          clear hb6 hal6 hb7 x0 x1 x2 x3 x4 x5 y6 y7 y8 z0 z1 z2 z3 HKIND2 HEA HX H15 HVO HV2
          go_wp2_with fail
          refine (rsame_any kx kx _ _ _ HVN.out HVM.out).mono ?_
          rintro e w7 ⟨he, hb7⟩
          rw [same_self] at he
          subst he
          have HB8 := Lib.hid (HB7.out.trans (hb7.mono HB7.out.size))
          clear hb7
          go_wp2_with fail
          refine (HAW.out _ HB8.out).mono ?_
          rintro e w8 ⟨rfl, hb8⟩
          have HB9 := Lib.hid (HB8.out.trans (hb8.mono HB8.out.size))
          clear hb8
          go_wp2_with fail
          go_ret
          exact ⟨rfl, HB9.out⟩
end Ty
end Go.Proofs.Ytfjgebdpbmnicaa
