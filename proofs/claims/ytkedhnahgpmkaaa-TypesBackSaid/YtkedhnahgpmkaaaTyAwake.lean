/- What awake returns: true. Conditions: none. -/
import Derived.Test.YtkedhnahgpmkaaaTyPlainEx
import Derived.Test.YtkedhnahgpmkaaaTyMakers
import Derived.Deep.RegionHeld3
namespace Go.Proofs.Ytkedhnahgpmkaaa
open Go.RowKit

namespace Ty
theorem vo_leaf' (ok : Nat → Prop) (w : World) (o n : Int) (s : List UInt8) (hs : s.length ≤ maxLen) : VO ok w (.mk o n s []) (.agg #[.int .i64 o, .int .i64 n, .string ⟨s.toArray⟩, .slice none 0 0]) :=
  ⟨none, 0, rfl, hs, Nat.zero_le _, .inl rfl⟩
theorem sl_one {w : World} {t : Ty} (h : t.args = []) (hs : t.s.length ≤ maxLen) : SlO (fun _ => True) (w.alloc (Obj.cells #[.int .i64 t.op, .int .i64 t.n, .string t.name, .slice none 0 0] 24)) (some ⟨w.heap.size, 0, none⟩) [t] := by
  obtain ⟨b0, b1, b2, b3⟩ := box4 w (.int .i64 t.op) (.int .i64 t.n) (.string t.name) (.slice none 0 0)
  refine ⟨by show 1 ≤ maxLen; unfold maxLen; omega, .inr ⟨w.heap.size, 0, rfl, trivial, ?_, trivial⟩⟩
  exact atO_iff.mpr ⟨b0, b1, b2, hs, none, 0, by rw [h]; exact b3, by rw [h]; exact Nat.zero_le _, .inl h⟩
theorem sl_two {w : World} {t u : Ty} (h : t.args = []) (hs : t.s.length ≤ maxLen) (h' : u.args = []) (hs' : u.s.length ≤ maxLen) : SlO (fun _ => True) (w.alloc (Obj.cells #[.int .i64 t.op, .int .i64 t.n, .string t.name, .slice none 0 0, .int .i64 u.op, .int .i64 u.n, .string u.name, .slice none 0 0] 24)) (some ⟨w.heap.size, 0, none⟩) [t, u] := by
  have hrow := heap_alloc_new w (Obj.cells #[.int .i64 t.op, .int .i64 t.n, .string t.name, .slice none 0 0, .int .i64 u.op, .int .i64 u.n, .string u.name, .slice none 0 0] 24)
  have c := fun i => cell_of_row _ w.heap.size i _ 24 (0, 0) hrow
  refine ⟨by show 2 ≤ maxLen; unfold maxLen; omega, .inr ⟨w.heap.size, 0, rfl, trivial, ?_, ?_, trivial⟩⟩
  · exact atO_iff.mpr ⟨c 0, c 1, c 2, hs, none, 0, by rw [h]; exact c 3, by rw [h]; exact Nat.zero_le _, .inl h⟩
  · exact atO_iff.mpr ⟨c 4, c 5, c 6, hs', none, 0, by rw [h']; exact c 7, by rw [h']; exact Nat.zero_le _, .inl h'⟩

theorem SlO.weak {ok : Nat → Prop} {w : World} {base : Option Addr} {l : List Ty} (h : SlO ok w base l) : Sl w base l := by
  obtain ⟨h1, h2 | ⟨g, o, e, _, hr⟩⟩ := h
  · exact ⟨h1, .inl h2⟩
  · exact ⟨h1, .inr ⟨g, o, e, hr.weak⟩⟩
/-- what stands before the last line -/
theorem aw_next {w W W' : World} {T1 T4 g o : Nat} {r0 r1 r2 r3 h0 h1 h2 h3 z0 z1 z2 z3 : Value}
    (h : Hid (Below w.heap.size w W) ∧ W.cell? ⟨T1, 0, none⟩ = some r0 ∧ W.cell? ⟨T1, 1, none⟩ = some r1 ∧ W.cell? ⟨T1, 2, none⟩ = some r2 ∧ W.cell? ⟨T1, 3, none⟩ = some r3 ∧ W.cell? ⟨T4, 0, none⟩ = some h0 ∧ W.cell? ⟨T4, 1, none⟩ = some h1 ∧ W.cell? ⟨T4, 2, none⟩ = some h2 ∧ W.cell? ⟨T4, 3, none⟩ = some h3 ∧
      W.cell? ⟨g, o + 4, none⟩ = some z0 ∧ W.cell? ⟨g, o + 4 + 1, none⟩ = some z1 ∧ W.cell? ⟨g, o + 4 + 2, none⟩ = some z2 ∧ W.cell? ⟨g, o + 4 + 3, none⟩ = some z3) (hb : Below W.heap.size W W') :
    Hid (Below w.heap.size w W') ∧ W'.cell? ⟨T1, 0, none⟩ = some r0 ∧ W'.cell? ⟨T1, 1, none⟩ = some r1 ∧ W'.cell? ⟨T1, 2, none⟩ = some r2 ∧ W'.cell? ⟨T1, 3, none⟩ = some r3 ∧ W'.cell? ⟨T4, 0, none⟩ = some h0 ∧ W'.cell? ⟨T4, 1, none⟩ = some h1 ∧ W'.cell? ⟨T4, 2, none⟩ = some h2 ∧ W'.cell? ⟨T4, 3, none⟩ = some h3 ∧
      W'.cell? ⟨g, o + 4, none⟩ = some z0 ∧ W'.cell? ⟨g, o + 4 + 1, none⟩ = some z1 ∧ W'.cell? ⟨g, o + 4 + 2, none⟩ = some z2 ∧ W'.cell? ⟨g, o + 4 + 3, none⟩ = some z3 := by
  obtain ⟨b, k0, k1, k2, k3, k4, k5, k6, k7, k8, k9, ka, kb⟩ := h
  exact ⟨Lib.hid (b.out.trans (hb.mono b.out.size)), keeps hb _ _ k0, keeps hb _ _ k1, keeps hb _ _ k2, keeps hb _ _ k3, keeps hb _ _ k4, keeps hb _ _ k5, keeps hb _ _ k6, keeps hb _ _ k7, keeps hb _ _ k8, keeps hb _ _ k9, keeps hb _ _ ka, keeps hb _ _ kb⟩
theorem same_call {w : World} {t u : Ty} {v : Value} (hv : V w t v) (hs : same t u = true) (W : World) (hb : Below w.heap.size w W) (v2 : Value) (h2 : V W u v2) : Calls Try.prog 38 #[v, v2] W fun e w' => e = .returned (.bool true) ∧ Below W.heap.size W w' :=
  (rsame_any t u v v2 W (hv.next hb) h2).mono fun _ _ ⟨e1, e2⟩ => ⟨by rw [e1, hs], e2⟩

/-- the first example -/
def Ex1P (w : World) (e : Ending) (w' : World) : Prop := ∃ r b c, e = .returned (.tuple #[.agg #[.int .i64 (Ty.op r), .int .i64 r.n, .string r.name, .slice b r.args.length c], .int .i64 0]) ∧ V w' r (.agg #[.int .i64 r.op, .int .i64 r.n, .string r.name, .slice b r.args.length c]) ∧ same r (arrow (tVar 0) tInt) = true ∧ Below w.heap.size w w'
theorem ex1 (v : Value) (base : Option Addr) (cap : Nat) (w : World) (hv : V w (arrow (tVar 1) (tVar 0)) v) (hl : Sl w base [tInt]) : Calls Try.prog 29 #[v, .slice base 1 cap] w (Ex1P w) :=
  (put_ok (arrow (tVar 1) (tVar 0)) [tInt] v base cap w hv hl ex_proper ex_propers).mono fun e w' ⟨v', h1, h2, h3⟩ => by
    have hw := h2.weak
    obtain ⟨b, c, hv', _, _⟩ := h2
    subst hv'
    rw [fullV_ok ex_put] at h1
    exact ⟨_, b, c, h1, hw, ex_same, h3⟩
/-- the second example -/
def Ex2P (w : World) (e : Ending) (w' : World) : Prop := ∃ h z b c g o cap zb zc, e = .returned (.tuple #[.agg #[.int .i64 (Ty.op h), .int .i64 h.n, .string h.name, .slice b h.args.length c], .slice (some ⟨g, o, none⟩) 2 cap, .int .i64 0]) ∧ V w' h (.agg #[.int .i64 h.op, .int .i64 h.n, .string h.name, .slice b h.args.length c]) ∧ same h tVec = true ∧
  w'.cell? ⟨g, o + 4, none⟩ = some (.int .i64 (Ty.op z)) ∧ w'.cell? ⟨g, o + 4 + 1, none⟩ = some (.int .i64 z.n) ∧ w'.cell? ⟨g, o + 4 + 2, none⟩ = some (.string z.name) ∧ w'.cell? ⟨g, o + 4 + 3, none⟩ = some (.slice zb z.args.length zc) ∧
  V w' z (.agg #[.int .i64 z.op, .int .i64 z.n, .string z.name, .slice zb z.args.length zc]) ∧ same z tZ = true ∧ Below w.heap.size w w'
theorem ex2 (v : Value) (w : World) (hv : V w (applyT tVec [tVar 0, tZ]) v) : Calls Try.prog 32 #[v] w (Ex2P w) :=
  (spine_ok (applyT tVec [tVar 0, tZ]) ex_vec v w hv).mono fun e w' ⟨h, acc, v', ov, h1, h2, h3, h4, h5⟩ => by
    obtain ⟨e1, e2⟩ := h1.one ex_spine
    subst e1 e2
    have hw := h3.weak
    obtain ⟨b, c, hv', _, _⟩ := h3
    obtain ⟨bb, cap, hov, hsl⟩ := h4
    subst hv' hov
    rcases hsl.2 with h0 | ⟨g, o, rfl, _, hr⟩
    · cases h0
    obtain ⟨_, hz, _⟩ := hr
    obtain ⟨zb, zc, z0, z1, z2, z3, hvz⟩ := atO_v hz
    exact ⟨tVec, tZ, b, c, g, o, cap, zb, zc, h2, hw, ex_same2, z0, z1, z2, z3, hvz.weak, ex_same3, h5⟩

set_option maxRecDepth 100000 in
set_option maxHeartbeats 8000000 in
theorem awake_any (w : World) : Calls Try.prog 18 #[] w fun e w' => e = .returned (.bool true) ∧ Below w.heap.size w w' := by
  go_enter Try.func18, Try.ntmps18
  go_wp2_with fail
  refine (rvar 1 _).mono ?_
  rintro e w1 ⟨rfl, hb1⟩
  go_wp2_with fail
  refine (rvar 0 _).mono ?_
  rintro e w2 ⟨rfl, hb2⟩
  have HB := Lib.hid (hb1.trans (hb2.mono hb1.size))
  clear hb1 hb2
  go_wp2_with fail
  refine (rarrow_o (ok := fun _ => True) (tVar 1) (tVar 0) _ _ _ (fun _ _ => trivial) (vo_leaf' _ _ 1 1 [] (by decide)) (vo_leaf' _ _ 1 0 [] (by decide))).mono ?_
  rintro e w3 ⟨v3, rfl, hvo, hb3⟩
  have HB3 := Lib.hid (HB.out.trans (hb3.mono HB.out.size))
  have HV3 := Lib.hid hvo.weak
  obtain ⟨b3, c3, rfl, _, _⟩ := hvo
  clear hb3 HB
  go_wp2_with fail
  refine (rcon _ _).mono ?_
  rintro e w4 ⟨rfl, hb4⟩
  have HB4 := Lib.hid (HB3.out.trans (hb4.mono HB3.out.size))
  have HV4 := Lib.hid (HV3.out.next hb4)
  clear hb4 HB3 HV3
  go_wp2_with fail
  refine (ex1 _ _ _ _ (HV4.out.next ((Below.refl _ _).alloc (Nat.le_refl _) _)) (SlO.weak (sl_one (w := w4) (t := tInt) rfl (by decide)))).mono ?_
  rintro e w5 ⟨r, b5, c5, rfl, hvr, hsr, hb5⟩
  have HB5 := Lib.hid (HB4.out.trans ((((Below.refl _ _).alloc (Nat.le_refl _) _).trans (hb5.mono (by simp))).mono HB4.out.size))
  have HVR := Lib.hid hvr
  have HSR := Lib.hid hsr
  clear hvr hsr hb5 HV4 HB4
  go_upto_region 2 with fail
  obtain ⟨T1, hT1⟩ : ∃ T1, T1 = w5.heap.size := ⟨_, rfl⟩
  obtain ⟨W6, hW6⟩ : ∃ W6, W6 = w5.alloc (Obj.cells #[.int .i64 r.op, .int .i64 r.n, .string r.name, .slice b5 r.args.length c5] 24) := ⟨_, rfl⟩
  have ht1 : B4 W6 T1 (.int .i64 r.op) (.int .i64 r.n) (.string r.name) (.slice b5 r.args.length c5) := by rw [hW6, hT1]; exact heap_alloc_new _ _
  have hb6 : Below w5.heap.size w5 W6 := by rw [hW6]; exact (Below.refl _ _).alloc (Nat.le_refl _) _
  rw [← hW6, ← hT1]
  clear hW6 hT1
  have HT1 := Lib.hid ht1
  have HB6 := Lib.hid (HB5.out.trans (hb6.mono HB5.out.size))
  have HVR6 := Lib.hid (HVR.out.next hb6)
  clear ht1 hb6 HVR HB5
  go_wp2_with fail
  refine (rcon _ _).mono ?_
  rintro e w7 ⟨rfl, hb7⟩
  have HL7 := Lib.hid hb7
  clear hb7
  go_wp2_with fail
  refine (rvar 0 _).mono ?_
  rintro e w8 ⟨rfl, hb8⟩
  have HL8 := Lib.hid (HL7.out.trans (hb8.mono HL7.out.size))
  clear hb8 HL7
  go_wp2_with fail
  refine (rcon _ _).mono ?_
  rintro e w9 ⟨rfl, hb9⟩
  have HL9 := Lib.hid (HL8.out.trans (hb9.mono HL8.out.size))
  clear hb9 HL8
  go_wp2_with fail
  refine (apply_o (ok := fun _ => True) tVec [tVar 0, tZ] _ _ _ _ (fun _ _ => trivial) (vo_leaf' _ _ 2 0 [86, 101, 99] (by decide)) (sl_two (w := w9) (t := tVar 0) (u := tZ) rfl (by decide) rfl (by decide))).mono ?_
  rintro e w10 ⟨v10, rfl, hvo, hb10⟩
  have HL10 := Lib.hid (HL9.out.trans ((((Below.refl _ _).alloc (Nat.le_refl _) _).trans (hb10.mono (by simp))).mono HL9.out.size))
  have HV10 := Lib.hid hvo.weak
  obtain ⟨b10, c10, rfl, _, _⟩ := hvo
  clear hb10 HL9
  go_upto_region 3 with fail
  generalize hvec : applyT tVec [tVar 0, tZ] = vec at *
  obtain ⟨T3, hT3⟩ : ∃ T3, T3 = w10.heap.size := ⟨_, rfl⟩
  obtain ⟨W11, hW11⟩ : ∃ W11, W11 = w10.alloc (Obj.cells #[.int .i64 vec.op, .int .i64 vec.n, .string vec.name, .slice b10 vec.args.length c10] 24) := ⟨_, rfl⟩
  have ht3 : B4 W11 T3 (.int .i64 vec.op) (.int .i64 vec.n) (.string vec.name) (.slice b10 vec.args.length c10) := by rw [hW11, hT3]; exact heap_alloc_new _ _
  have hb11 : Below w10.heap.size w10 W11 := by rw [hW11]; exact (Below.refl _ _).alloc (Nat.le_refl _) _
  rw [← hW11, ← hT3]
  clear hW11 hT3
  obtain ⟨s0, s1, s2, s3⟩ := ht3.cells
  have HL11 := Lib.hid (HL10.out.trans (hb11.mono HL10.out.size))
  have HV11 := Lib.hid (HV10.out.next hb11)
  rw [← hvec] at HV11
  have HEX2 := Lib.hid (ex2 _ W11 HV11.out)
  rw [hvec] at HEX2
  clear ht3 hb11 HL10 HV10 HV11 hvec
  go_wp2_with fail
  refine HEX2.out.mono ?_
  rintro e w12 ⟨h, z, bh, ch, g, o, cap, zb, zc, rfl, hvh, hsh, z0, z1, z2, z3, hvz, hsz, hb12⟩
  have HL12 := Lib.hid (HL11.out.trans (hb12.mono HL11.out.size))
  clear HEX2 HL11 hb12 s0 s1 s2 s3
  have HVH := Lib.hid hvh
  have HVZ := Lib.hid hvz
  have HSH := Lib.hid hsh
  have HSZ := Lib.hid hsz
  have Z0 := Lib.hid z0
  have Z1 := Lib.hid z1
  have Z2 := Lib.hid z2
  have Z3 := Lib.hid z3
  clear hvh hvz hsh hsz z0 z1 z2 z3
  go_upto_region 4 with fail
  obtain ⟨T4, hT4⟩ : ∃ T4, T4 = w12.heap.size := ⟨_, rfl⟩
  obtain ⟨W13, hW13⟩ : ∃ W13, W13 = w12.alloc (Obj.cells #[.int .i64 h.op, .int .i64 h.n, .string h.name, .slice bh h.args.length ch] 24) := ⟨_, rfl⟩
  have ht4 : B4 W13 T4 (.int .i64 h.op) (.int .i64 h.n) (.string h.name) (.slice bh h.args.length ch) := by rw [hW13, hT4]; exact heap_alloc_new _ _
  have hb13 : Below w12.heap.size w12 W13 := by rw [hW13]; exact (Below.refl _ _).alloc (Nat.le_refl _) _
  rw [← hW13, ← hT4]
  clear hW13 hT4
  have hl13 := HL12.out.trans (hb13.mono HL12.out.size)
  have HB13 := Lib.hid (HB6.out.trans (hl13.mono HB6.out.size))
  obtain ⟨r0, r1, r2, r3⟩ := (HT1.out.next hl13).cells
  obtain ⟨h0, h1, h2, h3⟩ := ht4.cells
  have z0 := keeps hb13 _ _ Z0.out
  have z1 := keeps hb13 _ _ Z1.out
  have z2 := keeps hb13 _ _ Z2.out
  have z3 := keeps hb13 _ _ Z3.out
  have HS1 := Lib.hid (same_call (HVR6.out.next hl13) HSR.out)
  have HS2 := Lib.hid (same_call (HVH.out.next hb13) HSH.out)
  have HS3 := Lib.hid (same_call (HVZ.out.next hb13) HSZ.out)
  have HK : Hid (Below W13.heap.size W13 W13.drew) := Lib.hid (Below.refl _ _).drew
  clear ht4 hb13 hl13 HL12 HB6 HT1 HVR6 HVH HVZ HSR HSH HSZ Z0 Z1 Z2 Z3
  go_region_held3 (fun W => Hid (Below W13.heap.size W13 W) ∧ W.cell? ⟨T1, 0, none⟩ = some (.int .i64 r.op) ∧ W.cell? ⟨T1, 1, none⟩ = some (.int .i64 r.n) ∧ W.cell? ⟨T1, 2, none⟩ = some (.string r.name) ∧ W.cell? ⟨T1, 3, none⟩ = some (.slice b5 r.args.length c5) ∧ W.cell? ⟨T4, 0, none⟩ = some (.int .i64 h.op) ∧ W.cell? ⟨T4, 1, none⟩ = some (.int .i64 h.n) ∧ W.cell? ⟨T4, 2, none⟩ = some (.string h.name) ∧ W.cell? ⟨T4, 3, none⟩ = some (.slice bh h.args.length ch) ∧
      W.cell? ⟨g, o + 4, none⟩ = some (.int .i64 z.op) ∧ W.cell? ⟨g, o + 4 + 1, none⟩ = some (.int .i64 z.n) ∧ W.cell? ⟨g, o + 4 + 2, none⟩ = some (.string z.name) ∧ W.cell? ⟨g, o + 4 + 3, none⟩ = some (.slice zb z.args.length zc))
    (first | exact ⟨HK, r0, r1, r2, r3, h0, h1, h2, h3, z0, z1, z2, z3⟩ | assumption | exact aw_next (by assumption) hb)
    (first
    | (go_at_call 59; refine (rvar _ _).mono ?_; rintro e w2 ⟨rfl, hb⟩)
    | (go_at_call 52; refine (rcon _ _).mono ?_; rintro e w2 ⟨rfl, hb⟩)
    | (go_at_call 58; refine (rarrow_o (ok := fun _ => True) (tVar 0) tInt _ _ _ (fun _ _ => trivial) (vo_leaf' _ _ 1 0 [] (by decide)) (vo_leaf' _ _ 2 0 [73, 110, 116] (by decide))).mono ?_; rintro e w2 ⟨v2, rfl, hvo, hb⟩; have HVA := Lib.hid hvo.weak; obtain ⟨b2, c2, rfl, _, _⟩ := hvo)
    | (go_at_call_of 38 b5; refine (HS1.out _ (Hid.out (And.left (by assumption))) _ HVA.out).mono ?_; rintro e w2 ⟨rfl, hb⟩)
    | (go_at_call_of 38 bh; refine (HS2.out _ (Hid.out (And.left (by assumption))) _ (vo_leaf' (fun _ => True) _ 2 0 [86, 101, 99] (by decide)).weak).mono ?_; rintro e w2 ⟨rfl, hb⟩)
    | (go_at_call_of 38 zb; refine (HS3.out _ (Hid.out (And.left (by assumption))) _ (vo_leaf' (fun _ => True) _ 2 0 [39, 90] (by decide)).weak).mono ?_; rintro e w2 ⟨rfl, hb⟩))
  rename_i hS
  have HF := Lib.hid (HB13.out.trans (hS.1.out.mono HB13.out.size))
  clear hS
  go_wp2_with fail
  go_ret
  exact ⟨rfl, HF.out⟩

end Ty
end Go.Proofs.Ytkedhnahgpmkaaa
