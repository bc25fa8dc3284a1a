/- What the reference's function for one token returns at a byte that begins neither a name nor a run. Conditions: the place lies in the source. -/
import Derived.Test.YtcedigkknjioeaaOneD
namespace Go.Proofs.Ytcedigkknjioeaa
open Go.RowKit Go.WideMaps Go.Maps

set_option maxHeartbeats 4000000 in
theorem one_other (s : ByteArray) (a : Nat) (w : World) (hs : s.size ≤ maxLen) (ha : a < s.size) (hc1 : Lx.opB (s[a]'ha) = false) (hc2 : Lx.nmB (s[a]'ha) = false) :
    Calls Try.prog 33 #[.string s, .int .i64 a] w (OneP w 5 (s.extract a (a + 1)) a (hasL Lx.byteSigns ((s.data.toList.drop a).take 1))) := by
  have HNM := Lib.hid (rnameB _ false hc2)
  have q95 : (((s[a]'ha).toNat : Int) == 95) = false := (Lx.byte_beq _ 95).trans (decide_eq_false fun h => by rw [h] at hc2; revert hc2; decide)
  have q39 : (((s[a]'ha).toNat : Int) == 39) = false := (Lx.byte_beq _ 39).trans (decide_eq_false fun h => by rw [h] at hc2; revert hc2; decide)
  have HOP := Lib.hid (ropB _ false hc1)
  clear hc1 hc2
  unfold maxLen at hs
  have hw : IntKind.i64.wrap ((a : Int) + 1) = (a : Int) + 1 := by rw [IntKind.wrap_i64]; omega
  go_enter Try.func33, Try.ntmps33
  go_wp2_with fail
  refine (HOP.out _).mono ?_
  rintro e w1 ⟨rfl, hb⟩
  have HX := Lib.hid ((Boxes.new w 5 (s.extract a (a + 1)) a).next hb)
  clear hb
  have z0 := HX.out.r0; have z1 := HX.out.r1; have z2 := HX.out.r2; have y0 := HX.out.t0; have y1 := HX.out.t1; have y2 := HX.out.t2; have g0 := HX.out.fr 0 (by omega); have g1 := HX.out.fr 1 (by omega); have g2 := HX.out.fr 2 (by omega); have h0 := HX.out.ft 0 (by omega); have h1 := HX.out.ft 1 (by omega)
  go_wp2_with fail
  refine (HNM.out _).mono ?_
  rintro e w2 ⟨rfl, rfl⟩
  go_wp2_with fail
  first | (go_region_with (first
    | (go_at_call 58; refine (rbytes _).mono ?_; rintro e w3 ⟨rfl, hcells3, hb⟩; have HCB := Lib.hid hcells3; clear hcells3; have HX2 := HX; clear z0 z1 z2 y0 y1 y2 g0 g1 g2 h0 h1; clear HX; have HX := Lib.hid (by first | exact HX2.out.next hb | exact HX2.out.drew.next hb); have z0 := HX.out.r0; have z1 := HX.out.r1; have z2 := HX.out.r2; have y0 := HX.out.t0; have y1 := HX.out.t1; have y2 := HX.out.t2; have g0 := HX.out.fr 0 (by omega); have g1 := HX.out.fr 1 (by omega); have g2 := HX.out.fr 2 (by omega); have h0 := HX.out.ft 0 (by omega); have h1 := HX.out.ft 1 (by omega); clear hb HX2)
    | (go_at_call 39; refine (rhasBytes _ _ _ HCB.out).mono ?_; rintro e w2 ⟨rfl, rfl⟩))) | fail
  all_goals
    go_wp2_with fail
    (try simp only [Exit.inBlock, Exit.then])
    refine bodyPost_ret (results_one (B := w.heap.size) (k := 5) (x := s.extract a (a + 1)) (a := a) (v := .bool (hasL Lx.byteSigns ((s.data.toList.drop a).take 1))) (by rfl) (by rfl) (stored3 _ _ _ z0 z1 z2).1 (stored3 _ _ _ z0 z1 z2).2.1 (stored3 _ _ _ z0 z1 z2).2.2) rfl ?_
    first | exact ⟨rfl, below_put3 HX.out.below _ _ _⟩ | exact ⟨rfl, (below_put3 HX.out.below _ _ _).drew⟩

end Go.Proofs.Ytcedigkknjioeaa
