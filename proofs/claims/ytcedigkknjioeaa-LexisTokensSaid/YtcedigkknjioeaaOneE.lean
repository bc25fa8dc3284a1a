/- What the reference's function for one token returns at a run that is no sign. Conditions: the place lies in the source. -/
import Derived.Test.YtcedigkknjioeaaOneD
namespace Go.Proofs.Ytcedigkknjioeaa
open Go.RowKit Go.WideMaps Go.Maps

set_option maxHeartbeats 8000000 in
theorem one_op (s : ByteArray) (a : Nat) (w : World) (hs : s.size ≤ maxLen) (ha : a < s.size) (hc : Lx.opB (s[a]'ha) = true) (n : Nat) (hn : n = Lx.st 8 (s.data.toList.drop a)) (hr : hasL Lx.runSigns (s.extract a (a + n)).data.toList = false) :
    Calls Try.prog 33 #[.string s, .int .i64 a] w (OneP w 3 (s.extract a (a + n)) a (Lx.isOpL (s.extract a (a + n)).data.toList)) := by
  have HR0 := fun w => runO s a w hs (by omega)
  rw [← hn] at HR0
  have HR := Lib.hid HR0
  have hns : a + n ≤ s.size := by
    have h := Lx.st_le 8 (s.data.toList.drop a)
    rw [← hn, List.length_drop, Lx.size_list] at h
    omega
  have hxs : (s.extract a (a + n)).size ≤ maxLen := by rw [ByteArray.size_extract]; omega
  have HOP := Lib.hid (ropB _ true hc)
  have HHR := Lib.hid hr
  have HXS := Lib.hid hxs
  clear hc HR0 hn hr hxs
  unfold maxLen at hs
  have hw : IntKind.i64.wrap ((a : Int) + 1) = (a : Int) + 1 := by rw [IntKind.wrap_i64]; omega
  go_enter Try.func33, Try.ntmps33
  go_wp2_with fail
  refine (HOP.out _).mono ?_
  rintro e w1 ⟨rfl, hb⟩
  have HX := Lib.hid ((Boxes.new w 5 (s.extract a (a + 1)) a).next hb)
  clear hb
  go_wp2_with fail
  refine (HR.out _).mono ?_
  rintro e w2 ⟨rfl, hb⟩
  replace HX := Lib.hid (HX.out.next hb)
  clear hb
  have z0 := HX.out.r0; have z1 := HX.out.r1; have z2 := HX.out.r2; have y0 := HX.out.t0; have y1 := HX.out.t1; have y2 := HX.out.t2; have g0 := HX.out.fr 0 (by omega); have g1 := HX.out.fr 1 (by omega); have g2 := HX.out.fr 2 (by omega); have h0 := HX.out.ft 0 (by omega); have h1 := HX.out.ft 1 (by omega)
  go_wp2_with fail
  clear z0 z1 z2 y0 y1 y2 g0 g1 g2 h0 h1
  replace HX := Lib.hid (HX.out.text (s.extract a (a + n)))
  obtain ⟨w3, hw3⟩ : ∃ w3, w3 = w2.setCell ⟨w.heap.size + 1, 1, none⟩ (.string (s.extract a (a + n))) := ⟨_, rfl⟩
  rw [← hw3] at HX ⊢
  clear hw3
  generalize s.extract a (a + n) = x at *
  have HIS := Lib.hid (fun p w => ris3 x p w HXS.out)
  have z0 := HX.out.r0; have z1 := HX.out.r1; have z2 := HX.out.r2; have y0 := HX.out.t0; have y1 := HX.out.t1; have y2 := HX.out.t2; have g0 := HX.out.fr 0 (by omega); have g1 := HX.out.fr 1 (by omega); have g2 := HX.out.fr 2 (by omega); have h0 := HX.out.ft 0 (by omega); have h1 := HX.out.ft 1 (by omega)
  first | (go_region_with (first
    | (go_at_call 44; refine (rruns _).mono ?_; rintro e w4 ⟨rfl, hcells, hb⟩; have HCE := Lib.hid hcells; have HX2 := HX; clear z0 z1 z2 y0 y1 y2 g0 g1 g2 h0 h1; clear HX; have HX := Lib.hid (by first | exact HX2.out.next hb | exact HX2.out.drew.next hb); have z0 := HX.out.r0; have z1 := HX.out.r1; have z2 := HX.out.r2; have y0 := HX.out.t0; have y1 := HX.out.t1; have y2 := HX.out.t2; have g0 := HX.out.fr 0 (by omega); have g1 := HX.out.fr 1 (by omega); have g2 := HX.out.fr 2 (by omega); have h0 := HX.out.ft 0 (by omega); have h1 := HX.out.ft 1 (by omega); clear hcells hb HX2)
    | (go_at_call 39; refine (rhasRunsB false _ _ _ HHR.out HCE.out).mono ?_; rintro e w5 ⟨rfl, rfl⟩))) | fail
  all_goals
    go_wp2_with fail
    clear z0 z1 z2 y0 y1 y2 g0 g1 g2 h0 h1
    replace HX := Lib.hid (by first | exact HX.out.kind 3 | exact HX.out.drew.kind 3)
    first
    | (obtain ⟨w5, hw5⟩ : ∃ w5, w5 = w4.setCell ⟨w.heap.size + 1, 0, none⟩ (.int .i64 3) := ⟨_, rfl⟩
       rw [← hw5] at HX ⊢
       clear hw5)
    | trace_state
    have z0 := HX.out.r0; have z1 := HX.out.r1; have z2 := HX.out.r2; have y0 := HX.out.t0; have y1 := HX.out.t1; have y2 := HX.out.t2; have g0 := HX.out.fr 0 (by omega); have g1 := HX.out.fr 1 (by omega); have g2 := HX.out.fr 2 (by omega); have h0 := HX.out.ft 0 (by omega); have h1 := HX.out.ft 1 (by omega)
    trace_state
    first | (go_region_with (go_at_call 51; refine (HIS.out _ _).mono ?_; rintro e w6 ⟨rfl, hb⟩; have HX2 := HX; clear z0 z1 z2 y0 y1 y2 g0 g1 g2 h0 h1; clear HX; have HX := Lib.hid (by first | exact HX2.out.next hb | exact HX2.out.drew.next hb); have z0 := HX.out.r0; have z1 := HX.out.r1; have z2 := HX.out.r2; have y0 := HX.out.t0; have y1 := HX.out.t1; have y2 := HX.out.t2; have g0 := HX.out.fr 0 (by omega); have g1 := HX.out.fr 1 (by omega); have g2 := HX.out.fr 2 (by omega); have h0 := HX.out.ft 0 (by omega); have h1 := HX.out.ft 1 (by omega); clear hb HX2)) | fail
  all_goals
    go_wp2_with fail
    (try simp only [Exit.inBlock, Exit.then])
    refine bodyPost_ret (results_one (B := w.heap.size) (k := 3) (x := x) (a := a) (v := .bool (Lx.isOpL x.data.toList)) (by rfl) (by rfl) (stored3 _ _ _ z0 z1 z2).1 (stored3 _ _ _ z0 z1 z2).2.1 (stored3 _ _ _ z0 z1 z2).2.2) rfl ?_
    first | exact ⟨rfl, below_put3 HX.out.below _ _ _⟩ | exact ⟨rfl, (below_put3 HX.out.below _ _ _).drew⟩

end Go.Proofs.Ytcedigkknjioeaa
