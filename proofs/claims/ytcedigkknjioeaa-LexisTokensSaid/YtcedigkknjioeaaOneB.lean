/- What the reference's function for one token returns at a quote. Conditions: the place lies in the source. -/
import Derived.Test.YtcedigkknjioeaaOneA
namespace Go.Proofs.Ytcedigkknjioeaa
open Go.RowKit Go.WideMaps Go.Maps

set_option maxHeartbeats 4000000 in
theorem one_quote1 (s : ByteArray) (a : Nat) (w : World) (hs : s.size ≤ maxLen) (ha : a < s.size) (hc : s[a]'ha = 39) (hn : a + 1 < s.size) (hu : Lx.upB (s[a + 1]'hn) = true) :
    Calls Try.prog 33 #[.string s, .int .i64 a] w (OneP w 5 (s.extract a (a + 1)) a true) := by
  have HR := Lib.hid (rcapB _ true hu)
  clear hu
  have HOP := Lib.hid (ropB 39 false (by decide))
  unfold maxLen at hs
  have hw : IntKind.i64.wrap ((a : Int) + 1) = (a : Int) + 1 := by rw [IntKind.wrap_i64]; omega
  go_enter Try.func33, Try.ntmps33
  go_wp2_with fail
  refine (HOP.out _).mono ?_
  rintro e w1 ⟨rfl, hb⟩
  have HB := (Boxes.new w 5 (s.extract a (a + 1)) a).next hb
  clear hb
  obtain ⟨hbel, hsz, r0, r1, r2, t0, t1, t2, fr, ft⟩ := HB
  have f0 := fr 0 (by omega)
  have f1 := fr 1 (by omega)
  have f2 := fr 2 (by omega)
  have HBe := Lib.hid hbel
  clear hbel fr ft
  go_wp2_with fail
  first | (go_region_with (go_at_call 40; refine (HR.out _).mono ?_; rintro e w2 ⟨rfl, rfl⟩)) | fail
  all_goals
    go_wp2_with fail
    (try simp only [Exit.inBlock, Exit.then])
    refine bodyPost_ret (results_one (B := w.heap.size) (k := 5) (x := s.extract a (a + 1)) (a := a) (v := .bool true) (by rfl) (by rfl) (stored3 _ _ _ r0 r1 r2).1 (stored3 _ _ _ r0 r1 r2).2.1 (stored3 _ _ _ r0 r1 r2).2.2) rfl ?_
    exact ⟨rfl, (below_put3 HBe.out _ _ _).drew⟩

set_option maxHeartbeats 4000000 in
theorem one_quote2 (s : ByteArray) (a : Nat) (w : World) (hs : s.size ≤ maxLen) (ha : a < s.size) (hc : s[a]'ha = 39) (hn : a + 1 < s.size) (hu : Lx.upB (s[a + 1]'hn) = false) :
    Calls Try.prog 33 #[.string s, .int .i64 a] w (OneP w 5 (s.extract a (a + 1)) a false) := by
  have HR := Lib.hid (rcapB _ false hu)
  clear hu
  have HOP := Lib.hid (ropB 39 false (by decide))
  unfold maxLen at hs
  have hw : IntKind.i64.wrap ((a : Int) + 1) = (a : Int) + 1 := by rw [IntKind.wrap_i64]; omega
  go_enter Try.func33, Try.ntmps33
  go_wp2_with fail
  refine (HOP.out _).mono ?_
  rintro e w1 ⟨rfl, hb⟩
  have HB := (Boxes.new w 5 (s.extract a (a + 1)) a).next hb
  clear hb
  obtain ⟨hbel, hsz, r0, r1, r2, t0, t1, t2, fr, ft⟩ := HB
  have f0 := fr 0 (by omega)
  have f1 := fr 1 (by omega)
  have f2 := fr 2 (by omega)
  have HBe := Lib.hid hbel
  clear hbel fr ft
  go_wp2_with fail
  first | (go_region_with (go_at_call 40; refine (HR.out _).mono ?_; rintro e w2 ⟨rfl, rfl⟩)) | fail
  all_goals
    go_wp2_with fail
    (try simp only [Exit.inBlock, Exit.then])
    refine bodyPost_ret (results_one (B := w.heap.size) (k := 5) (x := s.extract a (a + 1)) (a := a) (v := .bool false) (by rfl) (by rfl) (stored3 _ _ _ r0 r1 r2).1 (stored3 _ _ _ r0 r1 r2).2.1 (stored3 _ _ _ r0 r1 r2).2.2) rfl ?_
    exact ⟨rfl, (below_put3 HBe.out _ _ _).drew⟩

set_option maxHeartbeats 4000000 in
theorem one_quote3 (s : ByteArray) (a : Nat) (w : World) (hs : s.size ≤ maxLen) (ha : a < s.size) (hc : s[a]'ha = 39) (hn : ¬ a + 1 < s.size) :
    Calls Try.prog 33 #[.string s, .int .i64 a] w (OneP w 5 (s.extract a (a + 1)) a false) := by
  have hd : decide ((a : Int) + 1 < (s.size : Int)) = false := decide_eq_false (by omega)
  have HOP := Lib.hid (ropB 39 false (by decide))
  unfold maxLen at hs
  have hw : IntKind.i64.wrap ((a : Int) + 1) = (a : Int) + 1 := by rw [IntKind.wrap_i64]; omega
  go_enter Try.func33, Try.ntmps33
  go_wp2_with fail
  refine (HOP.out _).mono ?_
  rintro e w1 ⟨rfl, hb⟩
  have HB := (Boxes.new w 5 (s.extract a (a + 1)) a).next hb
  clear hb
  obtain ⟨hbel, hsz, r0, r1, r2, t0, t1, t2, fr, ft⟩ := HB
  have f0 := fr 0 (by omega)
  have f1 := fr 1 (by omega)
  have f2 := fr 2 (by omega)
  have HBe := Lib.hid hbel
  clear hbel fr ft
  go_wp2_with fail
  first | (go_region_with fail) | fail
  all_goals
    go_wp2_with fail
    (try simp only [Exit.inBlock, Exit.then])
    refine bodyPost_ret (results_one (B := w.heap.size) (k := 5) (x := s.extract a (a + 1)) (a := a) (v := .bool false) (by rfl) (by rfl) (stored3 _ _ _ r0 r1 r2).1 (stored3 _ _ _ r0 r1 r2).2.1 (stored3 _ _ _ r0 r1 r2).2.2) rfl ?_
    exact ⟨rfl, (below_put3 HBe.out _ _ _).drew⟩

end Go.Proofs.Ytcedigkknjioeaa
