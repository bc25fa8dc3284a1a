/- What the reference's function for one token returns, where the token is a single byte. Conditions: the place lies in the source. -/
import Derived.Test.YtcedigkknjioeaaRefL
namespace Go.Proofs.Ytcedigkknjioeaa
open Go.RowKit Go.WideMaps Go.Maps

/-- two boxes: the result (empty) and a token -/
structure Boxes (w w1 : World) (k : Int) (x : ByteArray) (a : Int) : Prop where
  below : Below w.heap.size w w1
  size : w.heap.size + 1 < w1.heap.size
  r0 : w1.cell? ⟨w.heap.size, 0, none⟩ = some (.int .i64 0)
  r1 : w1.cell? ⟨w.heap.size, 1, none⟩ = some (.string ⟨#[]⟩)
  r2 : w1.cell? ⟨w.heap.size, 2, none⟩ = some (.int .i64 0)
  t0 : w1.cell? ⟨w.heap.size + 1, 0, none⟩ = some (.int .i64 k)
  t1 : w1.cell? ⟨w.heap.size + 1, 1, none⟩ = some (.string x)
  t2 : w1.cell? ⟨w.heap.size + 1, 2, none⟩ = some (.int .i64 a)
  fr : ∀ i, i < 3 → w1.frozen? ⟨w.heap.size, i, none⟩ = false
  ft : ∀ i, i < 3 → w1.frozen? ⟨w.heap.size + 1, i, none⟩ = false

theorem Boxes.new (w : World) (k : Int) (x : ByteArray) (a : Int) :
    Boxes w ((w.alloc (Obj.cells #[Value.int IntKind.i64 0, Value.string { data := #[] }, Value.int IntKind.i64 0] 45)).alloc (Obj.cells #[Value.int IntKind.i64 k, Value.string x, Value.int IntKind.i64 a] 45)) k x a := by
  have h1 : ((w.alloc (Obj.cells #[Value.int IntKind.i64 0, Value.string { data := #[] }, Value.int IntKind.i64 0] 45)).alloc (Obj.cells #[Value.int IntKind.i64 k, Value.string x, Value.int IntKind.i64 a] 45)).heap[w.heap.size]? = some (Obj.cells #[Value.int IntKind.i64 0, Value.string { data := #[] }, Value.int IntKind.i64 0] 45) := by
    rw [Below.heap_alloc _ _ _ (by simp)]
    exact heap_alloc_new w _
  have h2 := heap_alloc_new (w.alloc (Obj.cells #[Value.int IntKind.i64 0, Value.string { data := #[] }, Value.int IntKind.i64 0] 45)) (Obj.cells #[Value.int IntKind.i64 k, Value.string x, Value.int IntKind.i64 a] 45)
  have e : (w.alloc (Obj.cells #[Value.int IntKind.i64 0, Value.string { data := #[] }, Value.int IntKind.i64 0] 45)).heap.size = w.heap.size + 1 := by simp
  rw [e] at h2
  refine ⟨((Below.refl _ _).alloc (Nat.le_refl _) _).alloc (by simp) _, by simp, ?_, ?_, ?_, ?_, ?_, ?_, ?_, ?_⟩
  · rw [cell_of_row _ w.heap.size 0 _ 45 (0, 0) h1]; rfl
  · rw [cell_of_row _ w.heap.size 1 _ 45 (0, 0) h1]; rfl
  · rw [cell_of_row _ w.heap.size 2 _ 45 (0, 0) h1]; rfl
  · rw [cell_of_row _ (w.heap.size + 1) 0 _ 45 (0, 0) h2]; rfl
  · rw [cell_of_row _ (w.heap.size + 1) 1 _ 45 (0, 0) h2]; rfl
  · rw [cell_of_row _ (w.heap.size + 1) 2 _ 45 (0, 0) h2]; rfl
  · intro i hi
    unfold World.frozen?
    rw [h1]
    simp
  · intro i hi
    unfold World.frozen?
    rw [h2]
    simp

theorem Boxes.next {w w1 w2 : World} {k : Int} {x : ByteArray} {a : Int} (h : Boxes w w1 k x a) (hb : Below w1.heap.size w1 w2) : Boxes w w2 k x a := by
  have hs := h.size
  refine ⟨h.below.trans (hb.mono h.below.size), Nat.lt_of_lt_of_le hs hb.size, ?_, ?_, ?_, ?_, ?_, ?_, ?_, ?_⟩
  · exact (hb.cell (by show w.heap.size < _; omega)).trans h.r0
  · exact (hb.cell (by show w.heap.size < _; omega)).trans h.r1
  · exact (hb.cell (by show w.heap.size < _; omega)).trans h.r2
  · exact (hb.cell hs).trans h.t0
  · exact (hb.cell hs).trans h.t1
  · exact (hb.cell hs).trans h.t2
  · exact fun i hi => (hb.frozen (by show w.heap.size < _; omega)).trans (h.fr i hi)
  · exact fun i hi => (hb.frozen hs).trans (h.ft i hi)

theorem results_one {tmps : Array Value} {w : World} {B : Nat} {k a : Int} {x : ByteArray} {v : Value} (h4 : tmps.getD 4 undef = .pointer (some ⟨B, 0, none⟩)) (h5 : tmps.getD 5 undef = v)
    (c0 : w.cell? ⟨B, 0, none⟩ = some (.int .i64 k)) (c1 : w.cell? ⟨B, 1, none⟩ = some (.string x)) (c2 : w.cell? ⟨B, 2, none⟩ = some (.int .i64 a)) :
    (results Try.f33 tmps).run Try.prog w = .ok (.tuple #[.agg #[.int .i64 k, .string x, .int .i64 a], v]) w := by
  have h4' : tmps[4]?.getD undef = .pointer (some ⟨B, 0, none⟩) := by rw [← h4]; simp
  have h5' : tmps[5]?.getD undef = v := by rw [← h5]; simp
  simp [results, Try.results33, h4', h5', c0, c1, c2, go_sem]

/-- the result's box is written -/
def put3 (w : World) (B : Nat) (k : Int) (x : ByteArray) (a : Int) : World := ((w.setCell ⟨B, 0, none⟩ (.int .i64 k)).setCell ⟨B, 1, none⟩ (.string x)).setCell ⟨B, 2, none⟩ (.int .i64 a)
theorem stored3 {w : World} {B : Nat} {u0 u1 u2 : Value} (k : Int) (x : ByteArray) (a : Int) (c0 : w.cell? ⟨B, 0, none⟩ = some u0) (c1 : w.cell? ⟨B, 1, none⟩ = some u1) (c2 : w.cell? ⟨B, 2, none⟩ = some u2) :
    (put3 w B k x a).cell? ⟨B, 0, none⟩ = some (.int .i64 k) ∧ (put3 w B k x a).cell? ⟨B, 1, none⟩ = some (.string x) ∧ (put3 w B k x a).cell? ⟨B, 2, none⟩ = some (.int .i64 a) := by
  have n01 : (⟨B, 0, none⟩ : Addr) ≠ ⟨B, 1, none⟩ := by simp
  have n02 : (⟨B, 0, none⟩ : Addr) ≠ ⟨B, 2, none⟩ := by simp
  have n12 : (⟨B, 1, none⟩ : Addr) ≠ ⟨B, 2, none⟩ := by simp
  unfold put3
  refine ⟨?_, ?_, ?_⟩
  · rw [World.cell?_setCell_other _ _ _ _ n02.symm, World.cell?_setCell_other _ _ _ _ n01.symm]
    exact World.cell?_setCell_same _ _ _ c0
  · rw [World.cell?_setCell_other _ _ _ _ n12.symm]
    exact World.cell?_setCell_same _ _ _ (by rw [World.cell?_setCell_other _ _ _ _ n01]; exact c1)
  · exact World.cell?_setCell_same _ _ _ (by rw [World.cell?_setCell_other _ _ _ _ n12, World.cell?_setCell_other _ _ _ _ n02]; exact c2)
theorem below_put3 {w w1 : World} (h : Below w.heap.size w w1) (k : Int) (x : ByteArray) (a : Int) : Below w.heap.size w (put3 w1 w.heap.size k x a) :=
  ((h.setCell (Nat.le_refl _) _).setCell (Nat.le_refl _) _).setCell (Nat.le_refl _) _

theorem ropB (b : UInt8) (v : Bool) (h : Lx.opB b = v) (w : World) : Calls Try.prog 55 #[.int .u8 b.toNat] w fun e w' => e = .returned (.bool v) ∧ Below w.heap.size w w' :=
  (rop b w).mono fun e w' ⟨h1, h2⟩ => ⟨by rw [h1, h], h2⟩
theorem rnameB (b : UInt8) (v : Bool) (h : Lx.nmB b = v) (w : World) : Calls Try.prog 56 #[.int .u8 b.toNat] w fun e w' => e = .returned (.bool v) ∧ w = w' :=
  (rname b w).mono fun e w' ⟨h1, h2⟩ => ⟨by rw [h1, h], h2⟩
theorem rcapB (b : UInt8) (v : Bool) (h : Lx.upB b = v) (w : World) : Calls Try.prog 40 #[.int .u8 b.toNat] w fun e w' => e = .returned (.bool v) ∧ w = w' :=
  (rcapital b w).mono fun e w' ⟨h1, h2⟩ => ⟨by rw [h1, h], h2⟩

/-- what the function returns -/
def OneP (w : World) (k : Int) (x : ByteArray) (a : Nat) (ok : Bool) (e : Ending) (w' : World) : Prop := e = .returned (.tuple #[.agg #[.int .i64 k, .string x, .int .i64 a], .bool ok]) ∧ Below w.heap.size w w'

set_option maxHeartbeats 4000000 in
theorem one_us1 (s : ByteArray) (a : Nat) (w : World) (hs : s.size ≤ maxLen) (ha : a < s.size) (hc : s[a]'ha = 95) (hst : Lx.st 4 (s.data.toList.drop a) = 1) :
    Calls Try.prog 33 #[.string s, .int .i64 a] w (OneP w 5 (s.extract a (a + 1)) a true) := by
  have HR := Lib.hid (fun w => runN s a w hs (by omega))
  have HOP := Lib.hid (ropB 95 false (by decide))
  rw [hst] at HR
  clear hst
  unfold maxLen at hs
  have hw : IntKind.i64.wrap ((a : Int) + 1) = (a : Int) + 1 := by rw [IntKind.wrap_i64]; omega
  go_enter Try.func33, Try.ntmps33
  go_wp2_with fail
  refine (HOP.out _).mono ?_
  rintro e w1 ⟨rfl, hb⟩
  have HB := (Boxes.new w 5 (s.extract a (a + 1)) a).next hb
  clear hb
  obtain ⟨hbel, hsz, r0, r1, r2, t0, t1, t2, fr, ft⟩ := HB
  have f0 := fr 0 (by omega)
  have f1 := fr 1 (by omega)
  have f2 := fr 2 (by omega)
  have HBe := Lib.hid hbel
  clear hbel fr ft
  go_wp2_with fail
  first | (go_region_with (go_at_call 32; refine (HR.out _).mono ?_; rintro e w2 ⟨rfl, rfl⟩)) | fail
  all_goals
    go_wp2_with fail
    (try simp only [Exit.inBlock, Exit.then])
    refine bodyPost_ret (results_one (B := w.heap.size) (k := 5) (x := s.extract a (a + 1)) (a := a) (v := .bool true) (by rfl) (by rfl) (stored3 _ _ _ r0 r1 r2).1 (stored3 _ _ _ r0 r1 r2).2.1 (stored3 _ _ _ r0 r1 r2).2.2) rfl ?_
    exact ⟨rfl, (below_put3 HBe.out _ _ _).drew⟩

set_option maxHeartbeats 4000000 in
theorem one_us0 (s : ByteArray) (a : Nat) (w : World) (hs : s.size ≤ maxLen) (ha : a < s.size) (hc : s[a]'ha = 95) (hst : Lx.st 4 (s.data.toList.drop a) ≠ 1) :
    Calls Try.prog 33 #[.string s, .int .i64 a] w (OneP w 5 (s.extract a (a + 1)) a false) := by
  have HR := Lib.hid (fun w => runN s a w hs (by omega))
  have HOP := Lib.hid (ropB 95 false (by decide))
  generalize Lx.st 4 (s.data.toList.drop a) = n at *
  have hq1 : (((a + n : Nat) : Int) == (a : Int) + 1) = false := by simp; omega
  have hq2 : ((a : Int) + (n : Int) == (a : Int) + 1) = false := by simp; omega
  clear hst
  unfold maxLen at hs
  have hw : IntKind.i64.wrap ((a : Int) + 1) = (a : Int) + 1 := by rw [IntKind.wrap_i64]; omega
  go_enter Try.func33, Try.ntmps33
  go_wp2_with fail
  refine (HOP.out _).mono ?_
  rintro e w1 ⟨rfl, hb⟩
  have HB := (Boxes.new w 5 (s.extract a (a + 1)) a).next hb
  clear hb
  obtain ⟨hbel, hsz, r0, r1, r2, t0, t1, t2, fr, ft⟩ := HB
  have f0 := fr 0 (by omega)
  have f1 := fr 1 (by omega)
  have f2 := fr 2 (by omega)
  have HBe := Lib.hid hbel
  clear hbel fr ft
  go_wp2_with fail
  first | (go_region_with (go_at_call 32; refine (HR.out _).mono ?_; rintro e w2 ⟨rfl, rfl⟩)) | fail
  all_goals
    go_wp2_with fail
    (try simp only [Exit.inBlock, Exit.then])
    refine bodyPost_ret (results_one (B := w.heap.size) (k := 5) (x := s.extract a (a + 1)) (a := a) (v := .bool false) (by rfl) (by rfl) (stored3 _ _ _ r0 r1 r2).1 (stored3 _ _ _ r0 r1 r2).2.1 (stored3 _ _ _ r0 r1 r2).2.2) rfl ?_
    exact ⟨rfl, (below_put3 HBe.out _ _ _).drew⟩

end Go.Proofs.Ytcedigkknjioeaa
