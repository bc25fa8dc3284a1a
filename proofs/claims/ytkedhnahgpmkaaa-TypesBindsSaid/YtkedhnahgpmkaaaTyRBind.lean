/- What the reference's bind returns at leaves. Conditions: the list of numbers lies in memory. -/
import Derived.Test.YtkedhnahgpmkaaaTyDist
import Derived.Test.YtkedhnahgpmkaaaTyRS
import Derived.Test.YtkedhnahgpmkaaaTyMakers
namespace Go.Proofs.Ytkedhnahgpmkaaa
open Go.RowKit

namespace Ty
section
variable {base : Option Addr} {cap : Nat}

set_option maxHeartbeats 4000000 in
theorem rbd_same (l : List Int) (w : World) (kind op n : Int) (na : ByteArray) (b : Option Addr) (c k : Nat) (h1 : op ≠ kind) (h2 : ¬ (op = 1 ∧ (k : Int) ≤ n)) :
    Calls Try.prog 88 #[.agg #[.int .i64 op, .int .i64 n, .string na, .slice b 0 c], .int .i64 kind, .slice base l.length cap, .int .i64 k] w fun e w' => e = .returned (.agg #[.int .i64 op, .int .i64 n, .string na, .slice none 0 0]) ∧ Below w.heap.size w w' := by
  have q1 : (op == kind) = false := by simpa using h1
  have HR := Lib.hid (RS.new w (.int .i64 op) (.int .i64 n) (.string na) (.slice b 0 c) (.int .i64 op) (.int .i64 n) (.string na))
  obtain ⟨ht3, _⟩ := two_boxes w (.int .i64 op) (.int .i64 n) (.string na) (.slice b 0 c) (.int .i64 0) (.int .i64 0) (.string ⟨#[]⟩) (.slice none 0 0)
  obtain ⟨c0, c1, c2, c3⟩ := ht3.cells
  clear ht3
  by_cases h3 : op = 1
  · have q2 : (op == 1) = true := by simpa using h3
    have q3 : decide ((k : Int) ≤ n) = false := decide_eq_false (fun h => h2 ⟨h3, h⟩)
    clear h1 h2 h3
    go_enter Try.func88, Try.ntmps88
    go_upto_region 2 with fail
    obtain ⟨W3, hW3⟩ : ∃ W3, W3 = ((w.alloc (Obj.cells #[.int .i64 op, .int .i64 n, .string na, .slice b 0 c] 24)).alloc (Obj.cells #[.int .i64 0, .int .i64 0, .string ⟨#[]⟩, .slice none 0 0] 24)).alloc (Obj.cells #[.int .i64 op, .int .i64 n, .string na, .slice none 0 0] 24) := ⟨_, rfl⟩
    rw [← hW3] at HR ⊢
    clear hW3 c0 c1 c2 c3
    obtain ⟨q0, q1, q2, q3⟩ := HR.out.box.cells
    obtain ⟨p0, p1, p2, p3⟩ := HR.out.out.cells
    obtain ⟨z0, z1, z2, z3⟩ := HR.out.res.cells
    have f0 := HR.out.res.frozen 0
    have f1 := HR.out.res.frozen 1
    have f2 := HR.out.res.frozen 2
    have f3 := HR.out.res.frozen 3
    go_wp2_with fail
    refine wp_loop_rounds 1 ?_
    rw [rounds_succ]
    go_wp2_with fail
    refine bodyPost_ret (results_ty (a := 8) (by kernel_rfl) (B := w.heap.size + 1) (by rfl) (put4_cells HR.out.res _ _ _ _).cells.1 (put4_cells HR.out.res _ _ _ _).cells.2.1 (put4_cells HR.out.res _ _ _ _).cells.2.2.1 (put4_cells HR.out.res _ _ _ _).cells.2.2.2) rfl ?_
    exact ⟨rfl, below_put4 HR.out.below (by omega) _ _ _ _⟩
  · have q2 : (op == 1) = false := by simpa using h3
    clear h1 h2 h3
    go_enter Try.func88, Try.ntmps88
    go_upto_region 2 with fail
    obtain ⟨W3, hW3⟩ : ∃ W3, W3 = ((w.alloc (Obj.cells #[.int .i64 op, .int .i64 n, .string na, .slice b 0 c] 24)).alloc (Obj.cells #[.int .i64 0, .int .i64 0, .string ⟨#[]⟩, .slice none 0 0] 24)).alloc (Obj.cells #[.int .i64 op, .int .i64 n, .string na, .slice none 0 0] 24) := ⟨_, rfl⟩
    rw [← hW3] at HR ⊢
    clear hW3 c0 c1 c2 c3
    obtain ⟨q0, q1, q2, q3⟩ := HR.out.box.cells
    obtain ⟨p0, p1, p2, p3⟩ := HR.out.out.cells
    obtain ⟨z0, z1, z2, z3⟩ := HR.out.res.cells
    have f0 := HR.out.res.frozen 0
    have f1 := HR.out.res.frozen 1
    have f2 := HR.out.res.frozen 2
    have f3 := HR.out.res.frozen 3
    go_wp2_with fail
    refine wp_loop_rounds 1 ?_
    rw [rounds_succ]
    go_wp2_with fail
    refine bodyPost_ret (results_ty (a := 8) (by kernel_rfl) (B := w.heap.size + 1) (by rfl) (put4_cells HR.out.res _ _ _ _).cells.1 (put4_cells HR.out.res _ _ _ _).cells.2.1 (put4_cells HR.out.res _ _ _ _).cells.2.2.1 (put4_cells HR.out.res _ _ _ _).cells.2.2.2) rfl ?_
    exact ⟨rfl, below_put4 HR.out.below (by omega) _ _ _ _⟩

set_option maxHeartbeats 4000000 in
theorem rbd_bound (l : List Int) (w : World) (kind n : Int) (na : ByteArray) (b : Option Addr) (c k : Nat) (h1 : kind ≠ 1) (hl : l.length ≤ 600) (hn : 0 ≤ n ∧ n ≤ 9999) (h2 : (k : Int) ≤ n) :
    Calls Try.prog 88 #[.agg #[.int .i64 1, .int .i64 n, .string na, .slice b 0 c], .int .i64 kind, .slice base l.length cap, .int .i64 k] w fun e w' => e = .returned (.agg #[.int .i64 1, .int .i64 (n + l.length), .string na, .slice none 0 0]) ∧ Below w.heap.size w w' := by
  have q1 : ((1 : Int) == kind) = false := by simp; omega
  have q3 : decide ((k : Int) ≤ n) = true := decide_eq_true h2
  generalize l.length = la at *
  clear h1
  have HR := Lib.hid (RS.new w (.int .i64 1) (.int .i64 n) (.string na) (.slice b 0 c) (.int .i64 1) (.int .i64 n) (.string na))
  obtain ⟨ht3, _⟩ := two_boxes w (.int .i64 1) (.int .i64 n) (.string na) (.slice b 0 c) (.int .i64 0) (.int .i64 0) (.string ⟨#[]⟩) (.slice none 0 0)
  obtain ⟨c0, c1, c2, c3⟩ := ht3.cells
  clear ht3
  go_enter Try.func88, Try.ntmps88
  go_upto_region 2 with fail
  obtain ⟨W3, hW3⟩ : ∃ W3, W3 = ((w.alloc (Obj.cells #[.int .i64 1, .int .i64 n, .string na, .slice b 0 c] 24)).alloc (Obj.cells #[.int .i64 0, .int .i64 0, .string ⟨#[]⟩, .slice none 0 0] 24)).alloc (Obj.cells #[.int .i64 1, .int .i64 n, .string na, .slice none 0 0] 24) := ⟨_, rfl⟩
  rw [← hW3] at HR ⊢
  clear hW3 c0 c1 c2 c3
  obtain ⟨q0, q1, q2, q3⟩ := HR.out.box.cells
  obtain ⟨p0, p1, p2, p3⟩ := HR.out.out.cells
  obtain ⟨z0, z1, z2, z3⟩ := HR.out.res.cells
  have f0 := HR.out.res.frozen 0
  have f1 := HR.out.res.frozen 1
  have f2 := HR.out.res.frozen 2
  have f3 := HR.out.res.frozen 3
  have g1 := HR.out.out.frozen 1
  have HR2 : Hid (B4 (W3.setCell ⟨w.heap.size + 2, 1, none⟩ (.int .i64 (n + la))) (w.heap.size + 1) (.int .i64 0) (.int .i64 0) (.string ⟨#[]⟩) (.slice none 0 0)) := Lib.hid (one_other HR.out.res (by omega))
  have HB2 : Hid (Below w.heap.size w (W3.setCell ⟨w.heap.size + 2, 1, none⟩ (.int .i64 (n + la)))) := Lib.hid (HR.out.below.setCell (by show w.heap.size ≤ w.heap.size + 2; omega) _)
  go_wp2_with fail
  refine wp_loop_rounds 1 ?_
  rw [rounds_succ]
  go_wp2_with fail
  refine bodyPost_ret (results_ty (a := 8) (by kernel_rfl) (B := w.heap.size + 1) (by rfl) (put4_cells HR2.out _ _ _ _).cells.1 (put4_cells HR2.out _ _ _ _).cells.2.1 (put4_cells HR2.out _ _ _ _).cells.2.2.1 (put4_cells HR2.out _ _ _ _).cells.2.2.2) rfl ?_
  exact ⟨rfl, below_put4 HB2.out (by omega) _ _ _ _⟩

set_option maxHeartbeats 8000000 in
theorem rbd_none (l : List Int) (w : World) (kind n : Int) (na : ByteArray) (b : Option Addr) (c k : Nat) (h1 : kind ≠ 1) (hl : l.length ≤ 600) (hls : ISl w base l) (hx : n ∉ l) :
    Calls Try.prog 88 #[.agg #[.int .i64 kind, .int .i64 n, .string na, .slice b 0 c], .int .i64 kind, .slice base l.length cap, .int .i64 k] w fun e w' => e = .returned (.agg #[.int .i64 kind, .int .i64 n, .string na, .slice none 0 0]) ∧ Below w.heap.size w w' := by
  have q1 : (kind == kind) = true := by simp
  have q2 : (kind == 1) = false := by simpa using h1
  have HL := Lib.hid hls.2
  have HX := Lib.hid hx
  obtain ⟨m, hm⟩ : ∃ m, m = l.length := ⟨_, rfl⟩
  rw [← hm] at hl ⊢
  have HM := Lib.hid hm
  clear h1 hls hx hm
  have HR := Lib.hid (RS.new w (.int .i64 kind) (.int .i64 n) (.string na) (.slice b 0 c) (.int .i64 kind) (.int .i64 n) (.string na))
  obtain ⟨ht3, _⟩ := two_boxes w (.int .i64 kind) (.int .i64 n) (.string na) (.slice b 0 c) (.int .i64 0) (.int .i64 0) (.string ⟨#[]⟩) (.slice none 0 0)
  obtain ⟨c0, c1, c2, c3⟩ := ht3.cells
  clear ht3
  go_enter Try.func88, Try.ntmps88
  go_upto_region 2 with fail
  obtain ⟨W3, hW3⟩ : ∃ W3, W3 = ((w.alloc (Obj.cells #[.int .i64 kind, .int .i64 n, .string na, .slice b 0 c] 24)).alloc (Obj.cells #[.int .i64 0, .int .i64 0, .string ⟨#[]⟩, .slice none 0 0] 24)).alloc (Obj.cells #[.int .i64 kind, .int .i64 n, .string na, .slice none 0 0] 24) := ⟨_, rfl⟩
  rw [← hW3] at HR ⊢
  clear hW3 c0 c1 c2 c3
  obtain ⟨q0, q1, q2, q3⟩ := HR.out.box.cells
  obtain ⟨p0, p1, p2, p3⟩ := HR.out.out.cells
  obtain ⟨z0, z1, z2, z3⟩ := HR.out.res.cells
  have f0 := HR.out.res.frozen 0
  have f1 := HR.out.res.frozen 1
  have f2 := HR.out.res.frozen 2
  have f3 := HR.out.res.frozen 3
  go_wp2_with fail
  go_loop [42] (fun i => ∃ j : Nat, j ≤ m ∧ i = .int .i64 j) (fun i => m - (intOf i).toNat)
  case atStart => exact ⟨0, Nat.zero_le _, rfl⟩
  case round =>
    obtain ⟨j, hj, rfl⟩ := hrel
    by_cases hlt : j < m
    · have e1 : j < l.length := by rw [← HM.out]; exact hlt
      rcases HL.out with h0 | ⟨g, o, rfl, hrow⟩
      · exact absurd h0 (List.ne_nil_of_length_pos (by omega))
      have x0 := keeps HR.out.below _ _ (hrow j e1)
      obtain ⟨x, hx⟩ : ∃ x, x = l[j]'e1 := ⟨_, rfl⟩
      rw [← hx] at x0
      have he : (x == n) = false := by
        have : x ≠ n := fun e => HX.out (by rw [← e, hx]; exact List.getElem_mem e1)
        simpa using this
      clear hx hrow
      go_wp2_with fail
      go_round
      case rel => exact ⟨j + 1, by omega, by go_num⟩
      case measure => simp [intOf]; omega
    · go_wp2_with fail
      refine wp_loop_rounds 1 ?_
      rw [rounds_succ]
      go_wp2_with fail
      refine bodyPost_ret (results_ty (a := 8) (by kernel_rfl) (B := w.heap.size + 1) (by rfl) (put4_cells HR.out.res _ _ _ _).cells.1 (put4_cells HR.out.res _ _ _ _).cells.2.1 (put4_cells HR.out.res _ _ _ _).cells.2.2.1 (put4_cells HR.out.res _ _ _ _).cells.2.2.2) rfl ?_
      exact ⟨rfl, below_put4 HR.out.below (by omega) _ _ _ _⟩

set_option maxHeartbeats 8000000 in
theorem rbd_some (l : List Int) (w : World) (kind n : Int) (na : ByteArray) (b : Option Addr) (c k : Nat) (h1 : kind ≠ 1) (hl : l.length ≤ 600) (hls : ISl w base l) (i : Nat) (hk : k ≤ 1000000) (hx : idxN l n = some i) :
    Calls Try.prog 88 #[.agg #[.int .i64 kind, .int .i64 n, .string na, .slice b 0 c], .int .i64 kind, .slice base l.length cap, .int .i64 k] w fun e w' => e = .returned (.agg #[.int .i64 1, .int .i64 ((l.length : Int) - 1 - (i : Nat) + k), .string ⟨#[]⟩, .slice none 0 0]) ∧ Below w.heap.size w w' := by
  have q1 : (kind == kind) = true := by simp
  have q2 : (kind == 1) = false := by simpa using h1
  have HL := Lib.hid hls.2
  have HX := Lib.hid hx
  obtain ⟨m, hm⟩ : ∃ m, m = l.length := ⟨_, rfl⟩
  rw [← hm] at hl ⊢
  have HM := Lib.hid hm
  clear h1 hls hx hm
  have HR := Lib.hid (RS.new w (.int .i64 kind) (.int .i64 n) (.string na) (.slice b 0 c) (.int .i64 kind) (.int .i64 n) (.string na))
  obtain ⟨ht3, _⟩ := two_boxes w (.int .i64 kind) (.int .i64 n) (.string na) (.slice b 0 c) (.int .i64 0) (.int .i64 0) (.string ⟨#[]⟩) (.slice none 0 0)
  obtain ⟨c0, c1, c2, c3⟩ := ht3.cells
  clear ht3
  go_enter Try.func88, Try.ntmps88
  go_upto_region 2 with fail
  obtain ⟨W3, hW3⟩ : ∃ W3, W3 = ((w.alloc (Obj.cells #[.int .i64 kind, .int .i64 n, .string na, .slice b 0 c] 24)).alloc (Obj.cells #[.int .i64 0, .int .i64 0, .string ⟨#[]⟩, .slice none 0 0] 24)).alloc (Obj.cells #[.int .i64 kind, .int .i64 n, .string na, .slice none 0 0] 24) := ⟨_, rfl⟩
  rw [← hW3] at HR ⊢
  clear hW3 c0 c1 c2 c3
  obtain ⟨q0, q1, q2, q3⟩ := HR.out.box.cells
  obtain ⟨p0, p1, p2, p3⟩ := HR.out.out.cells
  obtain ⟨z0, z1, z2, z3⟩ := HR.out.res.cells
  have f0 := HR.out.res.frozen 0
  have f1 := HR.out.res.frozen 1
  have f2 := HR.out.res.frozen 2
  have f3 := HR.out.res.frozen 3
  go_wp2_with fail
  go_loop [42] (fun i' => ∃ j : Nat, j ≤ i ∧ i' = .int .i64 j) (fun i' => m - (intOf i').toNat)
  case atStart => exact ⟨0, Nat.zero_le _, rfl⟩
  case round =>
    obtain ⟨j, hj, rfl⟩ := hrel
    obtain ⟨hxi, hil⟩ := idx_some HX.out
    have e1 : j < l.length := by omega
    have hjm : j < m := by rw [HM.out]; exact e1
    rcases HL.out with h0 | ⟨g, o, rfl, hrow⟩
    · exact absurd h0 (List.ne_nil_of_length_pos (by omega))
    have x0 := keeps HR.out.below _ _ (hrow j e1)
    obtain ⟨x, hx⟩ : ∃ x, x = l[j]'e1 := ⟨_, rfl⟩
    rw [← hx] at x0
    by_cases hlt : j < i
    · have he : (x == n) = false := by
        have h := HX.out
        unfold idxN at h
        obtain ⟨_, _, h3⟩ := List.findIdx?_eq_some_iff_getElem.mp h
        have := h3 j hlt
        rw [hx]
        simpa using this
      clear hx hrow hxi hil
      go_wp2_with fail
      go_round
      case rel => exact ⟨j + 1, by omega, by go_num⟩
      case measure => simp [intOf]; omega
    · have hji : j = i := by omega
      subst hji
      have he : (x == n) = true := by
        rw [List.getElem?_eq_getElem e1, ← hx] at hxi
        injection hxi with hxi
        rw [hxi]
        simp
      clear hx hrow hxi hil hlt
      go_wp2_with fail
      refine (rvar _ _).mono ?_
      rintro e w4 ⟨rfl, hb⟩
      have HR4 := Lib.hid (HR.out.next hb)
      clear hb q0 q1 q2 q3 p0 p1 p2 p3 z0 z1 z2 z3 f0 f1 f2 f3
      obtain ⟨z0, z1, z2, z3⟩ := HR4.out.res.cells
      have f0 := HR4.out.res.frozen 0
      have f1 := HR4.out.res.frozen 1
      have f2 := HR4.out.res.frozen 2
      have f3 := HR4.out.res.frozen 3
      go_wp2_with fail
      refine bodyPost_ret (results_ty (a := 8) (by kernel_rfl) (B := w.heap.size + 1) (by rfl) (put4_cells HR4.out.res _ _ _ _).cells.1 (put4_cells HR4.out.res _ _ _ _).cells.2.1 (put4_cells HR4.out.res _ _ _ _).cells.2.2.1 (put4_cells HR4.out.res _ _ _ _).cells.2.2.2) rfl ?_
      exact ⟨rfl, below_put4 HR4.out.below (by omega) _ _ _ _⟩

def RBindC (kind : Int) (l : List Int) (base : Option Addr) (cap : Nat) (t : Ty) : Prop := ∀ (v : Value) (k : Nat) (w : World), V w t v → ISl w base l → k + nodes t ≤ 1000000 → Calls Try.prog 88 #[v, .int .i64 kind, .slice base l.length cap, .int .i64 k] w (RetF (reb (bdF kind l) t k ()).1 w)
theorem rbd_leaf (kind : Int) (hkind : kind = 6 ∨ kind = 7) (l : List Int) (hl : l.length ≤ 600) (op n : Int) (s : List UInt8) (hg : Good (.mk op n s [])) : RBindC kind l base cap (.mk op n s []) := by
  intro v k w hv hls hk
  obtain ⟨b, c, ev, _, _⟩ := hv
  rw [show v = .agg #[.int .i64 op, .int .i64 n, .string ⟨s.toArray⟩, .slice b 0 c] from ev]
  clear ev
  rw [reb_leaf]
  have hn : 0 ≤ n ∧ n ≤ 9999 := by
    cases hg with
    | var op n h1 h2 h3 => exact ⟨h2, h3⟩
    | con s h1 h2 => omega
  by_cases h1 : op = kind
  · subst h1
    cases hidx : idxN l n with
    | none =>
      have he : bdF op l (.mk op n s []) k () = (.mk op n s [], ()) := by
        unfold bdF
        rw [show idxN l (mk op n s []).n = none from hidx, if_neg (by simp), if_neg (show ¬ ((mk op n s []).op = 1 ∧ (k : Int) ≤ (mk op n s []).n) from fun h => by have : op = 1 := h.1; omega)]
      rw [he]
      exact (rbd_none l w op n ⟨s.toArray⟩ b c k (by omega) hl hls (idx_none.mp hidx)).mono fun e w' ⟨e1, e2⟩ => ⟨_, e1, ⟨none, 0, rfl, leaf_len hg, Nat.zero_le _, .inl rfl⟩, e2⟩
    | some i =>
      have he : bdF op l (.mk op n s []) k () = (.mk 1 ((l.length : Int) - 1 - (i : Nat) + k) [] [], ()) := by
        unfold bdF
        rw [show idxN l (mk op n s []).n = some i from hidx, if_pos (show (mk op n s []).op = op ∧ (some i).isSome = true from ⟨rfl, rfl⟩)]
        rfl
      rw [he]
      exact (rbd_some l w op n ⟨s.toArray⟩ b c k (by omega) hl hls i (by omega) hidx).mono fun e w' ⟨e1, e2⟩ => ⟨_, e1, ⟨none, 0, rfl, Nat.zero_le _, Nat.zero_le _, .inl rfl⟩, e2⟩
  · have h1' : ¬ ((mk op n s []).op = kind ∧ (idxN l (mk op n s []).n).isSome = true) := fun h => h1 h.1
    by_cases h2 : op = 1 ∧ (k : Int) ≤ n
    · obtain ⟨rfl, hkn⟩ := h2
      have he : bdF kind l (.mk 1 n s []) k () = (.mk 1 (n + l.length) s [], ()) := by
        unfold bdF
        rw [if_neg h1', if_pos (show (mk 1 n s []).op = 1 ∧ (k : Int) ≤ (mk 1 n s []).n from ⟨rfl, hkn⟩)]
        rfl
      rw [he]
      exact (rbd_bound l w kind n ⟨s.toArray⟩ b c k (by omega) hl hn hkn).mono fun e w' ⟨e1, e2⟩ => ⟨_, e1, ⟨none, 0, rfl, leaf_len hg, Nat.zero_le _, .inl rfl⟩, e2⟩
    · have he : bdF kind l (.mk op n s []) k () = (.mk op n s [], ()) := by
        unfold bdF
        rw [if_neg h1', if_neg (show ¬ ((mk op n s []).op = 1 ∧ (k : Int) ≤ (mk op n s []).n) from h2)]
      rw [he]
      exact (rbd_same l w kind op n ⟨s.toArray⟩ b c k h1 h2).mono fun e w' ⟨e1, e2⟩ => ⟨_, e1, ⟨none, 0, rfl, leaf_len hg, Nat.zero_le _, .inl rfl⟩, e2⟩
end
end Ty
end Go.Proofs.Ytkedhnahgpmkaaa
