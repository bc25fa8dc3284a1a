/- What the program's Bind returns. Conditions: the type and the list lie in memory. -/
import Derived.Test.YtkedhnahgpmkaaaTyBdl
import Derived.Test.YtkedhnahgpmkaaaTyReb87
import Derived.Test.YtkedhnahgpmkaaaTyPut
import Derived.Test.YtkedhnahgpmkaaaTyInts
namespace Go.Proofs.Ytkedhnahgpmkaaa
open Go.RowKit Go.WideMaps Go.Maps

namespace Ty
/-- four boxes: a type, a kind, a list, a result -/
structure Qua (w W : World) (a0 a1 a2 a3 : Value) (op : Int) (s : Value) : Prop where
  below : Below w.heap.size w W
  t : B4 W w.heap.size a0 a1 a2 a3
  o : W.heap[w.heap.size + 1]? = some (.cells #[.int .i64 op] 3 (0, 0))
  s : W.heap[w.heap.size + 2]? = some (.cells #[s] 25 (0, 0))
  r : B4 W (w.heap.size + 3) (.int .i64 0) (.int .i64 0) (.string ⟨#[]⟩) (.slice none 0 0)
theorem Qua.new (w : World) (a0 a1 a2 a3 : Value) (op : Int) (s : Value) : Qua w ((((w.alloc (Obj.cells #[a0, a1, a2, a3] 24)).alloc (Obj.cells #[.int .i64 op] 3)).alloc (Obj.cells #[s] 25)).alloc (Obj.cells #[.int .i64 0, .int .i64 0, .string ⟨#[]⟩, .slice none 0 0] 24)) a0 a1 a2 a3 op s := by
  refine ⟨?_, ?_, ?_, ?_, ?_⟩
  · exact ((((Below.refl _ _).alloc (Nat.le_refl _) _).alloc (by simp) _).alloc (by simp; omega) _).alloc (by simp; omega) _
  · exact push_old (push_old (push_old (push_at _ _ _ rfl)))
  · exact push_old (push_old (push_at _ _ _ (by simp)))
  · exact push_old (push_at _ _ _ (by simp))
  · exact push_at _ _ _ (by simp)
theorem Qua.next {w W W' : World} {a0 a1 a2 a3 : Value} {op : Int} {s : Value} (h : Qua w W a0 a1 a2 a3 op s) (hb : Below W.heap.size W W') : Qua w W' a0 a1 a2 a3 op s :=
  ⟨h.below.trans (hb.mono h.below.size), h.t.next hb, (hb.block _ (lt_of_block h.o)).trans h.o, (hb.block _ (lt_of_block h.s)).trans h.s, h.r.next hb⟩
theorem Qua.big {w W : World} {a0 a1 a2 a3 : Value} {op : Int} {s : Value} (h : Qua w W a0 a1 a2 a3 op s) : w.heap.size + 4 ≤ W.heap.size := by have := lt_of_block h.r; omega
theorem Qua.far {w W W' : World} {a0 a1 a2 a3 : Value} {op : Int} {s : Value} {H : Nat} (h : Qua w W a0 a1 a2 a3 op s) (hg : W.grownBy W' (some H)) (hH : w.heap.size + 4 ≤ H) : Qua w W' a0 a1 a2 a3 op s := by
  have k : ∀ j, j < w.heap.size + 4 → some j ≠ some H := fun j hj e => by injection e with e; omega
  exact ⟨h.below.grown hg h.below.size (fun j hj => by injection hj with hj; omega), (hg.block _ (lt_of_block h.t) (k _ (by omega))).trans h.t, (hg.block _ (lt_of_block h.o) (k _ (by omega))).trans h.o, (hg.block _ (lt_of_block h.s) (k _ (by omega))).trans h.s, (hg.block _ (lt_of_block h.r) (k _ (by omega))).trans h.r⟩

def bindT (op : Int) (l : List Int) (t : Ty) : Ty := (reb (bdF op l) t 0 ()).1
def BindP (op : Int) (l : List Int) (t : Ty) (w : World) (e : Ending) (w' : World) : Prop := ∃ v, e = .returned (fullV (bindT op l t) v) ∧ VO (w.heap.size ≤ ·) w' (bindT op l t) v ∧ Below w.heap.size w w'
/-- Bind behind its tests -/
def BindE (op : Int) (l : List Int) (t : Ty) (w : World) (e : Ending) (w' : World) : Prop := if distB l = true then BindP op l t w e w' else BadP 2 w e w'
theorem bindE_bad {op : Int} {l : List Int} {t : Ty} {w : World} {e : Ending} {w' : World} (h : distB l = false) (k : BadP 2 w e w') : BindE op l t w e w' := by unfold BindE; rw [if_neg (by rw [h]; simp)]; exact k
theorem bindE_ok {op : Int} {l : List Int} {t : Ty} {w : World} {e : Ending} {w' : World} (h : distB l = true) (k : BindP op l t w e w') : BindE op l t w e w' := by unfold BindE; rw [if_pos h]; exact k
theorem dist_twice {l : List Int} {j : Nat} (hj : j < l.length) (h : l[j]'hj ∈ l.take j) : distB l = false := by
  have hn : ¬ l.Nodup := fun hnd => by
    rw [← List.take_append_drop j l, List.nodup_append] at hnd
    exact hnd.2.2 _ h _ (by rw [List.drop_eq_getElem_cons hj]; exact List.mem_cons_self) rfl
  unfold distB
  rw [decide_eq_false hn]
  simp
theorem dist_num {l : List Int} {j : Nat} (hj : j < l.length) (h : numB (l[j]'hj) = false) : distB l = false := by
  have hn : (l.all (fun n => decide (0 ≤ n) && decide (n ≤ 9999))) = false := by
    cases hc : l.all (fun n => decide (0 ≤ n) && decide (n ≤ 9999)) with
    | false => rfl
    | true =>
      have := List.all_eq_true.mp hc _ (List.getElem_mem hj)
      unfold numB at h
      rw [h] at this; cases this
  unfold distB
  rw [hn]
  simp
theorem dist_ok {l : List Int} (hl : l.length ≤ 600) (h : ∀ j (hj : j < l.length), l[j]'hj ∉ l.take j ∧ numB (l[j]'hj) = true) : distB l = true := by
  have hn : l.Nodup := by
    rw [List.nodup_iff_pairwise_ne, List.pairwise_iff_getElem]
    intro i j hi hj hij e
    refine (h j hj).1 ?_
    rw [← e]
    exact List.mem_take_iff_getElem.mpr ⟨i, by omega, rfl⟩
  have ha : (l.all (fun n => decide (0 ≤ n) && decide (n ≤ 9999))) = true := by
    rw [List.all_eq_true]
    intro x hx
    obtain ⟨j, hj, rfl⟩ := List.mem_iff_getElem.mp hx
    have := (h j hj).2
    unfold numB at this
    exact this
  unfold distB
  rw [decide_eq_true hn, ha, decide_eq_true hl]
  rfl
theorem dist_parts {l : List Int} (h : distB l = true) : l.length ≤ 600 ∧ l.Nodup := by
  unfold distB at h
  simp only [Bool.and_eq_true, decide_eq_true_eq] at h
  exact ⟨h.1, h.2.2⟩

set_option maxRecDepth 100000 in
set_option maxHeartbeats 8000000 in
theorem bind_bad (t : Ty) (op : Int) (l : List Int) (v : Value) (base : Option Addr) (cap : Nat) (w : World) (hv : V w t v) (hlen : l.length ≤ 1000000) (hbad : isProper t = false ∨ (op ≠ 6 ∧ op ≠ 7) ∨ 600 < l.length) : Calls Try.prog 49 #[v, .int .i64 op, .slice base l.length cap] w (BadP 2 w) := by
  have hty := fun W (hb : Below w.heap.size w W) => ptype_any t v W (hv.next hb)
  obtain ⟨b, c, ev, _, _⟩ := hv
  subst ev
  have HQ := Lib.hid (Qua.new w (.int .i64 t.op) (.int .i64 t.n) (.string t.name) (.slice b t.args.length c) op (.slice base l.length cap))
  have HC := Lib.hid hty
  clear hty
  generalize l.length = n at *
  generalize isProper t = p at *
  cases p with
  | false =>
    clear hbad
    go_enter Try.func49, Try.ntmps49
    go_upto_region 1 with fail
    obtain ⟨W2, hW2⟩ : ∃ W2, W2 = (((w.alloc (Obj.cells #[.int .i64 t.op, .int .i64 t.n, .string t.name, .slice b t.args.length c] 24)).alloc (Obj.cells #[.int .i64 op] 3)).alloc (Obj.cells #[.slice base n cap] 25)).alloc (Obj.cells #[.int .i64 0, .int .i64 0, .string ⟨#[]⟩, .slice none 0 0] 24) := ⟨_, rfl⟩
    rw [← hW2] at HQ ⊢
    clear hW2
    obtain ⟨c0, c1, c2, c3⟩ := HQ.out.t.cells
    go_wp2_with fail
    refine (HC.out W2 HQ.out.below).mono ?_
    rintro e w2 ⟨rfl, hb⟩
    have HQ2 := Lib.hid (HQ.out.next hb)
    clear hb c0 c1 c2 c3 HQ HC
    have o0 := one_cell HQ2.out.o
    have s0 := one_cell HQ2.out.s
    have HR := Lib.hid HQ2.out.r
    obtain ⟨z0, z1, z2, z3⟩ := HR.out.cells
    have f0 := HR.out.frozen 0
    have f1 := HR.out.frozen 1
    have f2 := HR.out.frozen 2
    have f3 := HR.out.frozen 3
    go_wp2_with fail
    refine bodyPost_ret (results_two (a := 6) (b := 7) (by kernel_rfl) (B := w.heap.size + 3) (by rfl) (by rfl) (put4_cells HR.out _ _ _ _).cells.1 (put4_cells HR.out _ _ _ _).cells.2.1 (put4_cells HR.out _ _ _ _).cells.2.2.1 (put4_cells HR.out _ _ _ _).cells.2.2.2) rfl ?_
    exact ⟨rfl, below_put4 HQ2.out.below (by omega) _ _ _ _⟩
  | true =>
    by_cases hop : op ≠ 6 ∧ op ≠ 7
    · have q6 : (op != 6) = true := by simpa using hop.1
      have q7 : (op != 7) = true := by simpa using hop.2
      clear hbad hop
      go_enter Try.func49, Try.ntmps49
      go_upto_region 1 with fail
      obtain ⟨W2, hW2⟩ : ∃ W2, W2 = (((w.alloc (Obj.cells #[.int .i64 t.op, .int .i64 t.n, .string t.name, .slice b t.args.length c] 24)).alloc (Obj.cells #[.int .i64 op] 3)).alloc (Obj.cells #[.slice base n cap] 25)).alloc (Obj.cells #[.int .i64 0, .int .i64 0, .string ⟨#[]⟩, .slice none 0 0] 24) := ⟨_, rfl⟩
      rw [← hW2] at HQ ⊢
      clear hW2
      obtain ⟨c0, c1, c2, c3⟩ := HQ.out.t.cells
      go_wp2_with fail
      refine (HC.out W2 HQ.out.below).mono ?_
      rintro e w2 ⟨rfl, hb⟩
      have HQ2 := Lib.hid (HQ.out.next hb)
      clear hb c0 c1 c2 c3 HQ HC
      have o0 := one_cell HQ2.out.o
      have s0 := one_cell HQ2.out.s
      have HR := Lib.hid HQ2.out.r
      obtain ⟨z0, z1, z2, z3⟩ := HR.out.cells
      have f0 := HR.out.frozen 0
      have f1 := HR.out.frozen 1
      have f2 := HR.out.frozen 2
      have f3 := HR.out.frozen 3
      go_wp2_with fail
      refine bodyPost_ret (results_two (a := 6) (b := 7) (by kernel_rfl) (B := w.heap.size + 3) (by rfl) (by rfl) (put4_cells HR.out _ _ _ _).cells.1 (put4_cells HR.out _ _ _ _).cells.2.1 (put4_cells HR.out _ _ _ _).cells.2.2.1 (put4_cells HR.out _ _ _ _).cells.2.2.2) rfl ?_
      exact ⟨rfl, below_put4 HQ2.out.below (by omega) _ _ _ _⟩
    · have hn : 600 < n := by
        rcases hbad with h | h | h
        · cases h
        · exact absurd h hop
        · exact h
      have q5 : decide ((600 : Int) < (n : Int)) = true := decide_eq_true (by omega)
      clear hbad
      by_cases h7 : op = 7
      · have q7 : (op != 7) = false := by simpa using h7
        have q6 : (op != 6) = true := by simp; omega
        clear hop h7
        go_enter Try.func49, Try.ntmps49
        go_upto_region 1 with fail
        obtain ⟨W2, hW2⟩ : ∃ W2, W2 = (((w.alloc (Obj.cells #[.int .i64 t.op, .int .i64 t.n, .string t.name, .slice b t.args.length c] 24)).alloc (Obj.cells #[.int .i64 op] 3)).alloc (Obj.cells #[.slice base n cap] 25)).alloc (Obj.cells #[.int .i64 0, .int .i64 0, .string ⟨#[]⟩, .slice none 0 0] 24) := ⟨_, rfl⟩
        rw [← hW2] at HQ ⊢
        clear hW2
        obtain ⟨c0, c1, c2, c3⟩ := HQ.out.t.cells
        go_wp2_with fail
        refine (HC.out W2 HQ.out.below).mono ?_
        rintro e w2 ⟨rfl, hb⟩
        have HQ2 := Lib.hid (HQ.out.next hb)
        clear hb c0 c1 c2 c3 HQ HC
        have o0 := one_cell HQ2.out.o
        have s0 := one_cell HQ2.out.s
        have HR := Lib.hid HQ2.out.r
        obtain ⟨z0, z1, z2, z3⟩ := HR.out.cells
        have f0 := HR.out.frozen 0
        have f1 := HR.out.frozen 1
        have f2 := HR.out.frozen 2
        have f3 := HR.out.frozen 3
        go_wp2_with fail
        refine bodyPost_ret (results_two (a := 6) (b := 7) (by kernel_rfl) (B := w.heap.size + 3) (by rfl) (by rfl) (put4_cells HR.out _ _ _ _).cells.1 (put4_cells HR.out _ _ _ _).cells.2.1 (put4_cells HR.out _ _ _ _).cells.2.2.1 (put4_cells HR.out _ _ _ _).cells.2.2.2) rfl ?_
        exact ⟨rfl, below_put4 HQ2.out.below (by omega) _ _ _ _⟩
      · have q7 : (op != 7) = true := by simpa using h7
        have q6 : (op != 6) = false := by simp; omega
        clear hop h7
        go_enter Try.func49, Try.ntmps49
        go_upto_region 1 with fail
        obtain ⟨W2, hW2⟩ : ∃ W2, W2 = (((w.alloc (Obj.cells #[.int .i64 t.op, .int .i64 t.n, .string t.name, .slice b t.args.length c] 24)).alloc (Obj.cells #[.int .i64 op] 3)).alloc (Obj.cells #[.slice base n cap] 25)).alloc (Obj.cells #[.int .i64 0, .int .i64 0, .string ⟨#[]⟩, .slice none 0 0] 24) := ⟨_, rfl⟩
        rw [← hW2] at HQ ⊢
        clear hW2
        obtain ⟨c0, c1, c2, c3⟩ := HQ.out.t.cells
        go_wp2_with fail
        refine (HC.out W2 HQ.out.below).mono ?_
        rintro e w2 ⟨rfl, hb⟩
        have HQ2 := Lib.hid (HQ.out.next hb)
        clear hb c0 c1 c2 c3 HQ HC
        have o0 := one_cell HQ2.out.o
        have s0 := one_cell HQ2.out.s
        have HR := Lib.hid HQ2.out.r
        obtain ⟨z0, z1, z2, z3⟩ := HR.out.cells
        have f0 := HR.out.frozen 0
        have f1 := HR.out.frozen 1
        have f2 := HR.out.frozen 2
        have f3 := HR.out.frozen 3
        go_wp2_with fail
        refine bodyPost_ret (results_two (a := 6) (b := 7) (by kernel_rfl) (B := w.heap.size + 3) (by rfl) (by rfl) (put4_cells HR.out _ _ _ _).cells.1 (put4_cells HR.out _ _ _ _).cells.2.1 (put4_cells HR.out _ _ _ _).cells.2.2.1 (put4_cells HR.out _ _ _ _).cells.2.2.2) rfl ?_
        exact ⟨rfl, below_put4 HQ2.out.below (by omega) _ _ _ _⟩

/-- where the loop over the numbers stands -/
structure BL (w : World) (a0 a1 a2 a3 : Value) (op : Int) (base : Option Addr) (cap : Nat) (l : List Int) (H j : Nat) (wr : World) : Prop where
  q : Qua w wr a0 a1 a2 a3 op (.slice base l.length cap)
  mb : wr.heap[H + 1]? = some (.cells #[.map (some H)] 101 (0, 0))
  own : wr.ownsMap Try.prog 3 (plainElem Try.prog 3) H j (mset l.length (l.take j))
  good : ∀ k (h : k < l.length), k < j → l[k]'h ∉ l.take k ∧ numB (l[k]'h) = true
theorem bl_made {w w2 : World} {a0 a1 a2 a3 : Value} {op : Int} {base : Option Addr} {cap : Nat} {l : List Int} (h : Qua w w2 a0 a1 a2 a3 op (.slice base l.length cap)) :
    BL w a0 a1 a2 a3 op base cap l w2.heap.size 0 ((w2.alloc (.map #[] 0)).alloc (Obj.cells #[.map (some w2.heap.size)] 101)) := by
  refine ⟨h.next (below_two w2 _ _), ?_, (World.ownsMap_made w2 Try.prog 3 (plainElem Try.prog 3)).alloc _, fun k _ hk => absurd hk (Nat.not_lt_zero _)⟩
  have := heap_alloc_new (w2.alloc (.map #[] 0)) (Obj.cells #[.map (some w2.heap.size)] 101)
  rw [show (w2.alloc (.map #[] 0)).heap.size = w2.heap.size + 1 from by simp] at this
  exact this
theorem bl_step {w wr w' : World} {a0 a1 a2 a3 : Value} {op : Int} {base : Option Addr} {cap : Nat} {l : List Int} {H j : Nat} (h : BL w a0 a1 a2 a3 op base cap l H j wr) (hj : j < l.length) (hH : w.heap.size + 4 ≤ H) (hx : l[j]'hj ∉ l.take j) (hn : numB (l[j]'hj) = true)
    (hown : w'.ownsMap Try.prog 3 (plainElem Try.prog 3) H (j + 1) ((mset l.length (l.take j)).put (.int .i64 (l[j]'hj)) (.lit (.int .i64 ((l.length : Int) - 1 - j))))) (hg : wr.grownBy w' (some H)) : BL w a0 a1 a2 a3 op base cap l H (j + 1) w' := by
  refine ⟨h.q.far hg hH, (hg.block _ (lt_of_block h.mb) (fun e => by injection e with e; omega)).trans h.mb, ?_, fun k hk hkj => ?_⟩
  · rw [List.take_succ_eq_append_getElem hj, mset_snoc, List.length_take, Nat.min_eq_left (by omega)]
    exact hown
  · by_cases e : k = j
    · subst e; exact ⟨hx, hn⟩
    · exact h.good k hk (by omega)

set_option maxRecDepth 100000 in
set_option maxHeartbeats 16000000 in
theorem bind_ok6 (t : Ty) (l : List Int) (v : Value) (base : Option Addr) (cap : Nat) (w : World) (hv : V w t v) (hl : ISl w base l) (hr : ∀ x ∈ l, -9223372036854775808 ≤ x ∧ x ≤ 9223372036854775807) (hpt : isProper t = true) (hlen : l.length ≤ 600) : Calls Try.prog 49 #[v, .int .i64 6, .slice base l.length cap] w (BindE 6 l t w) := by
  have hty := fun W (hb : Below w.heap.size w W) => ptype_any t v W (hv.next hb)
  rw [hpt] at hty
  have hnt := proper_nodes t hpt
  have hcall := fun (W : World) (H : Nat) (hH : H + 1 < W.heap.size) (hd : distB l = true) (hb : Below w.heap.size w W) (h3 : w.heap.size + 4 ≤ W.heap.size) (hi : BdI (H + 1) (w.heap.size + 1) (w.heap.size + 2) H 6 base cap l W) =>
    rep_of (reb_87 (bdl_leaf (cap := cap) (base := base) w W.heap.size (by omega) hlen (dist_parts hd).2 ⟨hH, by omega, by omega, by omega⟩) (fun W1 W2 st h hb2 => h.next hH (by omega) (by omega) (by omega) hb2) (fun j hj => nomatch hj) hb.size t (Good.of hpt)) (fun W1 W2 st h hb2 => h.next hH (by omega) (by omega) (by omega) hb2) (fun j hj => nomatch hj) v () W hv hb (Nat.le_refl _) hi (by omega)
  obtain ⟨b, c, ev, _, _⟩ := hv
  subst ev
  have HQ := Lib.hid (Qua.new w (.int .i64 t.op) (.int .i64 t.n) (.string t.name) (.slice b t.args.length c) 6 (.slice base l.length cap))
  have HC := Lib.hid hty
  have HCALL := Lib.hid hcall
  have HL := Lib.hid hl.2
  have HRG := Lib.hid hr
  clear hty hl hcall hpt hnt hr
  obtain ⟨r, hrr⟩ : ∃ r, r = bindT 6 l t := ⟨_, rfl⟩
  have HRR := Lib.hid hrr
  clear hrr
  have HFUL := Lib.hid (fun v (w : World) (hv : V w r v) => full_any r v w hv)
  obtain ⟨m, hm⟩ : ∃ m, m = l.length := ⟨_, rfl⟩
  have HM := Lib.hid hm
  rw [← hm] at hlen ⊢
  rw [← hm] at HQ
  clear hm
  have q5 : decide ((600 : Int) < (m : Int)) = false := decide_eq_false (by omega)
  go_enter Try.func49, Try.ntmps49
  go_upto_region 1 with fail
  obtain ⟨W2, hW2⟩ : ∃ W2, W2 = (((w.alloc (Obj.cells #[.int .i64 t.op, .int .i64 t.n, .string t.name, .slice b t.args.length c] 24)).alloc (Obj.cells #[.int .i64 6] 3)).alloc (Obj.cells #[.slice base m cap] 25)).alloc (Obj.cells #[.int .i64 0, .int .i64 0, .string ⟨#[]⟩, .slice none 0 0] 24) := ⟨_, rfl⟩
  rw [← hW2] at HQ ⊢
  clear hW2
  obtain ⟨c0, c1, c2, c3⟩ := HQ.out.t.cells
  go_wp2_with fail
  refine (HC.out W2 HQ.out.below).mono ?_
  rintro e w2 ⟨rfl, hb⟩
  have HQ2 := Lib.hid (HQ.out.next hb)
  clear hb c0 c1 c2 c3 HQ HC
  have o0 := one_cell HQ2.out.o
  have s0 := one_cell HQ2.out.s
  have hmade : BL w _ _ _ _ 6 base cap l w2.heap.size 0 _ := bl_made (by rw [← HM.out]; exact HQ2.out)
  have HH4 : Hid (w.heap.size + 4 ≤ w2.heap.size) := Lib.hid HQ2.out.big
  have hmm := @run_makeMap Try.prog
  have HMADE := Lib.hid hmade
  have s1 := one_cell hmade.q.s
  have m1 : ((w2.alloc (.map #[] 0)).alloc (Obj.cells #[.map (some w2.heap.size)] 101)).cell? ⟨w2.heap.size + 1, 0, none⟩ = _ := one_cell hmade.mb
  rw [← HM.out] at s1
  clear hmade
  go_wp2_with fail
  clear s1 m1 o0 s0 hmm
  go_loopw [33] (fun i wr => ∃ j : Nat, j ≤ m ∧ i = .int .i64 j ∧ Hid (BL w (.int .i64 t.op) (.int .i64 t.n) (.string t.name) (.slice b t.args.length c) 6 base cap l w2.heap.size j wr)) (fun i _ => m - (intOf i).toNat)
  case atStart => exact ⟨0, Nat.zero_le _, rfl, HMADE⟩
  case round =>
    obtain ⟨j, hj, rfl, HS⟩ := hrel
    have m1 := one_cell HS.out.mb
    have s1 := one_cell HS.out.q.s
    rw [← HM.out] at s1
    by_cases hlt : j < m
    · have h1 : j < l.length := by rw [← HM.out]; exact hlt
      rcases HL.out with h0 | ⟨g, o, rfl, hrow⟩
      · exact absurd h0 (List.ne_nil_of_length_pos (by omega))
      have x0 := keeps HS.out.q.below _ _ (hrow j h1)
      obtain ⟨x, hx⟩ : ∃ x, x = l[j]'h1 := ⟨_, rfl⟩
      rw [← hx] at x0
      have hxr := HRG.out x (by rw [hx]; exact List.getElem_mem h1)
      have HX := Lib.hid hx
      have HK : Hid (keyOf Try.prog 3 (.int .i64 x) = some (.int .i64 x)) := Lib.hid (keyOf_int_mk Try.underlying3 (int_wf hxr))
      have HHAS := Lib.hid (mset_has l.length x (l.take j))
      have HOWN := Lib.hid HS.out.own
      clear hx hrow hxr
      cases hs : decide (x ∈ l.take j) with
      | true =>
        have HD : Hid (distB l = false) := Lib.hid (dist_twice h1 (by rw [← HX.out]; exact of_decide_eq_true hs))
        rw [hs] at HHAS
        have HR := Lib.hid HS.out.q.r
        clear hs
        obtain ⟨z0, z1, z2, z3⟩ := HR.out.cells
        have f0 := HR.out.frozen 0
        have f1 := HR.out.frozen 1
        have f2 := HR.out.frozen 2
        have f3 := HR.out.frozen 3
        go_wp2_with (at_lookup; go_loud (refine wpList_lookup_own_ok_int _ rfl _ _ 101 rfl 3 3 .i64 ikeys Try.underlying101 Try.underlying3 (int_zero _) w2.heap.size j _ rfl HOWN.out _ (.int .i64 x) rfl HK.out ?_; intro cc _ _; rw [HHAS.out]))
        refine bodyPost_ret (results_two (a := 6) (b := 7) (by kernel_rfl) (B := w.heap.size + 3) (by rfl) (by rfl) (put4_cells HR.out _ _ _ _).cells.1 (put4_cells HR.out _ _ _ _).cells.2.1 (put4_cells HR.out _ _ _ _).cells.2.2.1 (put4_cells HR.out _ _ _ _).cells.2.2.2) rfl ?_
        exact bindE_bad HD.out ⟨rfl, below_put4 HS.out.q.below (by omega) _ _ _ _⟩
      | false =>
        have HNEW : Hid (l[j]'h1 ∉ l.take j) := Lib.hid (by rw [← HX.out]; exact of_decide_eq_false hs)
        rw [hs] at HHAS
        clear hs
        cases hnb : numB x with
        | false =>
          have HD : Hid (distB l = false) := Lib.hid (dist_num h1 (by rw [← HX.out]; exact hnb))
          have HNB := Lib.hid hnb
          have HR := Lib.hid HS.out.q.r
          clear hnb
          obtain ⟨z0, z1, z2, z3⟩ := HR.out.cells
          have f0 := HR.out.frozen 0
          have f1 := HR.out.frozen 1
          have f2 := HR.out.frozen 2
          have f3 := HR.out.frozen 3
          go_wp2_with (first | (at_lookup; go_loud (refine wpList_lookup_own_ok_int _ rfl _ _ 101 rfl 3 3 .i64 ikeys Try.underlying101 Try.underlying3 (int_zero _) w2.heap.size j _ rfl HOWN.out _ (.int .i64 x) rfl HK.out ?_; intro cc _ _; rw [HHAS.out])) | (go_at_call 62; refine (pnumber _ _ HNB.out _).mono ?_; rintro e w3 ⟨rfl, rfl⟩))
          refine bodyPost_ret (results_two (a := 6) (b := 7) (by kernel_rfl) (B := w.heap.size + 3) (by rfl) (by rfl) (put4_cells HR.out _ _ _ _).cells.1 (put4_cells HR.out _ _ _ _).cells.2.1 (put4_cells HR.out _ _ _ _).cells.2.2.1 (put4_cells HR.out _ _ _ _).cells.2.2.2) rfl ?_
          exact bindE_bad HD.out ⟨rfl, below_put4 HS.out.q.below (by omega) _ _ _ _⟩
        | true =>
          have HNUM : Hid (numB (l[j]'h1) = true) := Lib.hid (by rw [← HX.out]; exact hnb)
          have HNB := Lib.hid hnb
          have HV : Hid (plainElem (H := Unit) Try.prog 3 (.int .i64 ((m : Int) - 1 - j)) = some (.lit (.int .i64 ((m : Int) - 1 - j)), [])) := Lib.hid (plainElem_int Try.underlying3 (int_wf (by omega)))
          have HJ : Hid (j < maxLen) := Lib.hid (by unfold maxLen; omega)
          clear hnb
          go_wp2_with (first
            | (at_lookup; go_loud (refine wpList_lookup_own_ok_int _ rfl _ _ 101 rfl 3 3 .i64 ikeys Try.underlying101 Try.underlying3 (int_zero _) w2.heap.size j _ rfl HOWN.out _ (.int .i64 x) rfl HK.out ?_; intro cc _ _; rw [HHAS.out]))
            | (go_at_call 62; refine (pnumber _ _ HNB.out _).mono ?_; rintro e w3 ⟨rfl, rfl⟩)
            | (at_mapUpdate; go_loud (refine wpList_mapUpdate_own _ rfl _ _ _ 101 rfl 3 3 ikeys Try.underlying101 _ w2.heap.size j _ rfl HOWN.out HJ.out _ _ (.int .i64 x) rfl rfl HK.out _ [] HV.out ?_; intro w4 hown4 hgr4; have HST : Hid (BL w (.int .i64 t.op) (.int .i64 t.n) (.string t.name) (.slice b t.args.length c) 6 (some ⟨g, o, none⟩) cap l w2.heap.size (j + 1) w4) := Lib.hid (bl_step HS.out h1 HH4.out HNEW.out HNUM.out (by rw [HX.out, HM.out] at hown4; exact hown4) hgr4); clear hown4 hgr4)))
          go_roundw
          case rel => exact ⟨j + 1, by omega, by go_num, HST⟩
          case measure => simp [intOf]; omega
    · have hjm : j = m := by omega
      have HD : Hid (distB l = true) := Lib.hid (dist_ok (by rw [← HM.out]; exact hlen) (fun k hk => HS.out.good k hk (by rw [hjm, HM.out]; exact hk)))
      have hown := HS.out.own
      rw [List.take_of_length_le (by rw [← HM.out]; omega), hjm, HM.out] at hown
      have HQ5 := Lib.hid HS.out.q
      have HHW : Hid (w2.heap.size + 1 < wr.heap.size) := Lib.hid (lt_of_block HS.out.mb)
      have hcl := HCALL.out wr w2.heap.size HHW.out HD.out HQ5.out.below HQ5.out.big ⟨HS.out.mb, hown, HQ5.out.o, HQ5.out.s⟩
      rw [show RebP (reb (bdF 6 l) t 0 ()) (fun W _ => BdI (w2.heap.size + 1) (w.heap.size + 1) (w.heap.size + 2) w2.heap.size 6 base cap l W) none wr = RebP (r, ()) (fun W _ => BdI (w2.heap.size + 1) (w.heap.size + 1) (w.heap.size + 2) w2.heap.size 6 base cap l W) none wr from by rw [HRR.out]; rfl] at hcl
      have HCL := Lib.hid hcl
      obtain ⟨c0, c1, c2, c3⟩ := HQ5.out.t.cells
      clear hown hcl hjm HS m1 s1
      go_wp2_with fail
      refine HCL.out.mono ?_
      rintro e w4 ⟨v4, rfl, ⟨b9, c9, rfl, hs9, hl9⟩, hgr, _⟩
      have HV : Hid (VO (wr.heap.size ≤ ·) w4 r _) := Lib.hid ⟨b9, c9, rfl, hs9, hl9⟩
      have HB4 := Lib.hid (HQ5.out.below.grown hgr HQ5.out.below.size (fun j hj => nomatch hj))
      have HR4 := Lib.hid (HQ5.out.r.nextm (lim := 0) hgr (fun j hj => nomatch hj) (Nat.zero_le _))
      have HZ : Hid (w.heap.size + 3 < wr.heap.size) := Lib.hid (lt_of_block HQ5.out.r)
      clear hs9 hl9 hgr c0 c1 c2 c3
      go_wp2_with fail
      refine (HFUL.out _ w4 HV.out.weak).mono ?_
      rintro e w5 ⟨rfl, hb⟩
      have HB5 := Lib.hid (HB4.out.trans (hb.mono HB4.out.size))
      have HR5 := Lib.hid (HR4.out.next hb)
      have HV5 := Lib.hid (HV.out.next hb)
      clear hb HB4 HR4 HV
      obtain ⟨z0, z1, z2, z3⟩ := HR5.out.cells
      have f0 := HR5.out.frozen 0
      have f1 := HR5.out.frozen 1
      have f2 := HR5.out.frozen 2
      have f3 := HR5.out.frozen 3
      cases hp : isProper r with
      | true =>
        have HE := Lib.hid (fullV_ok hp (.agg #[.int .i64 r.op, .int .i64 r.n, .string r.name, .slice b9 r.args.length c9]))
        rw [HE.out]
        clear hp
        go_wp2_with fail
        refine bodyPost_ret (results_two (a := 6) (b := 7) (by kernel_rfl) (B := w.heap.size + 3) (by rfl) (by rfl) (put4_cells HR5.out _ _ _ _).cells.1 (put4_cells HR5.out _ _ _ _).cells.2.1 (put4_cells HR5.out _ _ _ _).cells.2.2.1 (put4_cells HR5.out _ _ _ _).cells.2.2.2) rfl ?_
        have hz := HZ.out
        refine bindE_ok HD.out ?_
        unfold BindP
        rw [← HRR.out]
        refine ⟨.agg #[.int .i64 r.op, .int .i64 r.n, .string r.name, .slice b9 r.args.length c9], by first | (rw [HE.out]; rfl) | rw [HE.out], HV5.out.keep (fun g hg => by show w.heap.size ≤ g; have : wr.heap.size ≤ g := hg; omega) (fun p v hp hc => put4_keep _ _ _ _ p v hc (by have : wr.heap.size ≤ p.block := hp; omega)), below_put4 HB5.out (by omega) _ _ _ _⟩
      | false =>
        have HE := Lib.hid (fullV_bad hp (.agg #[.int .i64 r.op, .int .i64 r.n, .string r.name, .slice b9 r.args.length c9]))
        rw [HE.out]
        clear hp
        go_wp2_with fail
        refine bodyPost_ret (results_two (a := 6) (b := 7) (by kernel_rfl) (B := w.heap.size + 3) (by rfl) (by rfl) (put4_cells HR5.out _ _ _ _).cells.1 (put4_cells HR5.out _ _ _ _).cells.2.1 (put4_cells HR5.out _ _ _ _).cells.2.2.1 (put4_cells HR5.out _ _ _ _).cells.2.2.2) rfl ?_
        have hz := HZ.out
        refine bindE_ok HD.out ?_
        unfold BindP
        rw [← HRR.out]
        refine ⟨.agg #[.int .i64 r.op, .int .i64 r.n, .string r.name, .slice b9 r.args.length c9], by first | (rw [HE.out]; rfl) | rw [HE.out], HV5.out.keep (fun g hg => by show w.heap.size ≤ g; have : wr.heap.size ≤ g := hg; omega) (fun p v hp hc => put4_keep _ _ _ _ p v hc (by have : wr.heap.size ≤ p.block := hp; omega)), below_put4 HB5.out (by omega) _ _ _ _⟩

set_option maxRecDepth 100000 in
set_option maxHeartbeats 16000000 in
theorem bind_ok7 (t : Ty) (l : List Int) (v : Value) (base : Option Addr) (cap : Nat) (w : World) (hv : V w t v) (hl : ISl w base l) (hr : ∀ x ∈ l, -9223372036854775808 ≤ x ∧ x ≤ 9223372036854775807) (hpt : isProper t = true) (hlen : l.length ≤ 600) : Calls Try.prog 49 #[v, .int .i64 7, .slice base l.length cap] w (BindE 7 l t w) := by
  have hty := fun W (hb : Below w.heap.size w W) => ptype_any t v W (hv.next hb)
  rw [hpt] at hty
  have hnt := proper_nodes t hpt
  have hcall := fun (W : World) (H : Nat) (hH : H + 1 < W.heap.size) (hd : distB l = true) (hb : Below w.heap.size w W) (h3 : w.heap.size + 4 ≤ W.heap.size) (hi : BdI (H + 1) (w.heap.size + 1) (w.heap.size + 2) H 7 base cap l W) =>
    rep_of (reb_87 (bdl_leaf (cap := cap) (base := base) w W.heap.size (by omega) hlen (dist_parts hd).2 ⟨hH, by omega, by omega, by omega⟩) (fun W1 W2 st h hb2 => h.next hH (by omega) (by omega) (by omega) hb2) (fun j hj => nomatch hj) hb.size t (Good.of hpt)) (fun W1 W2 st h hb2 => h.next hH (by omega) (by omega) (by omega) hb2) (fun j hj => nomatch hj) v () W hv hb (Nat.le_refl _) hi (by omega)
  obtain ⟨b, c, ev, _, _⟩ := hv
  subst ev
  have HQ := Lib.hid (Qua.new w (.int .i64 t.op) (.int .i64 t.n) (.string t.name) (.slice b t.args.length c) 7 (.slice base l.length cap))
  have HC := Lib.hid hty
  have HCALL := Lib.hid hcall
  have HL := Lib.hid hl.2
  have HRG := Lib.hid hr
  clear hty hl hcall hpt hnt hr
  obtain ⟨r, hrr⟩ : ∃ r, r = bindT 7 l t := ⟨_, rfl⟩
  have HRR := Lib.hid hrr
  clear hrr
  have HFUL := Lib.hid (fun v (w : World) (hv : V w r v) => full_any r v w hv)
  obtain ⟨m, hm⟩ : ∃ m, m = l.length := ⟨_, rfl⟩
  have HM := Lib.hid hm
  rw [← hm] at hlen ⊢
  rw [← hm] at HQ
  clear hm
  have q5 : decide ((600 : Int) < (m : Int)) = false := decide_eq_false (by omega)
  go_enter Try.func49, Try.ntmps49
  go_upto_region 1 with fail
  obtain ⟨W2, hW2⟩ : ∃ W2, W2 = (((w.alloc (Obj.cells #[.int .i64 t.op, .int .i64 t.n, .string t.name, .slice b t.args.length c] 24)).alloc (Obj.cells #[.int .i64 7] 3)).alloc (Obj.cells #[.slice base m cap] 25)).alloc (Obj.cells #[.int .i64 0, .int .i64 0, .string ⟨#[]⟩, .slice none 0 0] 24) := ⟨_, rfl⟩
  rw [← hW2] at HQ ⊢
  clear hW2
  obtain ⟨c0, c1, c2, c3⟩ := HQ.out.t.cells
  go_wp2_with fail
  refine (HC.out W2 HQ.out.below).mono ?_
  rintro e w2 ⟨rfl, hb⟩
  have HQ2 := Lib.hid (HQ.out.next hb)
  clear hb c0 c1 c2 c3 HQ HC
  have o0 := one_cell HQ2.out.o
  have s0 := one_cell HQ2.out.s
  have hmade : BL w _ _ _ _ 7 base cap l w2.heap.size 0 _ := bl_made (by rw [← HM.out]; exact HQ2.out)
  have HH4 : Hid (w.heap.size + 4 ≤ w2.heap.size) := Lib.hid HQ2.out.big
  have hmm := @run_makeMap Try.prog
  have HMADE := Lib.hid hmade
  have s1 := one_cell hmade.q.s
  have m1 : ((w2.alloc (.map #[] 0)).alloc (Obj.cells #[.map (some w2.heap.size)] 101)).cell? ⟨w2.heap.size + 1, 0, none⟩ = _ := one_cell hmade.mb
  rw [← HM.out] at s1
  clear hmade
  go_wp2_with fail
  clear s1 m1 o0 s0 hmm
  go_loopw [33] (fun i wr => ∃ j : Nat, j ≤ m ∧ i = .int .i64 j ∧ Hid (BL w (.int .i64 t.op) (.int .i64 t.n) (.string t.name) (.slice b t.args.length c) 7 base cap l w2.heap.size j wr)) (fun i _ => m - (intOf i).toNat)
  case atStart => exact ⟨0, Nat.zero_le _, rfl, HMADE⟩
  case round =>
    obtain ⟨j, hj, rfl, HS⟩ := hrel
    have m1 := one_cell HS.out.mb
    have s1 := one_cell HS.out.q.s
    rw [← HM.out] at s1
    by_cases hlt : j < m
    · have h1 : j < l.length := by rw [← HM.out]; exact hlt
      rcases HL.out with h0 | ⟨g, o, rfl, hrow⟩
      · exact absurd h0 (List.ne_nil_of_length_pos (by omega))
      have x0 := keeps HS.out.q.below _ _ (hrow j h1)
      obtain ⟨x, hx⟩ : ∃ x, x = l[j]'h1 := ⟨_, rfl⟩
      rw [← hx] at x0
      have hxr := HRG.out x (by rw [hx]; exact List.getElem_mem h1)
      have HX := Lib.hid hx
      have HK : Hid (keyOf Try.prog 3 (.int .i64 x) = some (.int .i64 x)) := Lib.hid (keyOf_int_mk Try.underlying3 (int_wf hxr))
      have HHAS := Lib.hid (mset_has l.length x (l.take j))
      have HOWN := Lib.hid HS.out.own
      clear hx hrow hxr
      cases hs : decide (x ∈ l.take j) with
      | true =>
        have HD : Hid (distB l = false) := Lib.hid (dist_twice h1 (by rw [← HX.out]; exact of_decide_eq_true hs))
        rw [hs] at HHAS
        have HR := Lib.hid HS.out.q.r
        clear hs
        obtain ⟨z0, z1, z2, z3⟩ := HR.out.cells
        have f0 := HR.out.frozen 0
        have f1 := HR.out.frozen 1
        have f2 := HR.out.frozen 2
        have f3 := HR.out.frozen 3
        go_wp2_with (at_lookup; go_loud (refine wpList_lookup_own_ok_int _ rfl _ _ 101 rfl 3 3 .i64 ikeys Try.underlying101 Try.underlying3 (int_zero _) w2.heap.size j _ rfl HOWN.out _ (.int .i64 x) rfl HK.out ?_; intro cc _ _; rw [HHAS.out]))
        refine bodyPost_ret (results_two (a := 6) (b := 7) (by kernel_rfl) (B := w.heap.size + 3) (by rfl) (by rfl) (put4_cells HR.out _ _ _ _).cells.1 (put4_cells HR.out _ _ _ _).cells.2.1 (put4_cells HR.out _ _ _ _).cells.2.2.1 (put4_cells HR.out _ _ _ _).cells.2.2.2) rfl ?_
        exact bindE_bad HD.out ⟨rfl, below_put4 HS.out.q.below (by omega) _ _ _ _⟩
      | false =>
        have HNEW : Hid (l[j]'h1 ∉ l.take j) := Lib.hid (by rw [← HX.out]; exact of_decide_eq_false hs)
        rw [hs] at HHAS
        clear hs
        cases hnb : numB x with
        | false =>
          have HD : Hid (distB l = false) := Lib.hid (dist_num h1 (by rw [← HX.out]; exact hnb))
          have HNB := Lib.hid hnb
          have HR := Lib.hid HS.out.q.r
          clear hnb
          obtain ⟨z0, z1, z2, z3⟩ := HR.out.cells
          have f0 := HR.out.frozen 0
          have f1 := HR.out.frozen 1
          have f2 := HR.out.frozen 2
          have f3 := HR.out.frozen 3
          go_wp2_with (first | (at_lookup; go_loud (refine wpList_lookup_own_ok_int _ rfl _ _ 101 rfl 3 3 .i64 ikeys Try.underlying101 Try.underlying3 (int_zero _) w2.heap.size j _ rfl HOWN.out _ (.int .i64 x) rfl HK.out ?_; intro cc _ _; rw [HHAS.out])) | (go_at_call 62; refine (pnumber _ _ HNB.out _).mono ?_; rintro e w3 ⟨rfl, rfl⟩))
          refine bodyPost_ret (results_two (a := 6) (b := 7) (by kernel_rfl) (B := w.heap.size + 3) (by rfl) (by rfl) (put4_cells HR.out _ _ _ _).cells.1 (put4_cells HR.out _ _ _ _).cells.2.1 (put4_cells HR.out _ _ _ _).cells.2.2.1 (put4_cells HR.out _ _ _ _).cells.2.2.2) rfl ?_
          exact bindE_bad HD.out ⟨rfl, below_put4 HS.out.q.below (by omega) _ _ _ _⟩
        | true =>
          have HNUM : Hid (numB (l[j]'h1) = true) := Lib.hid (by rw [← HX.out]; exact hnb)
          have HNB := Lib.hid hnb
          have HV : Hid (plainElem (H := Unit) Try.prog 3 (.int .i64 ((m : Int) - 1 - j)) = some (.lit (.int .i64 ((m : Int) - 1 - j)), [])) := Lib.hid (plainElem_int Try.underlying3 (int_wf (by omega)))
          have HJ : Hid (j < maxLen) := Lib.hid (by unfold maxLen; omega)
          clear hnb
          go_wp2_with (first
            | (at_lookup; go_loud (refine wpList_lookup_own_ok_int _ rfl _ _ 101 rfl 3 3 .i64 ikeys Try.underlying101 Try.underlying3 (int_zero _) w2.heap.size j _ rfl HOWN.out _ (.int .i64 x) rfl HK.out ?_; intro cc _ _; rw [HHAS.out]))
            | (go_at_call 62; refine (pnumber _ _ HNB.out _).mono ?_; rintro e w3 ⟨rfl, rfl⟩)
            | (at_mapUpdate; go_loud (refine wpList_mapUpdate_own _ rfl _ _ _ 101 rfl 3 3 ikeys Try.underlying101 _ w2.heap.size j _ rfl HOWN.out HJ.out _ _ (.int .i64 x) rfl rfl HK.out _ [] HV.out ?_; intro w4 hown4 hgr4; have HST : Hid (BL w (.int .i64 t.op) (.int .i64 t.n) (.string t.name) (.slice b t.args.length c) 7 (some ⟨g, o, none⟩) cap l w2.heap.size (j + 1) w4) := Lib.hid (bl_step HS.out h1 HH4.out HNEW.out HNUM.out (by rw [HX.out, HM.out] at hown4; exact hown4) hgr4); clear hown4 hgr4)))
          go_roundw
          case rel => exact ⟨j + 1, by omega, by go_num, HST⟩
          case measure => simp [intOf]; omega
    · have hjm : j = m := by omega
      have HD : Hid (distB l = true) := Lib.hid (dist_ok (by rw [← HM.out]; exact hlen) (fun k hk => HS.out.good k hk (by rw [hjm, HM.out]; exact hk)))
      have hown := HS.out.own
      rw [List.take_of_length_le (by rw [← HM.out]; omega), hjm, HM.out] at hown
      have HQ5 := Lib.hid HS.out.q
      have HHW : Hid (w2.heap.size + 1 < wr.heap.size) := Lib.hid (lt_of_block HS.out.mb)
      have hcl := HCALL.out wr w2.heap.size HHW.out HD.out HQ5.out.below HQ5.out.big ⟨HS.out.mb, hown, HQ5.out.o, HQ5.out.s⟩
      rw [show RebP (reb (bdF 7 l) t 0 ()) (fun W _ => BdI (w2.heap.size + 1) (w.heap.size + 1) (w.heap.size + 2) w2.heap.size 7 base cap l W) none wr = RebP (r, ()) (fun W _ => BdI (w2.heap.size + 1) (w.heap.size + 1) (w.heap.size + 2) w2.heap.size 7 base cap l W) none wr from by rw [HRR.out]; rfl] at hcl
      have HCL := Lib.hid hcl
      obtain ⟨c0, c1, c2, c3⟩ := HQ5.out.t.cells
      clear hown hcl hjm HS m1 s1
      go_wp2_with fail
      refine HCL.out.mono ?_
      rintro e w4 ⟨v4, rfl, ⟨b9, c9, rfl, hs9, hl9⟩, hgr, _⟩
      have HV : Hid (VO (wr.heap.size ≤ ·) w4 r _) := Lib.hid ⟨b9, c9, rfl, hs9, hl9⟩
      have HB4 := Lib.hid (HQ5.out.below.grown hgr HQ5.out.below.size (fun j hj => nomatch hj))
      have HR4 := Lib.hid (HQ5.out.r.nextm (lim := 0) hgr (fun j hj => nomatch hj) (Nat.zero_le _))
      have HZ : Hid (w.heap.size + 3 < wr.heap.size) := Lib.hid (lt_of_block HQ5.out.r)
      clear hs9 hl9 hgr c0 c1 c2 c3
      go_wp2_with fail
      refine (HFUL.out _ w4 HV.out.weak).mono ?_
      rintro e w5 ⟨rfl, hb⟩
      have HB5 := Lib.hid (HB4.out.trans (hb.mono HB4.out.size))
      have HR5 := Lib.hid (HR4.out.next hb)
      have HV5 := Lib.hid (HV.out.next hb)
      clear hb HB4 HR4 HV
      obtain ⟨z0, z1, z2, z3⟩ := HR5.out.cells
      have f0 := HR5.out.frozen 0
      have f1 := HR5.out.frozen 1
      have f2 := HR5.out.frozen 2
      have f3 := HR5.out.frozen 3
      cases hp : isProper r with
      | true =>
        have HE := Lib.hid (fullV_ok hp (.agg #[.int .i64 r.op, .int .i64 r.n, .string r.name, .slice b9 r.args.length c9]))
        rw [HE.out]
        clear hp
        go_wp2_with fail
        refine bodyPost_ret (results_two (a := 6) (b := 7) (by kernel_rfl) (B := w.heap.size + 3) (by rfl) (by rfl) (put4_cells HR5.out _ _ _ _).cells.1 (put4_cells HR5.out _ _ _ _).cells.2.1 (put4_cells HR5.out _ _ _ _).cells.2.2.1 (put4_cells HR5.out _ _ _ _).cells.2.2.2) rfl ?_
        have hz := HZ.out
        refine bindE_ok HD.out ?_
        unfold BindP
        rw [← HRR.out]
        refine ⟨.agg #[.int .i64 r.op, .int .i64 r.n, .string r.name, .slice b9 r.args.length c9], by first | (rw [HE.out]; rfl) | rw [HE.out], HV5.out.keep (fun g hg => by show w.heap.size ≤ g; have : wr.heap.size ≤ g := hg; omega) (fun p v hp hc => put4_keep _ _ _ _ p v hc (by have : wr.heap.size ≤ p.block := hp; omega)), below_put4 HB5.out (by omega) _ _ _ _⟩
      | false =>
        have HE := Lib.hid (fullV_bad hp (.agg #[.int .i64 r.op, .int .i64 r.n, .string r.name, .slice b9 r.args.length c9]))
        rw [HE.out]
        clear hp
        go_wp2_with fail
        refine bodyPost_ret (results_two (a := 6) (b := 7) (by kernel_rfl) (B := w.heap.size + 3) (by rfl) (by rfl) (put4_cells HR5.out _ _ _ _).cells.1 (put4_cells HR5.out _ _ _ _).cells.2.1 (put4_cells HR5.out _ _ _ _).cells.2.2.1 (put4_cells HR5.out _ _ _ _).cells.2.2.2) rfl ?_
        have hz := HZ.out
        refine bindE_ok HD.out ?_
        unfold BindP
        rw [← HRR.out]
        refine ⟨.agg #[.int .i64 r.op, .int .i64 r.n, .string r.name, .slice b9 r.args.length c9], by first | (rw [HE.out]; rfl) | rw [HE.out], HV5.out.keep (fun g hg => by show w.heap.size ≤ g; have : wr.heap.size ≤ g := hg; omega) (fun p v hp hc => put4_keep _ _ _ _ p v hc (by have : wr.heap.size ≤ p.block := hp; omega)), below_put4 HB5.out (by omega) _ _ _ _⟩

end Ty
end Go.Proofs.Ytkedhnahgpmkaaa
