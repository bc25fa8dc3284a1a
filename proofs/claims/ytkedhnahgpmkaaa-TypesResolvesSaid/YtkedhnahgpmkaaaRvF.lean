/- Texts of the law TypesResolves, joined. -/
import Derived.Test.YtkedhnahgpmkaaaRvE
import Derived.Deep.OwnRows

/- Plain: which metavariables are settled, as a list of bools and in memory. Conditions: none. -/
namespace Go.Proofs.Ytkedhnahgpmkaaa
open Go.RowKit Go.Maps

namespace Ty
def sget (S : List Bool) (i : Nat) : Bool := S.getD i false
theorem sget_lt {S : List Bool} {i : Nat} (h : i < S.length) : sget S i = S[i]'h := by unfold sget; rw [List.getD_eq_getElem?_getD, List.getElem?_eq_getElem h]; rfl
theorem sget_set {S : List Bool} {i k : Nat} {b : Bool} (h : i < S.length) : sget (S.set i b) k = if k = i then b else sget S k := by
  unfold sget
  rw [List.getD_eq_getElem?_getD, List.getD_eq_getElem?_getD, List.getElem?_set]
  by_cases hk : i = k
  · subst hk; simp [h]
  · rw [if_neg hk, if_neg (fun e => hk e.symm)]
theorem sget_true {S : List Bool} {i : Nat} (h : sget S i = true) : i < S.length := by
  rcases Nat.lt_or_ge i S.length with h1 | h1
  · exact h1
  · unfold sget at h
    rw [List.getD_eq_getElem?_getD, List.getElem?_eq_none h1] at h
    cases h
def cnt : List Bool → Nat
  | [] => 0
  | b :: l => (if b = true then 1 else 0) + cnt l
theorem cnt_le : ∀ S : List Bool, cnt S ≤ S.length
  | [] => Nat.le_refl _
  | b :: l => by
    have := cnt_le l
    unfold cnt
    rw [List.length_cons]
    split <;> omega
theorem cnt_all : ∀ {S : List Bool}, S.length ≤ cnt S → ∀ i, i < S.length → sget S i = true
  | b :: l, h, i, hi => by
    have h2 := cnt_le l
    unfold cnt at h
    rw [List.length_cons] at h hi
    by_cases hb : b = true
    · rw [if_pos hb] at h
      cases i with
      | zero => exact hb
      | succ i => exact cnt_all (by omega) i (by omega)
    · rw [if_neg hb] at h
      omega
theorem cnt_set : ∀ {S : List Bool} {i : Nat}, i < S.length → sget S i = false → cnt (S.set i true) = cnt S + 1
  | b :: l, 0, _, h => by
    have hb : b = false := h
    subst hb
    rw [List.set_cons_zero, cnt, cnt]
    simp
    omega
  | b :: l, i + 1, hi, h => by
    rw [List.set_cons_succ, cnt, cnt, cnt_set (S := l) (i := i) (by simpa using hi) (show sget l i = false from h)]
    omega
theorem set_same : ∀ {S : List Bool} {i : Nat}, sget S i = false → S.set i false = S
  | [], _, _ => rfl
  | b :: l, 0, h => by
    have hb : b = false := h
    subst hb
    rfl
  | b :: l, i + 1, h => by rw [List.set_cons_succ, set_same (S := l) (i := i) (show sget l i = false from h)]

/-- bools in a row -/
def SRow (W : World) (B : Nat) (S : List Bool) : Prop := W.heap[B]? = some (.cells (S.map Value.bool).toArray 4 (0, 0))
theorem SRow.cell {W : World} {B : Nat} {S : List Bool} (h : SRow W B S) {i : Nat} (hi : i < S.length) : W.cell? ⟨B, i, none⟩ = some (.bool (sget S i)) := by
  rw [cell_of_row W B i _ 4 (0, 0) h, List.getElem?_toArray, List.getElem?_map, List.getElem?_eq_getElem hi, sget_lt hi]
  rfl
theorem SRow.frozen {W : World} {B : Nat} {S : List Bool} (h : SRow W B S) (i : Nat) : W.frozen? ⟨B, i, none⟩ = false := by
  unfold World.frozen?
  rw [show W.heap[(⟨B, i, none⟩ : Addr).block]? = _ from h]
  simp
theorem SRow.next {W W' : World} {B : Nat} {S : List Bool} (h : SRow W B S) (hb : Below W.heap.size W W') : SRow W' B S := (hb.block _ (lt_of_block h)).trans h
theorem SRow.set {W : World} {B : Nat} {S : List Bool} (h : SRow W B S) (i : Nat) (b : Bool) : SRow (W.setCell ⟨B, i, none⟩ (.bool b)) B (S.set i b) := by
  unfold SRow at h ⊢
  simp only [World.setCell, Array.getElem?_modify, h, if_true, Option.map_some]
  congr 2
  apply Array.ext_getElem?
  intro k
  simp
theorem srow_made (w : World) (n : Nat) : SRow (w.alloc (.cells (madeCells #[.bool false] n) 4)) w.heap.size (List.replicate n false) := by
  unfold SRow
  rw [heap_alloc_new]
  congr 2
  unfold madeCells
  apply Array.ext_getElem?
  intro k
  simp only [Array.getElem?_map, List.getElem?_toArray, List.getElem?_map, List.getElem?_replicate, List.size_toArray, List.length_singleton, Nat.mod_one]
  by_cases hk : k < n
  · rw [if_pos hk, Array.getElem?_eq_getElem (by simpa using hk)]; simp
  · rw [if_neg hk, Array.getElem?_eq_none (by simpa using hk)]; rfl
theorem rep_get (n i : Nat) : sget (List.replicate n false) i = false := by
  unfold sget
  rw [List.getD_eq_getElem?_getD, List.getElem?_replicate]
  split <;> rfl
/-- whatever is settled comes to an end -/
def Snd (M : List MC) (S : List Bool) : Prop := S.length = M.length ∧ ∀ i, sget S i = true → Ac (adjM M) i
theorem Snd.set {M : List MC} {S : List Bool} (h : Snd M S) {i : Nat} (hi : i < M.length) {b : Bool} (hb : b = true → Ac (adjM M) i) : Snd M (S.set i b) := by
  refine ⟨by rw [List.length_set]; exact h.1, fun k hk => ?_⟩
  rw [sget_set (by rw [h.1]; exact hi)] at hk
  split at hk
  · rename_i e; subst e; exact hb hk
  · exact h.2 k hk
/-- what is not settled needs something that isn't -/
def Cls (M : List MC) (S : List Bool) (n : Nat) : Prop := ∀ i, i < n → sget S i = false → ∃ k ∈ adjM M i, sget S k = false
theorem noring_of {M : List MC} (hM : OkM M) {S : List Bool} (hs : Snd M S) (hc : Cls M S M.length) : NoRing M ↔ ∀ i, i < M.length → sget S i = true := by
  constructor
  · intro h i hi
    refine settled_all (len := M.length) (S := sget S) (fun i hi k hk => ?_) (fun i hi h => hc i hi h) (h i hi) hi
    cases hso : (M[i]'hi).sol with
    | false => rw [adjM_un hi hso] at hk; cases hk
    | true =>
      obtain ⟨hp, hin⟩ := hM _ (List.getElem_mem hi) hso
      rw [adjM_sol hi hso] at hk
      obtain ⟨x, hx, rfl⟩ := List.mem_map.mp hk
      have := hin x hx
      have := colT_range (Good.of hp) x hx
      omega
  · exact fun h i hi => hs.2 i (h i hi)
theorem cls_all {M : List MC} {S : List Bool} (hs : Snd M S) (h : M.length ≤ cnt S) : Cls M S M.length := fun i hi hf => by
  rw [cnt_all (by rw [hs.1]; exact h) i (by rw [hs.1]; exact hi)] at hf
  cases hf
/-- whether all that a metavariable needs is settled -/
def allS (S : List Bool) (L : List Int) : Bool := L.all (fun y => sget S y.toNat)
theorem allS_take {S : List Bool} {L : List Int} {j : Nat} (h : j < L.length) : allS S (L.take (j + 1)) = (allS S (L.take j) && sget S (L[j]'h).toNat) := by
  unfold allS
  rw [List.take_succ_eq_append_getElem h, List.all_append]
  simp
theorem allS_ac {M : List MC} {S : List Bool} (hs : Snd M S) {i : Nat} (hi : i < M.length) (hso : (M[i]'hi).sol = true) (h : allS S (colT 6 (M[i]'hi).val) = true) : Ac (adjM M) i :=
  ac_of (fun k hk => by
    rw [adjM_sol hi hso] at hk
    obtain ⟨x, hx, rfl⟩ := List.mem_map.mp hk
    unfold allS at h
    exact hs.2 _ (List.all_eq_true.mp h x hx))
theorem allS_no {M : List MC} {S : List Bool} {i : Nat} (hi : i < M.length) (hso : (M[i]'hi).sol = true) (h : allS S (colT 6 (M[i]'hi).val) = false) : ∃ k ∈ adjM M i, sget S k = false := by
  unfold allS at h
  rw [List.all_eq_false] at h
  obtain ⟨x, hx, hx2⟩ := h
  exact ⟨x.toNat, by rw [adjM_sol hi hso]; exact List.mem_map_of_mem hx, by simpa using hx2⟩

end Ty
end Go.Proofs.Ytkedhnahgpmkaaa

/- The reference's Known and Solvable. Conditions: at most 600 metavariables; the type is proper. -/
namespace Go.Proofs.Ytkedhnahgpmkaaa
open Go.RowKit Go.Maps

namespace Ty
theorem in_take {M : List MC} {L : List Int} {n j : Nat} (h : ∀ k (h : k < L.length), k < j → L[k]'h < (n : Int)) (hn : n = M.length) (hj : L.length ≤ j) : ∀ y ∈ L, y < (M.length : Int) := fun y hy => by
  obtain ⟨i, hi, rfl⟩ := List.getElem_of_mem hy
  rw [← hn]
  exact h i hi (by omega)

set_option maxHeartbeats 4000000 in
theorem known_any (M : List MC) (t : Ty) (hp : isProper t = true) (base : Option Addr) (cap : Nat) (v : Value) (w : World) (hv : V w t v) : Calls Try.prog 46 #[.slice base M.length cap, v] w fun e w' => e = .returned (.bool (inM M t)) ∧ Below w.heap.size w w' := by
  have hg := Good.of hp
  have hcl : (colT 6 t).length ≤ 100000 := by have := colT_len hg; have := proper_nodes _ hp; omega
  have HR := Lib.hid (colT_range hg)
  have HC := Lib.hid (fun (W : World) (hb : Below w.heap.size w W) => RMetas_any t hg (proper_nodes _ hp) v W (hv.next hb))
  have HB := Lib.hid (@inM_iff M t)
  generalize inM M t = r at *
  generalize colT 6 t = L at *
  obtain ⟨b, c, ev, _, _⟩ := hv
  subst ev
  generalize t.op = xo at *
  generalize t.n = xn at *
  generalize t.name = xs at *
  generalize t.args.length = xl at *
  have hb1 : Below w.heap.size w (w.alloc (Obj.cells #[.int .i64 xo, .int .i64 xn, .string xs, .slice b xl c] 24)) := (Below.refl _ _).alloc (Nat.le_refl _) _
  have hbox : B4 (w.alloc (Obj.cells #[.int .i64 xo, .int .i64 xn, .string xs, .slice b xl c] 24)) w.heap.size (.int .i64 xo) (.int .i64 xn) (.string xs) (.slice b xl c) := two_B4
  have HC1 := Lib.hid (HC.out _ hb1)
  have HB1 := Lib.hid hb1
  obtain ⟨c0, c1, c2, c3⟩ := hbox.cells
  clear hb1 hbox hg hp HC
  obtain ⟨n, hn⟩ : ∃ n, n = M.length := ⟨_, rfl⟩
  rw [← hn]
  have HN := Lib.hid hn
  clear hn
  go_enter Try.func46, Try.ntmps46
  go_wp2_with fail
  refine HC1.out.mono ?_
  rintro e w2 ⟨v, rfl, hoi, hb2⟩
  obtain ⟨base2, cap2, rfl, hsl⟩ := hoi.isl hcl
  have HB2 := Lib.hid (HB1.out.trans (hb2.mono HB1.out.size))
  have HSL := Lib.hid hsl
  clear hoi hsl hb2 c0 c1 c2 c3
  obtain ⟨m, hm⟩ : ∃ m, m = L.length := ⟨_, rfl⟩
  rw [← hm] at hcl ⊢
  have HM := Lib.hid hm
  clear hm
  go_wp2_with fail
  go_loop [10] (fun i => ∃ j : Nat, j ≤ m ∧ i = .int .i64 j ∧ Hid (∀ k (h : k < L.length), k < j → L[k]'h < (n : Int))) (fun i => m - (intOf i).toNat)
  case atStart => exact ⟨0, Nat.zero_le _, rfl, Lib.hid (fun k _ h => absurd h (Nat.not_lt_zero _))⟩
  case round =>
    obtain ⟨j, hj, rfl, hall⟩ := hrel
    by_cases hlt : j < m
    · have h1 : j < L.length := by rw [← HM.out]; exact hlt
      rcases HSL.out.2 with h0 | ⟨g, o, rfl, hrow⟩
      · exact absurd h0 (List.ne_nil_of_length_pos (by omega))
      have c0 := hrow j h1
      have HT := Lib.hid (fun (h : L[j]'h1 < (n : Int)) (k : Nat) (h2 : k < L.length) (h3 : k < j + 1) => show L[k]'h2 < (n : Int) from by
        by_cases hkj : k = j
        · subst hkj; exact h
        · exact hall.out k h2 (by omega))
      have HMEM := Lib.hid (List.getElem_mem h1)
      obtain ⟨x, hx⟩ : ∃ x, x = L[j]'h1 := ⟨_, rfl⟩
      rw [← hx] at c0 HT HMEM
      clear hx hrow
      by_cases hxn : x < (n : Int)
      · have q1 : decide ((n : Int) ≤ x) = false := decide_eq_false (by omega)
        have HT2 := Lib.hid (HT.out hxn)
        clear hxn
        go_wp2_with fail
        go_round
        case rel => exact ⟨j + 1, by omega, by go_num, HT2⟩
        case measure => simp [intOf]; omega
      · have q1 : decide ((n : Int) ≤ x) = true := decide_eq_true (by omega)
        have HNO : Hid (r = false) := Lib.hid (by
          cases hr : r with
          | false => rfl
          | true => exact absurd (by have := HB.out.mp hr x HMEM.out; rw [← HN.out] at this; exact this) hxn)
        clear hxn
        go_wp2_with fail
        go_ret
        exact ⟨ret_bool HNO.out.symm, HB2.out⟩
    · have HYES : Hid (r = true) := Lib.hid (HB.out.mpr (in_take hall.out HN.out (by have := HM.out; omega)))
      go_wp2_with fail
      go_ret
      exact ⟨ret_bool HYES.out.symm, HB2.out⟩

theorem info4 : (Try.prog.info? 4).map (fun i => (i.zero, i.size, i.bytes)) = some (some (.bool false), 1, 1) := by kernel_rfl
/-- what a pass has come to: some more are settled, or what is not settled needs something that isn't -/
def StS (M : List MC) (S : List Bool) (j : Nat) (mo : Bool) (k : Nat) : Prop := Snd M S ∧ (mo = true → j + 1 ≤ cnt S) ∧ (mo = false → j ≤ cnt S ∧ Cls M S k)
def St4 (M : List MC) (W : World) (B j : Nat) (mo : Bool) (k : Nat) : Prop := ∃ S, SRow W B S ∧ StS M S j mo k
/-- whether k can be settled -/
def Gd (M : List MC) (S : List Bool) (k : Nat) (b : Bool) : Prop := (b = true → Ac (adjM M) k) ∧ (b = false → ∃ k' ∈ adjM M k, sget S k' = false)
theorem sts_step {M : List MC} {S : List Bool} {j k : Nat} {mo : Bool} (h : StS M S j mo k) (hk : k < M.length) (b : Bool) (hf : sget S k = false) (hb : Gd M S k b) : StS M (S.set k b) j (mo || b) (k + 1) := by
  obtain ⟨hsn, hm1, hm2⟩ := h
  have hkS : k < S.length := by rw [hsn.1]; exact hk
  refine ⟨hsn.set hk hb.1, fun h => ?_, fun h => ?_⟩
  · cases b with
    | true =>
      rw [cnt_set hkS hf]
      cases mo with
      | true => have := hm1 rfl; omega
      | false => have := (hm2 rfl).1; omega
    | false =>
      rw [set_same hf]
      rw [Bool.or_false] at h
      exact hm1 h
  · rw [Bool.or_eq_false_iff] at h
    obtain ⟨h3, h4⟩ := h
    subst h3 h4
    rw [set_same hf]
    refine ⟨(hm2 rfl).1, fun i hi hif => ?_⟩
    by_cases hik : i = k
    · rw [hik]; exact hb.2 rfl
    · exact (hm2 rfl).2 i (by omega) hif
theorem sts_skip {M : List MC} {S : List Bool} {j k : Nat} {mo : Bool} (h : StS M S j mo k) (ht : sget S k = true) : StS M S j mo (k + 1) := by
  obtain ⟨hsn, hm1, hm2⟩ := h
  refine ⟨hsn, hm1, fun h => ⟨(hm2 h).1, fun i hi hif => ?_⟩⟩
  by_cases hik : i = k
  · rw [hik, ht] at hif; cases hif
  · exact (hm2 h).2 i (by omega) hif
theorem gd_un {M : List MC} {S : List Bool} {k : Nat} (h1 : k < M.length) (h : (M[k]'h1).sol = false) : Gd M S k true := ⟨fun _ => ac_of (by rw [adjM_un h1 h]; intro z hz; cases hz), fun h => (nomatch h)⟩
theorem gd_sol {M : List MC} {S : List Bool} {k : Nat} (hsn : Snd M S) (h1 : k < M.length) (h : (M[k]'h1).sol = true) : Gd M S k (allS S (colT 6 (M[k]'h1).val)) := ⟨allS_ac hsn h1 h, allS_no h1 h⟩
/-- what is left behind Solvable -/
def SolP (M : List MC) (w : World) (e : Ending) (w' : World) : Prop := ∃ r : Bool, e = .returned (.bool r) ∧ (r = true ↔ OkF M ∧ NoRing M) ∧ Below w.heap.size w w'

set_option maxHeartbeats 32000000 in
set_option maxRecDepth 100000 in
theorem solvable_any (M : List MC) (hM6 : M.length ≤ 600) (base : Option Addr) (cap : Nat) (w : World) (hms : Ms w base M) : Calls Try.prog 47 #[.slice base M.length cap] w (SolP M w) := by
  have HMS := Lib.hid hms
  obtain ⟨n, hn⟩ : ∃ n, n = M.length := ⟨_, rfl⟩
  rw [← hn] at hM6 ⊢
  have HN := Lib.hid hn
  clear hn hms
  go_enter Try.func47, Try.ntmps47
  go_wp2_with fail
  go_loopw [18] (fun i wr => ∃ j : Nat, j ≤ n ∧ i = .int .i64 j ∧ Hid (Below w.heap.size w wr) ∧ Hid (∀ i (h : i < M.length), i < j → okX M (M[i]'h))) (fun i _ => n - (intOf i).toNat)
  case atStart => exact ⟨0, Nat.zero_le _, rfl, Lib.hid (Below.refl _ _), Lib.hid (fun i _ h => absurd h (Nat.not_lt_zero _))⟩
  case round =>
    obtain ⟨j, hj, rfl, hbl, hall⟩ := hrel
    by_cases hlt : j < n
    · have h1 : j < M.length := by rw [← HN.out]; exact hlt
      obtain ⟨g, o, rfl, ⟨c0, c1, c2, c3, c4⟩, c5, ⟨c6, c7, c8, c9⟩, hvx⟩ := (HMS.out.next hbl.out).at h1
      have HNO := Lib.hid (fun (h : ¬ okX M (M[j]'h1)) => show ¬ (OkF M ∧ NoRing M) from fun hr => h (hr.1 _ (List.getElem_mem h1)))
      have HNX := Lib.hid (fun (h : okX M (M[j]'h1)) (i : Nat) (h2 : i < M.length) (h3 : i < j + 1) => show okX M (M[i]'h2) from by
        by_cases hij : i = j
        · subst hij; exact h
        · exact hall.out i h2 (by omega))
      obtain ⟨x, hx⟩ : ∃ x, x = M[j]'h1 := ⟨_, rfl⟩
      rw [← hx] at c0 c1 c2 c3 c4 c5 c6 c7 c8 c9 hvx HNO HNX
      have HVX : Hid (∀ W, Below wr.heap.size wr W → V W x.val (.agg #[.int .i64 x.val.op, .int .i64 x.val.n, .string x.val.name, .slice x.b x.val.args.length x.cap])) := Lib.hid (fun W hb => V.next hb hvx)
      have HOK := Lib.hid (show okX M x ↔ (x.sol = true → isProper x.val = true ∧ colT 1 x.val = [] ∧ inM M x.val = true) from Iff.rfl)
      have HTY := Lib.hid (fun W (hb : Below wr.heap.size wr W) => proper_any x.val _ W (HVX.out W hb))
      have HFR := Lib.hid (fun (h : isProper x.val = true) W (hb : Below wr.heap.size wr W) => RFree_any x.val (Good.of h) (proper_nodes _ h) _ W (HVX.out W hb))
      have HMT := Lib.hid (fun (h : isProper x.val = true) W (hb : Below wr.heap.size wr W) => RMetas_any x.val (Good.of h) (proper_nodes _ h) _ W (HVX.out W hb))
      have HCL : Hid (isProper x.val = true → (colT 1 x.val).length ≤ 100000 ∧ (colT 6 x.val).length ≤ 100000) := Lib.hid (fun h => by
        have h4 := wlk_len (f := colF 1) (colF_len 1) (Good.of h) 0 []
        have h5 := proper_nodes _ h
        have h6 : (colT 1 x.val).length ≤ nodes x.val := by simpa [colT] using h4
        have h7 := colT_len (Good.of h)
        omega)
      have HIN : Hid (inM M x.val = true ↔ ∀ y ∈ colT 6 x.val, y < (M.length : Int)) := Lib.hid inM_iff
      clear hx hvx
      generalize hpx : isProper x.val = px at *
      generalize hin : inM M x.val = ix at *
      generalize hfl : colT 1 x.val = L at *
      generalize hml : colT 6 x.val = K at *
      generalize x.kop = a0 at *
      generalize x.kn = a1 at *
      generalize x.ks = a2 at *
      generalize x.kb = a3 at *
      generalize x.kl = a4 at *
      generalize x.kc = a5 at *
      generalize x.lvl = a6 at *
      generalize hso : x.sol = so at *
      generalize x.val.op = b0 at *
      generalize x.val.n = b1 at *
      generalize x.val.name = b2 at *
      generalize x.b = b3 at *
      generalize x.val.args.length = b4 at *
      generalize x.cap = b5 at *
      clear hpx hin hfl hso hml
      obtain ⟨k5, k6, k7, k8, k9⟩ := ten_cells wr (.int .i64 a0) (.int .i64 a1) (.string a2) (.slice a3 a4 a5) (.int .i64 a6) (.bool so) (.int .i64 b0) (.int .i64 b1) (.string b2) (.slice b3 b4 b5) 98
      have HBX : Hid (Below wr.heap.size wr (wr.alloc (Obj.cells #[.int .i64 a0, .int .i64 a1, .string a2, .slice a3 a4 a5, .int .i64 a6, .bool so, .int .i64 b0, .int .i64 b1, .string b2, .slice b3 b4 b5] 98))) := Lib.hid ((Below.refl _ _).alloc (Nat.le_refl _) _)
      cases so with
      | false =>
        have HY := Lib.hid (HNX.out (HOK.out.mpr (fun h => (nomatch h))))
        have HBN := Lib.hid (hbl.out.trans (HBX.out.mono hbl.out.size))
        go_wp2_with fail
        go_roundw
        case rel => exact ⟨j + 1, by omega, by go_num, HBN, HY⟩
        case measure => simp [intOf]; omega
      | true =>
        go_wp2_with fail
        refine (HTY.out _ HBX.out).mono ?_
        rintro e w2 ⟨rfl, hb2⟩
        have HB2 := Lib.hid (HBX.out.trans (hb2.mono HBX.out.size))
        cases px with
        | false =>
          have HR := Lib.hid (HNO.out (fun h => by have := (HOK.out.mp h (by first | rfl | trivial)).1; cases this))
          have HBE := Lib.hid (hbl.out.trans (HB2.out.mono hbl.out.size))
          clear hb2 k5 k6 k7 k8 k9 HTY HFR HMT HCL
          go_wp2_with fail
          go_ret
          exact ⟨false, rfl, ⟨fun h => (nomatch h), fun h => absurd h HR.out⟩, HBE.out⟩
        | true =>
          have k6 := keeps hb2 _ _ k6
          have k7 := keeps hb2 _ _ k7
          have k8 := keeps hb2 _ _ k8
          have k9 := keeps hb2 _ _ k9
          clear hb2 k5 HTY
          go_wp2_with fail
          refine (HFR.out (by first | rfl | trivial) _ HB2.out).mono ?_
          rintro e w3 ⟨v, rfl, hoi, hb3⟩
          obtain ⟨base3, cap3, rfl, _⟩ := hoi.isl (HCL.out (by first | rfl | trivial)).1
          have HB3 := Lib.hid (HB2.out.trans (hb3.mono HB2.out.size))
          have k6 := keeps hb3 _ _ k6
          have k7 := keeps hb3 _ _ k7
          have k8 := keeps hb3 _ _ k8
          have k9 := keeps hb3 _ _ k9
          clear hb3 hoi HFR
          by_cases hL : L = []
          · subst hL
            rw [List.length_nil]
            have hkl := (HCL.out (by first | rfl | trivial)).2
            clear HCL
            go_wp2_with fail
            refine (HMT.out (by first | rfl | trivial) _ HB3.out).mono ?_
            rintro e w4 ⟨v, rfl, hoi, hb4⟩
            obtain ⟨base4, cap4, rfl, hsl⟩ := hoi.isl hkl
            have HB4 := Lib.hid (HB3.out.trans (hb4.mono HB3.out.size))
            have HSL := Lib.hid hsl
            have HBN := Lib.hid (hbl.out.trans (HB4.out.mono hbl.out.size))
            clear hb4 hoi hsl k6 k7 k8 k9 HMT
            obtain ⟨m, hm⟩ : ∃ m, m = K.length := ⟨_, rfl⟩
            rw [← hm] at hkl ⊢
            have HM := Lib.hid hm
            clear hm
            go_wp2_with fail
            go_loop [40] (fun i => ∃ q : Nat, q ≤ m ∧ i = .int .i64 q ∧ Hid (∀ k (h : k < K.length), k < q → K[k]'h < (n : Int))) (fun i => m - (intOf i).toNat)
            case atStart => exact ⟨0, Nat.zero_le _, rfl, Lib.hid (fun k _ h => absurd h (Nat.not_lt_zero _))⟩
            case round =>
              obtain ⟨q, hq, rfl, hqall⟩ := hrel
              by_cases hlt2 : q < m
              · have h2 : q < K.length := by rw [← HM.out]; exact hlt2
                rcases HSL.out.2 with h0 | ⟨g4, o4, rfl, hrow⟩
                · exact absurd h0 (List.ne_nil_of_length_pos (by omega))
                have d0 := hrow q h2
                have HT := Lib.hid (fun (h : K[q]'h2 < (n : Int)) (k : Nat) (h2 : k < K.length) (h3 : k < q + 1) => show K[k]'h2 < (n : Int) from by
                  by_cases hkj : k = q
                  · subst hkj; exact h
                  · exact hqall.out k h2 (by omega))
                have HMEM := Lib.hid (List.getElem_mem h2)
                obtain ⟨y, hy⟩ : ∃ y, y = K[q]'h2 := ⟨_, rfl⟩
                rw [← hy] at d0 HT HMEM
                clear hy hrow
                by_cases hxn : y < (n : Int)
                · have q1 : decide ((n : Int) ≤ y) = false := decide_eq_false (by omega)
                  have HT2 := Lib.hid (HT.out hxn)
                  clear hxn
                  go_wp2_with fail
                  go_round
                  case rel => exact ⟨q + 1, by omega, by go_num, HT2⟩
                  case measure => simp [intOf]; omega
                · have q1 : decide ((n : Int) ≤ y) = true := decide_eq_true (by omega)
                  have HR := Lib.hid (HNO.out (fun h => by
                    have h5 := (HOK.out.mp h (by first | rfl | trivial)).2.2
                    have h6 := HIN.out.mp h5 y HMEM.out
                    rw [← HN.out] at h6
                    exact hxn h6))
                  clear hxn
                  go_wp2_with fail
                  go_ret
                  exact ⟨false, rfl, ⟨fun h => (nomatch h), fun h => absurd h HR.out⟩, HBN.out⟩
              · have HY := Lib.hid (HNX.out (HOK.out.mpr (fun _ => ⟨by first | rfl | trivial, by first | rfl | trivial, HIN.out.mpr (in_take hqall.out HN.out (by have := HM.out; omega))⟩)))
                go_wp2_with fail
                go_roundw
                case rel => exact ⟨j + 1, by omega, by go_num, HBN, HY⟩
                case measure => simp [intOf]; omega
          · have hpos : 0 < L.length := List.length_pos_iff.mpr hL
            have q1 : decide ((0 : Int) < (L.length : Int)) = true := decide_eq_true (by omega)
            have HR := Lib.hid (HNO.out (fun h => hL (HOK.out.mp h (by first | rfl | trivial)).2.1))
            have HBE := Lib.hid (hbl.out.trans (HB3.out.mono hbl.out.size))
            clear hL k6 k7 k8 k9 HMT HCL
            generalize L.length = k at *
            go_wp2_with fail
            go_ret
            exact ⟨false, rfl, ⟨fun h => (nomatch h), fun h => absurd h HR.out⟩, HBE.out⟩
    · have HF : Hid (OkF M) := Lib.hid (okF_take HN.out hall.out (by omega))
      have HM : Hid (OkM M) := Lib.hid HF.out.ok
      have hmk := fun w => run_make_row' (P := Try.prog) 99 4 (.bool false) 1 Try.underlying99 info4 rfl .i64 .i64 n (by omega) (by omega) w
      have HBL := Lib.hid hbl.out
      clear hbl hall
      go_upto_region 15 with fail
      clear hj hlt
      obtain ⟨W1, hW1⟩ : ∃ W1, W1 = wr.alloc (.cells (madeCells #[.bool false] n) 4) := ⟨_, rfl⟩
      have HSR1 : Hid (SRow W1 wr.heap.size (List.replicate n false)) := Lib.hid (by rw [hW1]; exact srow_made wr n)
      have HB1 : Hid (Below w.heap.size w W1) := Lib.hid (HBL.out.trans (by rw [hW1]; exact (Below.refl _ _).alloc HBL.out.size _))
      have HBS : Hid (w.heap.size ≤ wr.heap.size) := Lib.hid HBL.out.size
      have HSN1 : Hid (Snd M (List.replicate n false)) := Lib.hid ⟨by rw [List.length_replicate]; exact HN.out, fun i hi => by rw [rep_get] at hi; cases hi⟩
      obtain ⟨Bs, hBs⟩ : ∃ Bs, Bs = wr.heap.size := ⟨_, rfl⟩
      rw [← hW1, ← hBs]
      rw [← hBs] at HSR1 HBS
      clear hW1 hBs hmk HBL
      go_wp2_with fail
      go_loopw [55] (fun i w3 => ∃ j3 : Nat, j3 ≤ n ∧ i = .int .i64 j3 ∧ Hid (Below w.heap.size w w3) ∧ Hid (∃ S, SRow w3 Bs S ∧ Snd M S ∧ j3 ≤ cnt S)) (fun i _ => n - (intOf i).toNat)
      case atStart => exact ⟨0, Nat.zero_le _, rfl, HB1, Lib.hid ⟨_, HSR1.out, HSN1.out, Nat.zero_le _⟩⟩
      case round =>
        obtain ⟨w3, rfl⟩ : ∃ w3, w3 = wr := ⟨_, rfl⟩
        obtain ⟨j3, hj3, rfl, HB3, HS3⟩ := hrel
        clear HSR1 HB1 HSN1
        by_cases hlt3 : j3 < n
        · have HST3 : Hid (St4 M w3 Bs j3 false 0) := Lib.hid (by
            obtain ⟨S, h1, h2, h3⟩ := HS3.out
            exact ⟨S, h1, h2, fun h => (nomatch h), fun _ => ⟨h3, fun i h => absurd h (Nat.not_lt_zero _)⟩⟩)
          clear HS3
          go_wp2_with fail
          go_loopw [8, 59] (fun mv i w4 => ∃ (mo : Bool) (k : Nat), k ≤ n ∧ mv = .bool mo ∧ i = .int .i64 k ∧ Hid (Below w.heap.size w w4) ∧ Hid (St4 M w4 Bs j3 mo k)) (fun _ i _ => n - (intOf i).toNat)
          case atStart => exact ⟨false, 0, Nat.zero_le _, rfl, rfl, HB3, HST3⟩
          case round =>
            obtain ⟨w4, rfl⟩ : ∃ w4, w4 = wr := ⟨_, rfl⟩
            obtain ⟨mo, k, hk, rfl, rfl, HB4, HS4⟩ := hrel
            clear HST3 HB3
            by_cases hlt4 : k < n
            · obtain ⟨S, hsr, hst⟩ := HS4.out
              have hsn := hst.1
              have h1 : k < M.length := by rw [← HN.out]; exact hlt4
              obtain ⟨g, o, rfl, ⟨c0, c1, c2, c3, c4⟩, c5, ⟨c6, c7, c8, c9⟩, hvx⟩ := (HMS.out.next HB4.out).at h1
              have hkS : k < S.length := by rw [hsn.1]; exact h1
              have HSTEP := Lib.hid (sts_step hst h1)
              have HSKIP := Lib.hid (sts_skip hst)
              have HSN := Lib.hid hsn
              have HUN : Hid ((M[k]'h1).sol = false → Gd M S k true) := Lib.hid (gd_un h1)
              have HSO : Hid ((M[k]'h1).sol = true → Gd M S k (allS S (colT 6 (M[k]'h1).val))) := Lib.hid (gd_sol hsn h1)
              have HPR : Hid ((M[k]'h1).sol = true → isProper (M[k]'h1).val = true ∧ ∀ y ∈ colT 6 (M[k]'h1).val, y < (M.length : Int)) := Lib.hid (fun h => HM.out _ (List.getElem_mem h1) h)
              have hsg := hsr.cell hkS
              have HSR4 := Lib.hid hsr
              obtain ⟨x, hx⟩ : ∃ x, x = M[k]'h1 := ⟨_, rfl⟩
              rw [← hx] at c0 c1 c2 c3 c4 c5 c6 c7 c8 c9 hvx HUN HSO HPR
              have HVX : Hid (∀ W, Below w4.heap.size w4 W → V W x.val (.agg #[.int .i64 x.val.op, .int .i64 x.val.n, .string x.val.name, .slice x.b x.val.args.length x.cap])) := Lib.hid (fun W hb => V.next hb hvx)
              have HMT := Lib.hid (fun (h : isProper x.val = true) W (hb : Below w4.heap.size w4 W) => RMetas_any x.val (Good.of h) (proper_nodes _ h) _ W (HVX.out W hb))
              have HRG := Lib.hid (fun (h : isProper x.val = true) => And.intro (colT_range (Good.of h)) (show (colT 6 x.val).length ≤ 100000 from by have := colT_len (Good.of h); have := proper_nodes _ h; omega))
              clear hx hvx hsr hsn hst hkS
              generalize hml : colT 6 x.val = K at *
              generalize hpx : isProper x.val = px at *
              generalize x.kop = a0 at *
              generalize x.kn = a1 at *
              generalize x.ks = a2 at *
              generalize x.kb = a3 at *
              generalize x.kl = a4 at *
              generalize x.kc = a5 at *
              generalize x.lvl = a6 at *
              generalize hso : x.sol = so at *
              generalize x.val.op = b0 at *
              generalize x.val.n = b1 at *
              generalize x.val.name = b2 at *
              generalize x.b = b3 at *
              generalize x.val.args.length = b4 at *
              generalize x.cap = b5 at *
              clear hml hpx hso
              obtain ⟨k5, k6, k7, k8, k9⟩ := ten_cells w4 (.int .i64 a0) (.int .i64 a1) (.string a2) (.slice a3 a4 a5) (.int .i64 a6) (.bool so) (.int .i64 b0) (.int .i64 b1) (.string b2) (.slice b3 b4 b5) 98
              have hbx : Below w4.heap.size w4 (w4.alloc (Obj.cells #[.int .i64 a0, .int .i64 a1, .string a2, .slice a3 a4 a5, .int .i64 a6, .bool so, .int .i64 b0, .int .i64 b1, .string b2, .slice b3 b4 b5] 98)) := (Below.refl _ _).alloc (Nat.le_refl _) _
              have d0 := keeps hbx _ _ hsg
              have HBX := Lib.hid hbx
              clear hsg hbx
              cases hsk : sget S k with
              | true =>
                rw [hsk] at d0
                have HSK := Lib.hid (HSKIP.out hsk)
                have HB5 : Hid (Below w.heap.size w _) := Lib.hid (HB4.out.trans (HBX.out.mono HB4.out.size))
                have HSR5 := Lib.hid (HSR4.out.next HBX.out)
                clear hsk HS4
                go_wp2_with fail
                go_roundw
                case rel => exact ⟨mo, k + 1, by omega, rfl, by go_num, HB5, Lib.hid ⟨S, HSR5.out, HSK.out⟩⟩
                case measure => simp [intOf]; omega
              | false =>
                rw [hsk] at d0
                have HSTEP := Lib.hid (fun b => HSTEP.out b hsk)
                clear hsk HS4 HSKIP
                cases so with
                | false =>
                  have HGOOD := Lib.hid (HUN.out rfl)
                  go_upto_region 29 with fail
                  obtain ⟨W5, hW5⟩ : ∃ W5, W5 = w4.alloc (Obj.cells #[.int .i64 a0, .int .i64 a1, .string a2, .slice a3 a4 a5, .int .i64 a6, .bool false, .int .i64 b0, .int .i64 b1, .string b2, .slice b3 b4 b5] 98) := ⟨_, rfl⟩
                  rw [← hW5] at HBX ⊢
                  have HB5 : Hid (Below w.heap.size w W5) := Lib.hid (HB4.out.trans (HBX.out.mono HB4.out.size))
                  have HSR5 := Lib.hid (HSR4.out.next HBX.out)
                  clear hW5 k5 k6 k7 k8 k9 d0 c0 c1 c2 c3 c4 c5 c6 c7 c8 c9 HUN HSO HPR HMT HRG HVX HSR4
                  -- what is settled is written
                  have hkS : k < S.length := by rw [HSN.out.1, ← HN.out]; exact hlt4
                  have d1 := HSR5.out.frozen k
                  have d2 := HSR5.out.cell hkS
                  have HSR6 := Lib.hid (HSR5.out.set k true)
                  have HB6 : Hid (Below w.heap.size w (W5.setCell ⟨Bs, k, none⟩ (.bool true))) := Lib.hid (HB5.out.setCell HBS.out _)
                  have HST6 := Lib.hid (HSTEP.out true HGOOD.out)
                  clear HSTEP HGOOD hkS
                  cases mo with
                  | true =>
                    go_wp2_with fail
                    go_roundw
                    case rel => exact ⟨true, k + 1, by omega, rfl, by go_num, HB6, Lib.hid ⟨_, HSR6.out, HST6.out⟩⟩
                    case measure => simp [intOf]; omega
                  | false =>
                    go_wp2_with fail
                    go_roundw
                    case rel => exact ⟨true, k + 1, by omega, rfl, by go_num, HB6, Lib.hid ⟨_, HSR6.out, HST6.out⟩⟩
                    case measure => simp [intOf]; omega
                | true =>
                  have hpr := HPR.out (by first | rfl | trivial)
                  obtain ⟨hpp, hkn⟩ := hpr
                  obtain ⟨hrg, hkl⟩ := HRG.out hpp
                  have HGD := Lib.hid (HSO.out (by first | rfl | trivial))
                  have HMT2 := Lib.hid (HMT.out hpp _ HBX.out)
                  have HKN : Hid (∀ y ∈ K, ∃ q : Nat, y = (q : Int) ∧ q < n) := Lib.hid (fun y hy => ⟨y.toNat, by have := (hrg y hy).1; omega, by have := (hrg y hy).1; have := hkn y hy; have := HN.out; omega⟩)
                  clear hpp hkn hrg HUN HPR HMT HRG HSO HVX
                  go_wp2_with fail
                  refine HMT2.out.mono ?_
                  rintro e W5 ⟨v, rfl, hoi, hb5⟩
                  obtain ⟨base5, cap5, rfl, hsl⟩ := hoi.isl hkl
                  have HBX5 := Lib.hid (HBX.out.trans (hb5.mono HBX.out.size))
                  have HSL := Lib.hid hsl
                  have HB5 : Hid (Below w.heap.size w W5) := Lib.hid (HB4.out.trans (HBX5.out.mono HB4.out.size))
                  have HSR5 := Lib.hid (HSR4.out.next HBX5.out)
                  clear hoi hsl hb5 k5 k6 k7 k8 k9 d0 c0 c1 c2 c3 c4 c5 c6 c7 c8 c9 HBX HMT2 HSR4
                  obtain ⟨m, hm⟩ : ∃ m, m = K.length := ⟨_, rfl⟩
                  rw [← hm] at hkl ⊢
                  have HMK := Lib.hid hm
                  clear hm
                  go_wp2_with fail
                  go_loop [11, 74] (fun gv i => ∃ q : Nat, q ≤ m ∧ i = .int .i64 q ∧ gv = .bool (allS S (K.take q))) (fun _ i => m - (intOf i).toNat)
                  case atStart => exact ⟨0, Nat.zero_le _, rfl, rfl⟩
                  case round =>
                    obtain ⟨q, hq, rfl, rfl⟩ := hrel
                    by_cases hlt5 : q < m
                    · have h2 : q < K.length := by rw [← HMK.out]; exact hlt5
                      rcases HSL.out.2 with h0 | ⟨g4, o4, rfl, hrow⟩
                      · exact absurd h0 (List.ne_nil_of_length_pos (by omega))
                      have d0 := hrow q h2
                      obtain ⟨y, hy1, hy2⟩ := HKN.out _ (List.getElem_mem h2)
                      have HTK := Lib.hid (allS_take (S := S) h2)
                      rw [hy1] at d0 HTK
                      rw [Int.toNat_natCast] at HTK
                      have d1 := HSR5.out.cell (i := y) (by rw [HSN.out.1, ← HN.out]; exact hy2)
                      clear hrow hy1 h2
                      generalize sget S y = sy at *
                      cases hta : allS S (K.take q) with
                      | false =>
                        rw [hta] at HTK
                        have HT2 : Hid (allS S (K.take (q + 1)) = false) := Lib.hid (by rw [HTK.out]; rfl)
                        clear hta HTK
                        go_wp2_with fail
                        go_round
                        case rel => exact ⟨q + 1, by omega, by go_num, by rw [HT2.out]⟩
                        case measure => simp [intOf]; omega
                      | true =>
                        rw [hta] at HTK
                        have HT2 : Hid (allS S (K.take (q + 1)) = sy) := Lib.hid (by rw [HTK.out]; rfl)
                        clear hta HTK
                        go_wp2_with fail
                        go_round
                        case rel => exact ⟨q + 1, by omega, by go_num, by rw [HT2.out]⟩
                        case measure => simp [intOf]; omega
                    · have hall5 : Hid (allS S (K.take q) = allS S K) := Lib.hid (by rw [List.take_of_length_le (by have := HMK.out; omega)])
                      rw [hall5.out]
                      obtain ⟨gd, hgd⟩ : ∃ gd, gd = allS S K := ⟨_, rfl⟩
                      rw [← hgd] at HGD ⊢
                      clear hgd hall5
                      have HGOOD := Lib.hid HGD.out
                      -- what is settled is written
                      have hkS : k < S.length := by rw [HSN.out.1, ← HN.out]; exact hlt4
                      have d1 := HSR5.out.frozen k
                      have d2 := HSR5.out.cell hkS
                      have HSR6 := Lib.hid (HSR5.out.set k gd)
                      have HB6 : Hid (Below w.heap.size w (W5.setCell ⟨Bs, k, none⟩ (.bool gd))) := Lib.hid (HB5.out.setCell HBS.out _)
                      have HST6 := Lib.hid (HSTEP.out gd HGOOD.out)
                      clear HSTEP HGOOD hkS
                      cases mo with
                      | true =>
                        go_wp2_with fail
                        go_roundw
                        case rel => exact ⟨true, k + 1, by omega, rfl, by go_num, HB6, Lib.hid ⟨_, HSR6.out, HST6.out⟩⟩
                        case measure => simp [intOf]; omega
                      | false =>
                        go_wp2_with fail
                        go_roundw
                        case rel => exact ⟨gd, k + 1, by omega, rfl, by go_num, HB6, Lib.hid ⟨_, HSR6.out, HST6.out⟩⟩
                        case measure => simp [intOf]; omega
            · obtain ⟨S, hsr, hst⟩ := HS4.out
              clear HS4
              cases mo with
              | true =>
                have HNXT : Hid (∃ S, SRow w4 Bs S ∧ Snd M S ∧ j3 + 1 ≤ cnt S) := Lib.hid ⟨S, hsr, hst.1, hst.2.1 rfl⟩
                clear hsr hst
                go_wp2_with fail
                go_roundw
                case rel => exact ⟨j3 + 1, by omega, by go_num, HB4, HNXT⟩
                case measure => simp [intOf]; omega
              | false =>
                have HSR3 := Lib.hid hsr
                have HSN3 := Lib.hid hst.1
                have HCLS3 : Hid (Cls M S M.length) := Lib.hid (fun i hi => (hst.2.2 rfl).2 i (by have := HN.out; omega))
                have HBW3 := Lib.hid HB4.out
                clear hsr hst
                -- all are asked
                have HCL3 := Lib.hid (noring_of HM.out HSN3.out HCLS3.out)
                have HSL3 := Lib.hid HSN3.out.1
                clear HSN3 HCLS3
                go_wp2_with fail
                go_loop [100] (fun i => ∃ q : Nat, q ≤ n ∧ i = .int .i64 q ∧ Hid (∀ k, k < q → sget S k = true)) (fun i => n - (intOf i).toNat)
                case atStart => exact ⟨0, Nat.zero_le _, rfl, Lib.hid (fun k h => absurd h (Nat.not_lt_zero _))⟩
                case round =>
                  obtain ⟨q, hq, rfl, hqall⟩ := hrel
                  by_cases hlt6 : q < n
                  · have d0 := HSR3.out.cell (i := q) (by rw [HSL3.out, ← HN.out]; exact hlt6)
                    cases hg : sget S q with
                    | true =>
                      rw [hg] at d0
                      have HT := Lib.hid (fun (k : Nat) (h : k < q + 1) => show sget S k = true from by
                        by_cases hkq : k = q
                        · rw [hkq]; exact hg
                        · exact hqall.out k (by omega))
                      clear hg
                      go_wp2_with fail
                      go_round
                      case rel => exact ⟨q + 1, by omega, by go_num, HT⟩
                      case measure => simp [intOf]; omega
                    | false =>
                      rw [hg] at d0
                      have HR : Hid (¬ NoRing M) := Lib.hid (fun h => by
                        have := HCL3.out.mp h q (by rw [← HN.out]; exact hlt6)
                        rw [hg] at this
                        cases this)
                      clear hg
                      go_wp2_with fail
                      go_ret
                      exact ⟨false, rfl, ⟨fun h => (nomatch h), fun h => absurd h.2 HR.out⟩, HBW3.out⟩
                  · have HR : Hid (NoRing M) := Lib.hid (HCL3.out.mpr (fun i hi => hqall.out i (by have := HN.out; omega)))
                    clear hqall
                    go_wp2_with fail
                    go_ret
                    exact ⟨true, rfl, ⟨fun _ => ⟨HF.out, HR.out⟩, fun _ => rfl⟩, HBW3.out⟩
        · obtain ⟨S, hsr, hsn, hcn⟩ := HS3.out
          clear HS3
          have HSR3 := Lib.hid hsr
          have HSN3 := Lib.hid hsn
          have HCLS3 : Hid (Cls M S M.length) := Lib.hid (cls_all hsn (by have := HN.out; omega))
          have HBW3 := Lib.hid HB3.out
          clear hsr hsn hcn
          -- all are asked
          have HCL3 := Lib.hid (noring_of HM.out HSN3.out HCLS3.out)
          have HSL3 := Lib.hid HSN3.out.1
          clear HSN3 HCLS3
          go_wp2_with fail
          go_loop [100] (fun i => ∃ q : Nat, q ≤ n ∧ i = .int .i64 q ∧ Hid (∀ k, k < q → sget S k = true)) (fun i => n - (intOf i).toNat)
          case atStart => exact ⟨0, Nat.zero_le _, rfl, Lib.hid (fun k h => absurd h (Nat.not_lt_zero _))⟩
          case round =>
            obtain ⟨q, hq, rfl, hqall⟩ := hrel
            by_cases hlt6 : q < n
            · have d0 := HSR3.out.cell (i := q) (by rw [HSL3.out, ← HN.out]; exact hlt6)
              cases hg : sget S q with
              | true =>
                rw [hg] at d0
                have HT := Lib.hid (fun (k : Nat) (h : k < q + 1) => show sget S k = true from by
                  by_cases hkq : k = q
                  · rw [hkq]; exact hg
                  · exact hqall.out k (by omega))
                clear hg
                go_wp2_with fail
                go_round
                case rel => exact ⟨q + 1, by omega, by go_num, HT⟩
                case measure => simp [intOf]; omega
              | false =>
                rw [hg] at d0
                have HR : Hid (¬ NoRing M) := Lib.hid (fun h => by
                  have := HCL3.out.mp h q (by rw [← HN.out]; exact hlt6)
                  rw [hg] at this
                  cases this)
                clear hg
                go_wp2_with fail
                go_ret
                exact ⟨false, rfl, ⟨fun h => (nomatch h), fun h => absurd h.2 HR.out⟩, HBW3.out⟩
            · have HR : Hid (NoRing M) := Lib.hid (HCL3.out.mpr (fun i hi => hqall.out i (by have := HN.out; omega)))
              clear hqall
              go_wp2_with fail
              go_ret
              exact ⟨true, rfl, ⟨fun _ => ⟨HF.out, HR.out⟩, fun _ => rfl⟩, HBW3.out⟩

end Ty
end Go.Proofs.Ytkedhnahgpmkaaa
