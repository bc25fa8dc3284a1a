/- What the reference's words and Order return. Conditions: the types lie in memory; they are proper. -/
import Derived.Test.YtkedhnahgpmkaaaTyMisc
import Derived.Deep.RegionHeld3
import Derived.Laws.Cover1
namespace Go.Proofs.Ytkedhnahgpmkaaa
open Go.RowKit

namespace Ty
/-- -1, 0 or 1 for two strings -/
def cmpS (a b : List UInt8) : Int := if Op.bytesLess a b = true then -1 else if (a == b) = true then 0 else 1

set_option maxHeartbeats 1000000 in
theorem words_any (a b : ByteArray) (w : World) : Calls Try.prog 83 #[.string a, .string b] w fun e w' => e = .returned (.int .i64 (cmpS a.toList b.toList)) ∧ w = w' := by
  cases h1 : Op.bytesLess a.toList b.toList with
  | true =>
    have HX : Hid (cmpS a.toList b.toList = -1) := Lib.hid (if_pos h1)
    go_enter Try.func83, Try.ntmps83
    go_wp2_with fail
    go_ret
    exact ⟨ret_int (by rw [HX.out]), rfl⟩
  | false =>
    cases h2 : (a.toList == b.toList) with
    | true =>
      have HX : Hid (cmpS a.toList b.toList = 0) := Lib.hid (by unfold cmpS; rw [if_neg (by simp [h1]), if_pos h2])
      go_enter Try.func83, Try.ntmps83
      go_wp2_with fail
      go_ret
      exact ⟨ret_int (by rw [HX.out]), rfl⟩
    | false =>
      have HX : Hid (cmpS a.toList b.toList = 1) := Lib.hid (by unfold cmpS; rw [if_neg (by simp [h1]), if_neg (by rw [h2]; simp)])
      go_enter Try.func83, Try.ntmps83
      go_wp2_with fail
      go_ret
      exact ⟨ret_int (by rw [HX.out]), rfl⟩

theorem os_next {w W W' : World} {oa ob na nb : Int} {sa sb : ByteArray} {ba bb : Option Addr} {la lb ca cb : Nat} (h : Hid (Below w.heap.size w W) ∧ (W.cell? ⟨w.heap.size, 0, none⟩ = some (.int .i64 oa) ∧ W.cell? ⟨w.heap.size, 1, none⟩ = some (.int .i64 na) ∧ W.cell? ⟨w.heap.size, 2, none⟩ = some (.string sa) ∧ W.cell? ⟨w.heap.size, 3, none⟩ = some (.slice ba la ca) ∧
      W.cell? ⟨w.heap.size + 1, 0, none⟩ = some (.int .i64 ob) ∧ W.cell? ⟨w.heap.size + 1, 1, none⟩ = some (.int .i64 nb) ∧ W.cell? ⟨w.heap.size + 1, 2, none⟩ = some (.string sb) ∧ W.cell? ⟨w.heap.size + 1, 3, none⟩ = some (.slice bb lb cb))) (hb : Below W.heap.size W W') :
    Hid (Below w.heap.size w W') ∧ (W'.cell? ⟨w.heap.size, 0, none⟩ = some (.int .i64 oa) ∧ W'.cell? ⟨w.heap.size, 1, none⟩ = some (.int .i64 na) ∧ W'.cell? ⟨w.heap.size, 2, none⟩ = some (.string sa) ∧ W'.cell? ⟨w.heap.size, 3, none⟩ = some (.slice ba la ca) ∧
      W'.cell? ⟨w.heap.size + 1, 0, none⟩ = some (.int .i64 ob) ∧ W'.cell? ⟨w.heap.size + 1, 1, none⟩ = some (.int .i64 nb) ∧ W'.cell? ⟨w.heap.size + 1, 2, none⟩ = some (.string sb) ∧ W'.cell? ⟨w.heap.size + 1, 3, none⟩ = some (.slice bb lb cb)) := by
  obtain ⟨h0, h1, h2, h3, h4, h5, h6, h7, h8⟩ := h
  exact ⟨Lib.hid (h0.out.trans (hb.mono h0.out.size)), keeps hb _ _ h1, keeps hb _ _ h2, keeps hb _ _ h3, keeps hb _ _ h4, keeps hb _ _ h5, keeps hb _ _ h6, keeps hb _ _ h7, keeps hb _ _ h8⟩

mutual
/-- how a proper type is ordered against another one -/
def ord : Ty → Ty → Int
  | .mk o n s a, .mk o' n' s' b => if cmpI (1 + nodess a : Nat) (1 + nodess b : Nat) ≠ 0 then cmpI (1 + nodess a : Nat) (1 + nodess b : Nat) else if cmpI o o' ≠ 0 then cmpI o o' else if cmpI n n' ≠ 0 then cmpI n n' else if cmpS s s' ≠ 0 then cmpS s s' else ords a b
def ords : List Ty → List Ty → Int
  | x :: a, y :: b => if ord x y ≠ 0 then ord x y else ords a b
  | _, _ => 0
end
theorem ord_eq (t u : Ty) : ord t u = if cmpI (nodes t) (nodes u) ≠ 0 then cmpI (nodes t) (nodes u) else if cmpI t.op u.op ≠ 0 then cmpI t.op u.op else if cmpI t.n u.n ≠ 0 then cmpI t.n u.n else if cmpS t.s u.s ≠ 0 then cmpS t.s u.s else ords t.args u.args := by
  rw [nodes_eq t, nodes_eq u]
  cases t; cases u; rw [ord]; rfl
theorem ords_nil (b : List Ty) : ords [] b = 0 := by rw [ords]; simp
theorem ords_cons (x y : Ty) (a b : List Ty) : ords (x :: a) (y :: b) = if ord x y ≠ 0 then ord x y else ords a b := by rw [ords]
mutual
/-- each part has as many parts as its head asks -/
def wf : Ty → Prop
  | .mk o n s a => headK o n s = some a.length ∧ wfs a
def wfs : List Ty → Prop
  | [] => True
  | x :: l => wf x ∧ wfs l
end
theorem wf_eq (t : Ty) : wf t ↔ headK t.op t.n t.s = some t.args.length ∧ wfs t.args := by cases t; rw [wf]; rfl
theorem wfs_at : ∀ {l : List Ty} (i : Nat) (h : i < l.length), wfs l → wf (l[i]'h)
  | x :: l, 0, _, h => by rw [wfs] at h; exact h.1
  | x :: l, i + 1, h1, h => by rw [wfs] at h; exact wfs_at i (by simpa using h1) h.2
mutual
theorem prop_wf : ∀ (t : Ty) (d c : Nat), (prop t d c).1 = true → wf t
  | .mk op n s a, d, c, h => by
    rw [prop] at h
    rw [wf]
    by_cases h1 : 600 < c + 1 ∨ 40 < d
    · rw [if_pos h1] at h; cases h
    · rw [if_neg h1] at h
      cases hk : headK op n s with
      | none => rw [hk] at h; cases h
      | some k =>
        rw [hk] at h
        simp only at h
        by_cases h2 : a.length = k
        · rw [if_pos h2] at h
          exact ⟨by rw [h2], props_wf a (d + 1) (c + 1) h⟩
        · rw [if_neg h2] at h; cases h
theorem props_wf : ∀ (l : List Ty) (d c : Nat), (props l d c).1 = true → wfs l
  | [], d, c, _ => by rw [wfs]; trivial
  | x :: l, d, c, h => by
    rw [props] at h
    rw [wfs]
    by_cases h1 : (prop x d c).1 = true
    · rw [if_pos h1] at h
      exact ⟨prop_wf x d c h1, props_wf l d _ h⟩
    · rw [if_neg h1] at h; exact absurd h h1
end
theorem head_len (op n n' : Int) (s s' : List UInt8) (k k' : Nat) (h : headK op n s = some k) (h' : headK op n' s' = some k') : k = k' := by
  unfold headK at h h'
  repeat' split at h
  all_goals repeat' split at h'
  all_goals simp_all

theorem name_list (t : Ty) : t.name.toList = t.s := by
  rw [Lib.toList_data]
  unfold name
  simp
theorem cmpI_zero {a b : Int} (h : cmpI a b = 0) : a = b := by
  unfold cmpI at h
  split at h
  · cases h
  · split at h
    · cases h
    · omega
theorem nodes_at : ∀ {l : List Ty} (i : Nat) (h : i < l.length), nodes (l[i]'h) ≤ nodess l
  | x :: l, 0, _ => by rw [nodess_cons]; exact Nat.le_add_right _ _
  | x :: l, i + 1, h => by
    have := nodes_at (l := l) i (by simpa using h)
    rw [nodess_cons]
    show nodes (l[i]'_) ≤ _
    omega
theorem ords_drop {a b : List Ty} {j : Nat} (h1 : j < a.length) (h2 : j < b.length) : ords (a.drop j) (b.drop j) = if ord (a[j]'h1) (b[j]'h2) ≠ 0 then ord (a[j]'h1) (b[j]'h2) else ords (a.drop (j + 1)) (b.drop (j + 1)) := by
  rw [List.drop_eq_getElem_cons h1, List.drop_eq_getElem_cons h2, ords_cons]

def OrdC (t : Ty) : Prop := ∀ (u : Ty) (va vb : Value) (w : World), V w t va → V w u vb → wf t → wf u → nodes t ≤ 600 → nodes u ≤ 600 → Calls Try.prog 44 #[va, vb] w fun e w' => e = .returned (.int .i64 (ord t u)) ∧ Below w.heap.size w w'

def cAt (c1 c2 c3 c4 : Int) (j : Nat) : Int := match j with | 0 => c1 | 1 => c2 | 2 => c3 | _ => c4
theorem first_of {c1 c2 c3 c4 r : Int} : ∀ j, j < 4 → (∀ k, k < j → cAt c1 c2 c3 c4 k = 0) → cAt c1 c2 c3 c4 j ≠ 0 → (if c1 ≠ 0 then c1 else if c2 ≠ 0 then c2 else if c3 ≠ 0 then c3 else if c4 ≠ 0 then c4 else r) = cAt c1 c2 c3 c4 j
  | 0, _, _, h => if_pos h
  | 1, _, hz, h => by
    have h0 : c1 = 0 := hz 0 (by omega)
    rw [if_neg (by omega)]; exact if_pos h
  | 2, _, hz, h => by
    have h0 : c1 = 0 := hz 0 (by omega)
    have h1 : c2 = 0 := hz 1 (by omega)
    rw [if_neg (by omega), if_neg (by omega)]; exact if_pos h
  | 3, _, hz, h => by
    have h0 : c1 = 0 := hz 0 (by omega)
    have h1 : c2 = 0 := hz 1 (by omega)
    have h2 : c3 = 0 := hz 2 (by omega)
    rw [if_neg (by omega), if_neg (by omega), if_neg (by omega)]; exact if_pos h
  | j + 4, h, _, _ => absurd h (by omega)
theorem none_of {c1 c2 c3 c4 r : Int} (hz : ∀ k, k < 4 → cAt c1 c2 c3 c4 k = 0) : (if c1 ≠ 0 then c1 else if c2 ≠ 0 then c2 else if c3 ≠ 0 then c3 else if c4 ≠ 0 then c4 else r) = r := by
  have h0 : c1 = 0 := hz 0 (by omega)
  have h1 : c2 = 0 := hz 1 (by omega)
  have h2 : c3 = 0 := hz 2 (by omega)
  have h3 : c4 = 0 := hz 3 (by omega)
  rw [if_neg (by omega), if_neg (by omega), if_neg (by omega), if_neg (by omega)]

set_option maxHeartbeats 16000000 in
theorem order_step (t : Ty) (hA : ∀ (i : Nat) (h : i < t.args.length), OrdC (t.args[i]'h)) : OrdC t := by
  intro u va vb w ha hb hwt hwu hn1 hn2
  have hsa := fun W (h : Below w.heap.size w W) => size_any t va W (ha.next h) (by omega)
  have hsb := fun W (h : Below w.heap.size w W) => size_any u vb W (hb.next h) (by omega)
  obtain ⟨ba, ca, ea, _, hra⟩ := ha
  obtain ⟨bb, cb, eb, _, hrb⟩ := hb
  subst ea eb
  obtain ⟨t1, t2⟩ := two_boxes w (.int .i64 t.op) (.int .i64 t.n) (.string t.name) (.slice ba t.args.length ca) (.int .i64 u.op) (.int .i64 u.n) (.string u.name) (.slice bb u.args.length cb)
  have hW0 := below_two w (Obj.cells #[.int .i64 t.op, .int .i64 t.n, .string t.name, .slice ba t.args.length ca] 24) (Obj.cells #[.int .i64 u.op, .int .i64 u.n, .string u.name, .slice bb u.args.length cb] 24)
  have HLEN : Hid (t.op = u.op → t.args.length = u.args.length) := Lib.hid (fun h => head_len _ _ _ _ _ _ _ ((wf_eq t).mp hwt).1 (by rw [h]; exact ((wf_eq u).mp hwu).1))
  have HWA := Lib.hid ((wf_eq t).mp hwt).2
  have HWB := Lib.hid ((wf_eq u).mp hwu).2
  have heq := ord_eq t u
  rw [← name_list t, ← name_list u] at heq
  have HEQ := Lib.hid heq
  clear heq
  have HA := Lib.hid hA
  have HRA := Lib.hid hra
  have HRB := Lib.hid hrb
  have HNA := Lib.hid hn1
  have HNB := Lib.hid hn2
  clear hA hwt hwu hra hrb hn1 hn2
  obtain ⟨la, hla⟩ : ∃ la, la = t.args.length := ⟨_, rfl⟩
  obtain ⟨lb, hlb⟩ : ∃ lb, lb = u.args.length := ⟨_, rfl⟩
  rw [← hla, ← hlb] at HLEN
  rw [← hla] at hsa t1 t2 hW0 ⊢
  rw [← hlb] at hsb t1 t2 hW0 ⊢
  have HSA := Lib.hid hsa
  have HSB := Lib.hid hsb
  clear hsa hsb
  have HLA := Lib.hid hla
  have HLB := Lib.hid hlb
  clear hla hlb
  obtain ⟨na', hna'⟩ : ∃ n', n' = t.nodes := ⟨_, rfl⟩
  obtain ⟨nb', hnb'⟩ : ∃ n', n' = u.nodes := ⟨_, rfl⟩
  rw [← hna'] at HSA HEQ
  rw [← hnb'] at HSB HEQ
  clear hna' hnb'
  generalize t.op = oa at *
  generalize u.op = ob at *
  generalize t.n = na at *
  generalize u.n = nb at *
  generalize t.name = sa at *
  generalize u.name = sb at *
  go_enter Try.func44, Try.ntmps44
  go_wp2_with fail
  obtain ⟨W0, hW⟩ : ∃ W0, W0 = (w.alloc (Obj.cells #[.int .i64 oa, .int .i64 na, .string sa, .slice ba la ca] 24)).alloc (Obj.cells #[.int .i64 ob, .int .i64 nb, .string sb, .slice bb lb cb] 24) := ⟨_, rfl⟩
  rw [← hW] at t1 t2 hW0 ⊢
  clear hW
  obtain ⟨x0, x1, x2, x3⟩ := t1.cells
  obtain ⟨y0, y1, y2, y3⟩ := t2.cells
  have HX := Lib.hid t1
  have HY := Lib.hid t2
  have HB0 := Lib.hid hW0
  clear t1 t2 hW0
  go_region_held3 (fun W => Hid (Below w.heap.size w W) ∧ (W.cell? ⟨w.heap.size, 0, none⟩ = some (.int .i64 oa) ∧ W.cell? ⟨w.heap.size, 1, none⟩ = some (.int .i64 na) ∧ W.cell? ⟨w.heap.size, 2, none⟩ = some (.string sa) ∧ W.cell? ⟨w.heap.size, 3, none⟩ = some (.slice ba la ca) ∧
      W.cell? ⟨w.heap.size + 1, 0, none⟩ = some (.int .i64 ob) ∧ W.cell? ⟨w.heap.size + 1, 1, none⟩ = some (.int .i64 nb) ∧ W.cell? ⟨w.heap.size + 1, 2, none⟩ = some (.string sb) ∧ W.cell? ⟨w.heap.size + 1, 3, none⟩ = some (.slice bb lb cb)))
    (first | exact ⟨Lib.hid HB0.out.drew, x0, x1, x2, x3, y0, y1, y2, y3⟩ | assumption | exact os_next (by assumption) hb | exact os_next (by assumption) ((Below.refl _ _).alloc (Nat.le_refl _) _))
    (first
    | (go_at_call_of 23 sa; refine (HSA.out _ ?_).mono ?_; (exact Hid.out (And.left (by assumption))); rintro e w2 ⟨rfl, hb⟩)
    | (go_at_call_of 23 sb; refine (HSB.out _ ?_).mono ?_; (exact Hid.out (And.left (by assumption))); rintro e w2 ⟨rfl, hb⟩)
    | (go_at_call 82; refine (compare_any _ _ _).mono ?_; rintro e w' ⟨rfl, rfl⟩)
    | (go_at_call 83; refine (words_any _ _ _).mono ?_; rintro e w' ⟨rfl, rfl⟩))
  rename_i hS
  obtain ⟨c1, hc1⟩ : ∃ c, c = cmpI na' nb' := ⟨_, rfl⟩
  obtain ⟨c2, hc2⟩ : ∃ c, c = cmpI oa ob := ⟨_, rfl⟩
  obtain ⟨c3, hc3⟩ : ∃ c, c = cmpI na nb := ⟨_, rfl⟩
  obtain ⟨c4, hc4⟩ : ∃ c, c = cmpS sa.toList sb.toList := ⟨_, rfl⟩
  rw [← hc1, ← hc2, ← hc3, ← hc4] at HEQ hS ⊢
  have HC2 := Lib.hid hc2
  clear hc1 hc2 hc3 hc4 HX HY x0 x1 x2 x3 y0 y1 y2 y3
  have hrow := heap_alloc_new w2 (Obj.cells #[.int .i64 c1, .int .i64 c2, .int .i64 c3, .int .i64 c4] 3)
  obtain ⟨W1, hW1⟩ : ∃ W1, W1 = w2.alloc (Obj.cells #[.int .i64 c1, .int .i64 c2, .int .i64 c3, .int .i64 c4] 3) := ⟨_, rfl⟩
  rw [← hW1] at hrow hS ⊢
  clear hW1
  obtain ⟨g, hg⟩ : ∃ g, g = w2.heap.size := ⟨_, rfl⟩
  rw [← hg] at hrow ⊢
  clear hg
  have HCELL : Hid (∀ j, j < 4 → W1.cell? ⟨g, j, none⟩ = some (.int .i64 (cAt c1 c2 c3 c4 j))) := Lib.hid (fun j hj => by
    match j, hj with
    | 0, _ => exact cell_of_row W1 g 0 _ 3 (0, 0) hrow
    | 1, _ => exact cell_of_row W1 g 1 _ 3 (0, 0) hrow
    | 2, _ => exact cell_of_row W1 g 2 _ 3 (0, 0) hrow
    | 3, _ => exact cell_of_row W1 g 3 _ 3 (0, 0) hrow)
  clear hrow
  obtain ⟨hB, s0, s1, s2, s3, r0, r1, r2, r3⟩ := hS
  have HS3 := Lib.hid s3
  have HR3 := Lib.hid r3
  clear s0 s1 s2 s3 r0 r1 r2 r3
  go_wp2_with fail
  go_loopw [31] (fun i wr => ∃ j : Nat, j ≤ 4 ∧ i = .int .i64 j ∧ Below W1.heap.size W1 wr ∧ Hid (∀ k, k < j → cAt c1 c2 c3 c4 k = 0)) (fun i _ => 4 - (intOf i).toNat)
  case atStart => exact ⟨0, Nat.zero_le _, rfl, Below.refl _ _, Lib.hid (fun k h => absurd h (Nat.not_lt_zero _))⟩
  case round =>
    obtain ⟨j, hj, rfl, hbl, hall⟩ := hrel
    by_cases hlt : j < 4
    · have hc := keeps hbl _ _ (HCELL.out j hlt)
      obtain ⟨c, hcc⟩ : ∃ c, c = cAt c1 c2 c3 c4 j := ⟨_, rfl⟩
      rw [← hcc] at hc
      have HCC := Lib.hid hcc
      have HBL := Lib.hid hbl
      clear hcc hbl
      cases hz : (c != 0) with
      | false =>
        have HALL : Hid (∀ k, k < j + 1 → cAt c1 c2 c3 c4 k = 0) := Lib.hid (fun k h => by
          by_cases hkj : k = j
          · subst hkj; rw [← HCC.out]; simpa using hz
          · exact hall.out k (by omega))
        go_wp2_with fail
        go_roundw
        case rel => exact ⟨j + 1, by omega, by go_num, HBL.out, HALL⟩
        case measure => simp [intOf]; omega
      | true =>
        have HO : Hid (t.ord u = c) := Lib.hid (by
          rw [HEQ.out, HCC.out]
          exact first_of j hlt hall.out (by rw [← HCC.out]; simpa using hz))
        go_wp2_with fail
        go_ret
        exact ⟨ret_int (by rw [HO.out]), hB.out.trans (HBL.out.mono hB.out.size)⟩
    · have hz : ∀ k, k < 4 → cAt c1 c2 c3 c4 k = 0 := fun k hk => hall.out k (by omega)
      have hlen : la = lb := HLEN.out (cmpI_zero (by rw [← HC2.out]; exact hz 1 (by omega)))
      subst hlen
      have HO : Hid (t.ord u = ords t.args u.args) := Lib.hid (by
        rw [HEQ.out]
        exact none_of hz)
      have q3 := keeps hbl _ _ HS3.out
      have p3 := keeps hbl _ _ HR3.out
      have HLM : Hid (la ≤ 9223372036854775807) := Lib.hid (by have := HRA.out.1; have := HLA.out; unfold maxLen at *; omega)
      have hlm := HLM.out
      have HBL := Lib.hid hbl
      clear hz hbl
      go_wp2_with fail
      clear q3 p3
      go_loopw [42] (fun i wr => ∃ j : Nat, j ≤ la ∧ i = .int .i64 j ∧ Below W1.heap.size W1 wr ∧ Hid (ords (t.args.drop j) (u.args.drop j) = ords t.args u.args)) (fun i _ => la - (intOf i).toNat)
      case atStart => exact ⟨0, Nat.zero_le _, rfl, HBL.out, Lib.hid (by rw [List.drop_zero, List.drop_zero])⟩
      case round =>
        obtain ⟨j, hj, rfl, hbl, hsum⟩ := hrel
        have q3 := keeps hbl _ _ HS3.out
        have p3 := keeps hbl _ _ HR3.out
        have HBW : Hid (Below w.heap.size w wr) := Lib.hid (hB.out.trans (hbl.mono hB.out.size))
        have HBL := Lib.hid hbl
        clear hbl
        by_cases hlt : j < la
        · have h1 : j < t.args.length := by rw [← HLA.out]; exact hlt
          have h2 : j < u.args.length := by rw [← HLB.out]; exact hlt
          rcases HRA.out.2 with h0 | ⟨g1, o1, rfl, hra⟩
          · exact absurd h0 (List.ne_nil_of_length_pos (by omega))
          rcases HRB.out.2 with h0 | ⟨g2, o2, rfl, hrb⟩
          · exact absurd h0 (List.ne_nil_of_length_pos (by omega))
          obtain ⟨xa, ya, d0, d1, d2, d3, hva⟩ := at_v (row_at h1 (hra.next HBW.out))
          obtain ⟨xb, yb, e0, e1, e2, e3, hvb⟩ := at_v (row_at h2 (hrb.next HBW.out))
          have hsum2 := hsum.out
          rw [ords_drop h1 h2] at hsum2
          have hcx := HA.out j h1
          have hwa := wfs_at j h1 HWA.out
          have hwb := wfs_at j h2 HWB.out
          have hna := nodes_at j h1
          have hnb := nodes_at j h2
          have hn1 := HNA.out
          have hn2 := HNB.out
          rw [nodes_eq] at hn1 hn2
          obtain ⟨x, hx⟩ : ∃ x, x = t.args[j]'h1 := ⟨_, rfl⟩
          obtain ⟨y, hy⟩ : ∃ y, y = u.args[j]'h2 := ⟨_, rfl⟩
          rw [← hx] at d0 d1 d2 d3 hva hsum2 hcx hwa hna
          rw [← hy] at e0 e1 e2 e3 hvb hsum2 hwb hnb
          have hcall := fun w2 (hb : Below wr.heap.size wr w2) => hcx y _ _ w2 (hva.next hb) (hvb.next hb) hwa hwb (by omega) (by omega)
          have HCALL := Lib.hid hcall
          have HSUM := Lib.hid hsum2
          clear hcall hcx hva hvb hx hy hra hrb hsum2 hwa hwb hna hnb hn1 hn2
          generalize x.args.length = xal at *
          generalize y.args.length = ybl at *
          generalize x.op = xo at *
          generalize y.op = yo at *
          generalize x.n = xn at *
          generalize y.n = yn at *
          generalize x.name = xs at *
          generalize y.name = ys at *
          obtain ⟨r, hr⟩ : ∃ r, r = ord x y := ⟨_, rfl⟩
          rw [← hr] at HCALL HSUM
          clear hr
          cases hz : (r != 0) with
          | false =>
            have HSUM2 : Hid (ords (t.args.drop (j + 1)) (u.args.drop (j + 1)) = ords t.args u.args) := Lib.hid (by
              rw [← HSUM.out, if_neg (by simpa using hz)])
            go_wp2_with fail
            first | (go_region_with (go_at_call 44; refine (HCALL.out _ ((Below.refl _ _).drew)).mono ?_; rintro e w2 ⟨rfl, hb2⟩)) | fail
            all_goals
              have HB2 : Hid (Below W1.heap.size W1 w2) := Lib.hid (by first | exact HBL.out.trans (hb2.mono HBL.out.size) | exact HBL.out.drew.trans (hb2.mono HBL.out.size))
              clear hb2
              go_wp2_with fail
              go_roundw
              case rel => exact ⟨j + 1, by omega, by go_num, HB2.out, HSUM2⟩
              case measure => simp [intOf]; omega
          | true =>
            have HO2 : Hid (t.ord u = r) := Lib.hid (by
              rw [HO.out, ← HSUM.out, if_pos (by simpa using hz)])
            go_wp2_with fail
            first | (go_region_with (go_at_call 44; refine (HCALL.out _ ((Below.refl _ _).drew)).mono ?_; rintro e w2 ⟨rfl, hb2⟩)) | fail
            all_goals
              have HB2 : Hid (Below w.heap.size w w2) := Lib.hid (by first | exact HBW.out.trans (hb2.mono HBW.out.size) | exact HBW.out.drew.trans (hb2.mono HBW.out.size))
              clear hb2
              go_wp2_with fail
              go_ret
              exact ⟨ret_int (by rw [HO2.out]), HB2.out⟩
        · have HO2 : Hid (t.ord u = 0) := Lib.hid (by
            rw [HO.out, ← hsum.out, List.drop_of_length_le (by rw [← HLA.out]; omega), ords_nil])
          go_wp2_with fail
          go_ret
          exact ⟨ret_int (by rw [HO2.out]), HBW.out⟩

theorem order_any : ∀ t : Ty, OrdC t := by
  intro t
  induction hm : SizeOf.sizeOf t using Nat.strongRecOn generalizing t with
  | ind m ih => exact order_step t (fun i h => ih _ (by rw [← hm]; exact size_arg t i h) _ rfl)

end Ty
end Go.Proofs.Ytkedhnahgpmkaaa
