/- What kind's builtin returns. Conditions: none. -/
import Derived.Test.YtfjgebdpbmnicaaJ26
namespace Go.Proofs.Ytfjgebdpbmnicaa
open Go.RowKit

namespace Ty
/-- a kind that is built in, or none -/
def BltO (r : Option Ty) (w : World) (e : Ending) (w' : World) : Prop := ∃ k v, (match r with | some k' => k = k' ∧ e = .returned (.tuple #[v, .bool true]) | none => k = zeroT ∧ e = .returned (.tuple #[v, .bool false])) ∧ VO (w.heap.size ≤ ·) w' k v ∧ Below w.heap.size w w'
theorem named_ex (s : ByteArray) (w : World) : Calls Try.prog 31 #[.string s] w fun e w' => e = .returned (.agg #[.int .i64 2, .int .i64 0, .string s, .slice none 0 0]) ∧ Below w.heap.size w w' := by
  obtain ⟨b0, b1, b2, b3⟩ := box4 w (.int .i64 2) (.int .i64 0) (.string s) (.slice none 0 0)
  go_enter Try.func31, Try.ntmps31
  go_wp2_with fail
  refine bodyPost_ret (results_ty (a := 2) (by kernel_rfl) (B := w.heap.size) (by rfl) b0 b1 b2 b3) rfl ?_
  exact ⟨rfl, (Below.refl _ _).alloc (Nat.le_refl _) _⟩
theorem v_con (s : List UInt8) (hs : s.length ≤ maxLen) (W : World) : V W (conT s) (.agg #[.int .i64 2, .int .i64 0, .string ⟨s.toArray⟩, .slice none 0 0]) := ⟨none, 0, rfl, hs, Nat.zero_le _, .inl rfl⟩
theorem funR_t : funR [] tType = .ok tType := by
  unfold funR fullT
  rw [if_pos (by decide +kernel), if_pos (by decide +kernel)]
  rfl
theorem funR_b : funR [] (conT bBool) = .ok (conT bBool) := by
  unfold funR fullT
  rw [if_pos (by decide +kernel), if_pos (by decide +kernel)]
  rfl
theorem funR_u : funR [] (conT bUnit) = .ok (conT bUnit) := by
  unfold funR fullT
  rw [if_pos (by decide +kernel), if_pos (by decide +kernel)]
  rfl
theorem funR_1 : funR [tType] tType = .ok (arrow tType tType) := by
  unfold funR fullT
  rw [if_pos (by decide +kernel), if_pos (by decide +kernel)]
  rfl
theorem funR_2 : funR [tType, tType] tType = .ok (arrow tType (arrow tType tType)) := by
  unfold funR fullT
  rw [if_pos (by decide +kernel), if_pos (by decide +kernel)]
  rfl

set_option maxHeartbeats 4000000 in
theorem blt_type (w : World) : Calls Try.prog 20 #[.string ⟨#[84, 121, 112, 101]⟩] w (BltO (some (tType)) w) := by
  obtain ⟨KK, hKK⟩ : ∃ KK, KK = (tType) := ⟨_, rfl⟩
  have hfr : funR [] (tType) = .ok KK := by rw [hKK]; exact funR_t
  have hln : ([] : List Ty).length = 0 := rfl
  have HF := Lib.hid (fun (W : World) (b : Option Addr) (c : Nat) (v : Value) (hv : V W (tType) v) (hl : Sl W b ([] : List Ty)) => fun_o2 (tType) [] v b c W hv hl)
  rw [hfr] at HF
  simp only [hln] at HF
  rw [← hKK]
  clear hKK hfr hln
  have ht1 : B4 (w.alloc (Obj.cells #[.int .i64 0, .int .i64 0, .string ⟨#[]⟩, .slice none 0 0] 36)) w.heap.size (.int .i64 0) (.int .i64 0) (.string ⟨#[]⟩) (.slice none 0 0) := heap_alloc_new _ _
  have hb1 : Below w.heap.size w (w.alloc (Obj.cells #[.int .i64 0, .int .i64 0, .string ⟨#[]⟩, .slice none 0 0] 36)) := (Below.refl _ _).alloc (Nat.le_refl _) _
  have HT1 := Lib.hid ht1
  have HB1 := Lib.hid hb1
  clear ht1 hb1
  go_enter Try.func20, Try.ntmps20
  go_upto_region 1 with fail
  obtain ⟨W1, hW1⟩ : ∃ W1, W1 = w.alloc (Obj.cells #[.int .i64 0, .int .i64 0, .string ⟨#[]⟩, .slice none 0 0] 36) := ⟨_, rfl⟩
  rw [← hW1] at HT1 HB1 ⊢
  clear hW1
  go_wp2_with fail
  refine (named_ex ⟨#[84, 121, 112, 101]⟩ W1).mono ?_
  rintro e w2 ⟨rfl, hb2⟩
  have hal : Below w2.heap.size w2 (w2.alloc (Obj.cells #[.int .i64 2, .int .i64 0, .string ⟨#[84, 121, 112, 101]⟩, .slice none 0 0] 36)) := (Below.refl _ _).alloc (Nat.le_refl _) _
  have hbox : B4 (w2.alloc (Obj.cells #[.int .i64 2, .int .i64 0, .string ⟨#[84, 121, 112, 101]⟩, .slice none 0 0] 36)) w2.heap.size (.int .i64 2) (.int .i64 0) (.string ⟨#[84, 121, 112, 101]⟩) (.slice none 0 0) := heap_alloc_new _ _
  have HV2 : Hid (V (w2.alloc (Obj.cells #[.int .i64 2, .int .i64 0, .string ⟨#[84, 121, 112, 101]⟩, .slice none 0 0] 36)) tType (.agg #[.int .i64 2, .int .i64 0, .string ⟨#[84, 121, 112, 101]⟩, .slice none 0 0])) := Lib.hid (v_con bType (by decide) _)
  have HB3 := Lib.hid ((HB1.out.trans (hb2.mono HB1.out.size)).trans (hal.mono (by have := HB1.out.size; have := hb2.size; omega)))
  have HT3 := Lib.hid ((HT1.out.next hb2).next hal)
  have HBX := Lib.hid hbox
  have HNE : Hid (w.heap.size < w2.heap.size) := Lib.hid (by have := lt_of_block (HT1.out.next hb2); omega)
  clear hal hbox hb2 HT1
  go_upto_region 2 with fail
  obtain ⟨W3, hW3⟩ : ∃ W3, W3 = w2.alloc (Obj.cells #[.int .i64 2, .int .i64 0, .string ⟨#[84, 121, 112, 101]⟩, .slice none 0 0] 36) := ⟨_, rfl⟩
  have hs3 : W3.heap.size = w2.heap.size + 1 := by rw [hW3]; simp
  rw [← hW3] at HV2 HB3 HT3 HBX ⊢
  clear hW3
  obtain ⟨k0, k1, k2, k3⟩ := HBX.out.cells
  go_wp2_with fail
  refine (HF.out W3 none 0 _ HV2.out ⟨Nat.zero_le _, .inl rfl⟩).mono ?_
  rintro e w4 ⟨k, n, v4, hk, rfl, ⟨b4, c4, rfl, hs4, hl4⟩, hb4⟩
  obtain ⟨rfl, rfl⟩ := hk
  have HV4 : Hid (VO (W3.heap.size ≤ ·) w4 (k) (.agg #[.int .i64 (k).op, .int .i64 (k).n, .string (k).name, .slice b4 (k).args.length c4])) := Lib.hid ⟨b4, c4, rfl, hs4, hl4⟩
  have HB4 := Lib.hid (HB3.out.trans (hb4.mono HB3.out.size))
  have HT4 := Lib.hid (HT3.out.next hb4)
  have HK4 := Lib.hid (HBX.out.next hb4)
  clear hs4 hl4 hb4 k0 k1 k2 k3
  obtain ⟨k0, k1, k2, k3⟩ := HK4.out.cells
  have g0 := HK4.out.frozen 0
  have g1 := HK4.out.frozen 1
  have g2 := HK4.out.frozen 2
  have g3 := HK4.out.frozen 3
  go_upto_region 22 with fail
  have hne := HNE.out
  obtain ⟨W5, hW5⟩ : ∃ W5, W5 = put4 w4 w2.heap.size (.int .i64 (k).op) (.int .i64 (k).n) (.string (k).name) (.slice b4 (k).args.length c4) := ⟨_, rfl⟩
  have HB5 : Hid (Below w.heap.size w W5) := Lib.hid (by rw [hW5]; exact below_put4 HB4.out (by omega) _ _ _ _)
  have HT5 : Hid (B4 W5 w.heap.size (.int .i64 0) (.int .i64 0) (.string ⟨#[]⟩) (.slice none 0 0)) := Lib.hid (by rw [hW5]; exact (put4_other (by omega) _ _ _ _).trans HT4.out)
  have HK5 : Hid (B4 W5 w2.heap.size (.int .i64 (k).op) (.int .i64 (k).n) (.string (k).name) (.slice b4 (k).args.length c4)) := Lib.hid (by rw [hW5]; exact put4_cells HK4.out _ _ _ _)
  have HV5 : Hid (VO (W3.heap.size ≤ ·) W5 (k) (.agg #[.int .i64 (k).op, .int .i64 (k).n, .string (k).name, .slice b4 (k).args.length c4])) := Lib.hid (HV4.out.keep (fun _ h => h) (fun p v hp hc => by rw [hW5]; exact put4_keep _ _ _ _ p v hc (by have : W3.heap.size ≤ p.block := hp; omega)))
  unfold put4 at hW5
  rw [← hW5]
  clear hW5 k0 k1 k2 k3 g0 g1 g2 g3 HV4 HB4 HT4 HK4
  obtain ⟨k0, k1, k2, k3⟩ := HK5.out.cells
  obtain ⟨z0, z1, z2, z3⟩ := HT5.out.cells
  have f0 := HT5.out.frozen 0
  have f1 := HT5.out.frozen 1
  have f2 := HT5.out.frozen 2
  have f3 := HT5.out.frozen 3
  go_wp2_with fail
  refine bodyPost_ret (results_two (a := 2) (b := 3) (by kernel_rfl) (B := w.heap.size) (by rfl) (by rfl) (put4_cells HT5.out _ _ _ _).cells.1 (put4_cells HT5.out _ _ _ _).cells.2.1 (put4_cells HT5.out _ _ _ _).cells.2.2.1 (put4_cells HT5.out _ _ _ _).cells.2.2.2) rfl ?_
  unfold BltO
  exact ⟨k, _, ⟨rfl, rfl⟩, HV5.out.keep (fun g hg => by show w.heap.size ≤ g; have h1 : W3.heap.size ≤ g := hg; have h2 := HB3.out.size; omega) (fun p v hp hc => put4_keep _ _ _ _ p v hc (by have : W3.heap.size ≤ p.block := hp; omega)), below_put4 HB5.out (Nat.le_refl _) _ _ _ _⟩

set_option maxHeartbeats 4000000 in
theorem blt_constraint (w : World) : Calls Try.prog 20 #[.string ⟨#[67, 111, 110, 115, 116, 114, 97, 105, 110, 116]⟩] w (BltO (some (tType)) w) := by
  obtain ⟨KK, hKK⟩ : ∃ KK, KK = (tType) := ⟨_, rfl⟩
  have hfr : funR [] (tType) = .ok KK := by rw [hKK]; exact funR_t
  have hln : ([] : List Ty).length = 0 := rfl
  have HF := Lib.hid (fun (W : World) (b : Option Addr) (c : Nat) (v : Value) (hv : V W (tType) v) (hl : Sl W b ([] : List Ty)) => fun_o2 (tType) [] v b c W hv hl)
  rw [hfr] at HF
  simp only [hln] at HF
  rw [← hKK]
  clear hKK hfr hln
  have ht1 : B4 (w.alloc (Obj.cells #[.int .i64 0, .int .i64 0, .string ⟨#[]⟩, .slice none 0 0] 36)) w.heap.size (.int .i64 0) (.int .i64 0) (.string ⟨#[]⟩) (.slice none 0 0) := heap_alloc_new _ _
  have hb1 : Below w.heap.size w (w.alloc (Obj.cells #[.int .i64 0, .int .i64 0, .string ⟨#[]⟩, .slice none 0 0] 36)) := (Below.refl _ _).alloc (Nat.le_refl _) _
  have HT1 := Lib.hid ht1
  have HB1 := Lib.hid hb1
  clear ht1 hb1
  go_enter Try.func20, Try.ntmps20
  go_upto_region 1 with fail
  obtain ⟨W1, hW1⟩ : ∃ W1, W1 = w.alloc (Obj.cells #[.int .i64 0, .int .i64 0, .string ⟨#[]⟩, .slice none 0 0] 36) := ⟨_, rfl⟩
  rw [← hW1] at HT1 HB1 ⊢
  clear hW1
  go_wp2_with fail
  refine (named_ex ⟨#[84, 121, 112, 101]⟩ W1).mono ?_
  rintro e w2 ⟨rfl, hb2⟩
  have hal : Below w2.heap.size w2 (w2.alloc (Obj.cells #[.int .i64 2, .int .i64 0, .string ⟨#[84, 121, 112, 101]⟩, .slice none 0 0] 36)) := (Below.refl _ _).alloc (Nat.le_refl _) _
  have hbox : B4 (w2.alloc (Obj.cells #[.int .i64 2, .int .i64 0, .string ⟨#[84, 121, 112, 101]⟩, .slice none 0 0] 36)) w2.heap.size (.int .i64 2) (.int .i64 0) (.string ⟨#[84, 121, 112, 101]⟩) (.slice none 0 0) := heap_alloc_new _ _
  have HV2 : Hid (V (w2.alloc (Obj.cells #[.int .i64 2, .int .i64 0, .string ⟨#[84, 121, 112, 101]⟩, .slice none 0 0] 36)) tType (.agg #[.int .i64 2, .int .i64 0, .string ⟨#[84, 121, 112, 101]⟩, .slice none 0 0])) := Lib.hid (v_con bType (by decide) _)
  have HB3 := Lib.hid ((HB1.out.trans (hb2.mono HB1.out.size)).trans (hal.mono (by have := HB1.out.size; have := hb2.size; omega)))
  have HT3 := Lib.hid ((HT1.out.next hb2).next hal)
  have HBX := Lib.hid hbox
  have HNE : Hid (w.heap.size < w2.heap.size) := Lib.hid (by have := lt_of_block (HT1.out.next hb2); omega)
  clear hal hbox hb2 HT1
  go_upto_region 2 with fail
  obtain ⟨W3, hW3⟩ : ∃ W3, W3 = w2.alloc (Obj.cells #[.int .i64 2, .int .i64 0, .string ⟨#[84, 121, 112, 101]⟩, .slice none 0 0] 36) := ⟨_, rfl⟩
  have hs3 : W3.heap.size = w2.heap.size + 1 := by rw [hW3]; simp
  rw [← hW3] at HV2 HB3 HT3 HBX ⊢
  clear hW3
  obtain ⟨k0, k1, k2, k3⟩ := HBX.out.cells
  go_wp2_with fail
  refine (HF.out W3 none 0 _ HV2.out ⟨Nat.zero_le _, .inl rfl⟩).mono ?_
  rintro e w4 ⟨k, n, v4, hk, rfl, ⟨b4, c4, rfl, hs4, hl4⟩, hb4⟩
  obtain ⟨rfl, rfl⟩ := hk
  have HV4 : Hid (VO (W3.heap.size ≤ ·) w4 (k) (.agg #[.int .i64 (k).op, .int .i64 (k).n, .string (k).name, .slice b4 (k).args.length c4])) := Lib.hid ⟨b4, c4, rfl, hs4, hl4⟩
  have HB4 := Lib.hid (HB3.out.trans (hb4.mono HB3.out.size))
  have HT4 := Lib.hid (HT3.out.next hb4)
  have HK4 := Lib.hid (HBX.out.next hb4)
  clear hs4 hl4 hb4 k0 k1 k2 k3
  obtain ⟨k0, k1, k2, k3⟩ := HK4.out.cells
  have g0 := HK4.out.frozen 0
  have g1 := HK4.out.frozen 1
  have g2 := HK4.out.frozen 2
  have g3 := HK4.out.frozen 3
  go_upto_region 22 with fail
  have hne := HNE.out
  obtain ⟨W5, hW5⟩ : ∃ W5, W5 = put4 w4 w2.heap.size (.int .i64 (k).op) (.int .i64 (k).n) (.string (k).name) (.slice b4 (k).args.length c4) := ⟨_, rfl⟩
  have HB5 : Hid (Below w.heap.size w W5) := Lib.hid (by rw [hW5]; exact below_put4 HB4.out (by omega) _ _ _ _)
  have HT5 : Hid (B4 W5 w.heap.size (.int .i64 0) (.int .i64 0) (.string ⟨#[]⟩) (.slice none 0 0)) := Lib.hid (by rw [hW5]; exact (put4_other (by omega) _ _ _ _).trans HT4.out)
  have HK5 : Hid (B4 W5 w2.heap.size (.int .i64 (k).op) (.int .i64 (k).n) (.string (k).name) (.slice b4 (k).args.length c4)) := Lib.hid (by rw [hW5]; exact put4_cells HK4.out _ _ _ _)
  have HV5 : Hid (VO (W3.heap.size ≤ ·) W5 (k) (.agg #[.int .i64 (k).op, .int .i64 (k).n, .string (k).name, .slice b4 (k).args.length c4])) := Lib.hid (HV4.out.keep (fun _ h => h) (fun p v hp hc => by rw [hW5]; exact put4_keep _ _ _ _ p v hc (by have : W3.heap.size ≤ p.block := hp; omega)))
  unfold put4 at hW5
  rw [← hW5]
  clear hW5 k0 k1 k2 k3 g0 g1 g2 g3 HV4 HB4 HT4 HK4
  obtain ⟨k0, k1, k2, k3⟩ := HK5.out.cells
  obtain ⟨z0, z1, z2, z3⟩ := HT5.out.cells
  have f0 := HT5.out.frozen 0
  have f1 := HT5.out.frozen 1
  have f2 := HT5.out.frozen 2
  have f3 := HT5.out.frozen 3
  go_wp2_with fail
  refine bodyPost_ret (results_two (a := 2) (b := 3) (by kernel_rfl) (B := w.heap.size) (by rfl) (by rfl) (put4_cells HT5.out _ _ _ _).cells.1 (put4_cells HT5.out _ _ _ _).cells.2.1 (put4_cells HT5.out _ _ _ _).cells.2.2.1 (put4_cells HT5.out _ _ _ _).cells.2.2.2) rfl ?_
  unfold BltO
  exact ⟨k, _, ⟨rfl, rfl⟩, HV5.out.keep (fun g hg => by show w.heap.size ≤ g; have h1 : W3.heap.size ≤ g := hg; have h2 := HB3.out.size; omega) (fun p v hp hc => put4_keep _ _ _ _ p v hc (by have : W3.heap.size ≤ p.block := hp; omega)), below_put4 HB5.out (Nat.le_refl _) _ _ _ _⟩

set_option maxHeartbeats 4000000 in
theorem blt_int (w : World) : Calls Try.prog 20 #[.string ⟨#[73, 110, 116]⟩] w (BltO (some (tType)) w) := by
  obtain ⟨KK, hKK⟩ : ∃ KK, KK = (tType) := ⟨_, rfl⟩
  have hfr : funR [] (tType) = .ok KK := by rw [hKK]; exact funR_t
  have hln : ([] : List Ty).length = 0 := rfl
  have HF := Lib.hid (fun (W : World) (b : Option Addr) (c : Nat) (v : Value) (hv : V W (tType) v) (hl : Sl W b ([] : List Ty)) => fun_o2 (tType) [] v b c W hv hl)
  rw [hfr] at HF
  simp only [hln] at HF
  rw [← hKK]
  clear hKK hfr hln
  have ht1 : B4 (w.alloc (Obj.cells #[.int .i64 0, .int .i64 0, .string ⟨#[]⟩, .slice none 0 0] 36)) w.heap.size (.int .i64 0) (.int .i64 0) (.string ⟨#[]⟩) (.slice none 0 0) := heap_alloc_new _ _
  have hb1 : Below w.heap.size w (w.alloc (Obj.cells #[.int .i64 0, .int .i64 0, .string ⟨#[]⟩, .slice none 0 0] 36)) := (Below.refl _ _).alloc (Nat.le_refl _) _
  have HT1 := Lib.hid ht1
  have HB1 := Lib.hid hb1
  clear ht1 hb1
  go_enter Try.func20, Try.ntmps20
  go_upto_region 1 with fail
  obtain ⟨W1, hW1⟩ : ∃ W1, W1 = w.alloc (Obj.cells #[.int .i64 0, .int .i64 0, .string ⟨#[]⟩, .slice none 0 0] 36) := ⟨_, rfl⟩
  rw [← hW1] at HT1 HB1 ⊢
  clear hW1
  go_wp2_with fail
  refine (named_ex ⟨#[84, 121, 112, 101]⟩ W1).mono ?_
  rintro e w2 ⟨rfl, hb2⟩
  have hal : Below w2.heap.size w2 (w2.alloc (Obj.cells #[.int .i64 2, .int .i64 0, .string ⟨#[84, 121, 112, 101]⟩, .slice none 0 0] 36)) := (Below.refl _ _).alloc (Nat.le_refl _) _
  have hbox : B4 (w2.alloc (Obj.cells #[.int .i64 2, .int .i64 0, .string ⟨#[84, 121, 112, 101]⟩, .slice none 0 0] 36)) w2.heap.size (.int .i64 2) (.int .i64 0) (.string ⟨#[84, 121, 112, 101]⟩) (.slice none 0 0) := heap_alloc_new _ _
  have HV2 : Hid (V (w2.alloc (Obj.cells #[.int .i64 2, .int .i64 0, .string ⟨#[84, 121, 112, 101]⟩, .slice none 0 0] 36)) tType (.agg #[.int .i64 2, .int .i64 0, .string ⟨#[84, 121, 112, 101]⟩, .slice none 0 0])) := Lib.hid (v_con bType (by decide) _)
  have HB3 := Lib.hid ((HB1.out.trans (hb2.mono HB1.out.size)).trans (hal.mono (by have := HB1.out.size; have := hb2.size; omega)))
  have HT3 := Lib.hid ((HT1.out.next hb2).next hal)
  have HBX := Lib.hid hbox
  have HNE : Hid (w.heap.size < w2.heap.size) := Lib.hid (by have := lt_of_block (HT1.out.next hb2); omega)
  clear hal hbox hb2 HT1
  go_upto_region 2 with fail
  obtain ⟨W3, hW3⟩ : ∃ W3, W3 = w2.alloc (Obj.cells #[.int .i64 2, .int .i64 0, .string ⟨#[84, 121, 112, 101]⟩, .slice none 0 0] 36) := ⟨_, rfl⟩
  have hs3 : W3.heap.size = w2.heap.size + 1 := by rw [hW3]; simp
  rw [← hW3] at HV2 HB3 HT3 HBX ⊢
  clear hW3
  obtain ⟨k0, k1, k2, k3⟩ := HBX.out.cells
  go_wp2_with fail
  refine (HF.out W3 none 0 _ HV2.out ⟨Nat.zero_le _, .inl rfl⟩).mono ?_
  rintro e w4 ⟨k, n, v4, hk, rfl, ⟨b4, c4, rfl, hs4, hl4⟩, hb4⟩
  obtain ⟨rfl, rfl⟩ := hk
  have HV4 : Hid (VO (W3.heap.size ≤ ·) w4 (k) (.agg #[.int .i64 (k).op, .int .i64 (k).n, .string (k).name, .slice b4 (k).args.length c4])) := Lib.hid ⟨b4, c4, rfl, hs4, hl4⟩
  have HB4 := Lib.hid (HB3.out.trans (hb4.mono HB3.out.size))
  have HT4 := Lib.hid (HT3.out.next hb4)
  have HK4 := Lib.hid (HBX.out.next hb4)
  clear hs4 hl4 hb4 k0 k1 k2 k3
  obtain ⟨k0, k1, k2, k3⟩ := HK4.out.cells
  have g0 := HK4.out.frozen 0
  have g1 := HK4.out.frozen 1
  have g2 := HK4.out.frozen 2
  have g3 := HK4.out.frozen 3
  go_upto_region 22 with fail
  have hne := HNE.out
  obtain ⟨W5, hW5⟩ : ∃ W5, W5 = put4 w4 w2.heap.size (.int .i64 (k).op) (.int .i64 (k).n) (.string (k).name) (.slice b4 (k).args.length c4) := ⟨_, rfl⟩
  have HB5 : Hid (Below w.heap.size w W5) := Lib.hid (by rw [hW5]; exact below_put4 HB4.out (by omega) _ _ _ _)
  have HT5 : Hid (B4 W5 w.heap.size (.int .i64 0) (.int .i64 0) (.string ⟨#[]⟩) (.slice none 0 0)) := Lib.hid (by rw [hW5]; exact (put4_other (by omega) _ _ _ _).trans HT4.out)
  have HK5 : Hid (B4 W5 w2.heap.size (.int .i64 (k).op) (.int .i64 (k).n) (.string (k).name) (.slice b4 (k).args.length c4)) := Lib.hid (by rw [hW5]; exact put4_cells HK4.out _ _ _ _)
  have HV5 : Hid (VO (W3.heap.size ≤ ·) W5 (k) (.agg #[.int .i64 (k).op, .int .i64 (k).n, .string (k).name, .slice b4 (k).args.length c4])) := Lib.hid (HV4.out.keep (fun _ h => h) (fun p v hp hc => by rw [hW5]; exact put4_keep _ _ _ _ p v hc (by have : W3.heap.size ≤ p.block := hp; omega)))
  unfold put4 at hW5
  rw [← hW5]
  clear hW5 k0 k1 k2 k3 g0 g1 g2 g3 HV4 HB4 HT4 HK4
  obtain ⟨k0, k1, k2, k3⟩ := HK5.out.cells
  obtain ⟨z0, z1, z2, z3⟩ := HT5.out.cells
  have f0 := HT5.out.frozen 0
  have f1 := HT5.out.frozen 1
  have f2 := HT5.out.frozen 2
  have f3 := HT5.out.frozen 3
  go_wp2_with fail
  refine bodyPost_ret (results_two (a := 2) (b := 3) (by kernel_rfl) (B := w.heap.size) (by rfl) (by rfl) (put4_cells HT5.out _ _ _ _).cells.1 (put4_cells HT5.out _ _ _ _).cells.2.1 (put4_cells HT5.out _ _ _ _).cells.2.2.1 (put4_cells HT5.out _ _ _ _).cells.2.2.2) rfl ?_
  unfold BltO
  exact ⟨k, _, ⟨rfl, rfl⟩, HV5.out.keep (fun g hg => by show w.heap.size ≤ g; have h1 : W3.heap.size ≤ g := hg; have h2 := HB3.out.size; omega) (fun p v hp hc => put4_keep _ _ _ _ p v hc (by have : W3.heap.size ≤ p.block := hp; omega)), below_put4 HB5.out (Nat.le_refl _) _ _ _ _⟩

set_option maxHeartbeats 4000000 in
theorem blt_bool (w : World) : Calls Try.prog 20 #[.string ⟨#[66, 111, 111, 108]⟩] w (BltO (some (tType)) w) := by
  obtain ⟨KK, hKK⟩ : ∃ KK, KK = (tType) := ⟨_, rfl⟩
  have hfr : funR [] (tType) = .ok KK := by rw [hKK]; exact funR_t
  have hln : ([] : List Ty).length = 0 := rfl
  have HF := Lib.hid (fun (W : World) (b : Option Addr) (c : Nat) (v : Value) (hv : V W (tType) v) (hl : Sl W b ([] : List Ty)) => fun_o2 (tType) [] v b c W hv hl)
  rw [hfr] at HF
  simp only [hln] at HF
  rw [← hKK]
  clear hKK hfr hln
  have ht1 : B4 (w.alloc (Obj.cells #[.int .i64 0, .int .i64 0, .string ⟨#[]⟩, .slice none 0 0] 36)) w.heap.size (.int .i64 0) (.int .i64 0) (.string ⟨#[]⟩) (.slice none 0 0) := heap_alloc_new _ _
  have hb1 : Below w.heap.size w (w.alloc (Obj.cells #[.int .i64 0, .int .i64 0, .string ⟨#[]⟩, .slice none 0 0] 36)) := (Below.refl _ _).alloc (Nat.le_refl _) _
  have HT1 := Lib.hid ht1
  have HB1 := Lib.hid hb1
  clear ht1 hb1
  go_enter Try.func20, Try.ntmps20
  go_upto_region 1 with fail
  obtain ⟨W1, hW1⟩ : ∃ W1, W1 = w.alloc (Obj.cells #[.int .i64 0, .int .i64 0, .string ⟨#[]⟩, .slice none 0 0] 36) := ⟨_, rfl⟩
  rw [← hW1] at HT1 HB1 ⊢
  clear hW1
  go_wp2_with fail
  refine (named_ex ⟨#[84, 121, 112, 101]⟩ W1).mono ?_
  rintro e w2 ⟨rfl, hb2⟩
  have hal : Below w2.heap.size w2 (w2.alloc (Obj.cells #[.int .i64 2, .int .i64 0, .string ⟨#[84, 121, 112, 101]⟩, .slice none 0 0] 36)) := (Below.refl _ _).alloc (Nat.le_refl _) _
  have hbox : B4 (w2.alloc (Obj.cells #[.int .i64 2, .int .i64 0, .string ⟨#[84, 121, 112, 101]⟩, .slice none 0 0] 36)) w2.heap.size (.int .i64 2) (.int .i64 0) (.string ⟨#[84, 121, 112, 101]⟩) (.slice none 0 0) := heap_alloc_new _ _
  have HV2 : Hid (V (w2.alloc (Obj.cells #[.int .i64 2, .int .i64 0, .string ⟨#[84, 121, 112, 101]⟩, .slice none 0 0] 36)) tType (.agg #[.int .i64 2, .int .i64 0, .string ⟨#[84, 121, 112, 101]⟩, .slice none 0 0])) := Lib.hid (v_con bType (by decide) _)
  have HB3 := Lib.hid ((HB1.out.trans (hb2.mono HB1.out.size)).trans (hal.mono (by have := HB1.out.size; have := hb2.size; omega)))
  have HT3 := Lib.hid ((HT1.out.next hb2).next hal)
  have HBX := Lib.hid hbox
  have HNE : Hid (w.heap.size < w2.heap.size) := Lib.hid (by have := lt_of_block (HT1.out.next hb2); omega)
  clear hal hbox hb2 HT1
  go_upto_region 2 with fail
  obtain ⟨W3, hW3⟩ : ∃ W3, W3 = w2.alloc (Obj.cells #[.int .i64 2, .int .i64 0, .string ⟨#[84, 121, 112, 101]⟩, .slice none 0 0] 36) := ⟨_, rfl⟩
  have hs3 : W3.heap.size = w2.heap.size + 1 := by rw [hW3]; simp
  rw [← hW3] at HV2 HB3 HT3 HBX ⊢
  clear hW3
  obtain ⟨k0, k1, k2, k3⟩ := HBX.out.cells
  go_wp2_with fail
  refine (HF.out W3 none 0 _ HV2.out ⟨Nat.zero_le _, .inl rfl⟩).mono ?_
  rintro e w4 ⟨k, n, v4, hk, rfl, ⟨b4, c4, rfl, hs4, hl4⟩, hb4⟩
  obtain ⟨rfl, rfl⟩ := hk
  have HV4 : Hid (VO (W3.heap.size ≤ ·) w4 (k) (.agg #[.int .i64 (k).op, .int .i64 (k).n, .string (k).name, .slice b4 (k).args.length c4])) := Lib.hid ⟨b4, c4, rfl, hs4, hl4⟩
  have HB4 := Lib.hid (HB3.out.trans (hb4.mono HB3.out.size))
  have HT4 := Lib.hid (HT3.out.next hb4)
  have HK4 := Lib.hid (HBX.out.next hb4)
  clear hs4 hl4 hb4 k0 k1 k2 k3
  obtain ⟨k0, k1, k2, k3⟩ := HK4.out.cells
  have g0 := HK4.out.frozen 0
  have g1 := HK4.out.frozen 1
  have g2 := HK4.out.frozen 2
  have g3 := HK4.out.frozen 3
  go_upto_region 22 with fail
  have hne := HNE.out
  obtain ⟨W5, hW5⟩ : ∃ W5, W5 = put4 w4 w2.heap.size (.int .i64 (k).op) (.int .i64 (k).n) (.string (k).name) (.slice b4 (k).args.length c4) := ⟨_, rfl⟩
  have HB5 : Hid (Below w.heap.size w W5) := Lib.hid (by rw [hW5]; exact below_put4 HB4.out (by omega) _ _ _ _)
  have HT5 : Hid (B4 W5 w.heap.size (.int .i64 0) (.int .i64 0) (.string ⟨#[]⟩) (.slice none 0 0)) := Lib.hid (by rw [hW5]; exact (put4_other (by omega) _ _ _ _).trans HT4.out)
  have HK5 : Hid (B4 W5 w2.heap.size (.int .i64 (k).op) (.int .i64 (k).n) (.string (k).name) (.slice b4 (k).args.length c4)) := Lib.hid (by rw [hW5]; exact put4_cells HK4.out _ _ _ _)
  have HV5 : Hid (VO (W3.heap.size ≤ ·) W5 (k) (.agg #[.int .i64 (k).op, .int .i64 (k).n, .string (k).name, .slice b4 (k).args.length c4])) := Lib.hid (HV4.out.keep (fun _ h => h) (fun p v hp hc => by rw [hW5]; exact put4_keep _ _ _ _ p v hc (by have : W3.heap.size ≤ p.block := hp; omega)))
  unfold put4 at hW5
  rw [← hW5]
  clear hW5 k0 k1 k2 k3 g0 g1 g2 g3 HV4 HB4 HT4 HK4
  obtain ⟨k0, k1, k2, k3⟩ := HK5.out.cells
  obtain ⟨z0, z1, z2, z3⟩ := HT5.out.cells
  have f0 := HT5.out.frozen 0
  have f1 := HT5.out.frozen 1
  have f2 := HT5.out.frozen 2
  have f3 := HT5.out.frozen 3
  go_wp2_with fail
  refine bodyPost_ret (results_two (a := 2) (b := 3) (by kernel_rfl) (B := w.heap.size) (by rfl) (by rfl) (put4_cells HT5.out _ _ _ _).cells.1 (put4_cells HT5.out _ _ _ _).cells.2.1 (put4_cells HT5.out _ _ _ _).cells.2.2.1 (put4_cells HT5.out _ _ _ _).cells.2.2.2) rfl ?_
  unfold BltO
  exact ⟨k, _, ⟨rfl, rfl⟩, HV5.out.keep (fun g hg => by show w.heap.size ≤ g; have h1 : W3.heap.size ≤ g := hg; have h2 := HB3.out.size; omega) (fun p v hp hc => put4_keep _ _ _ _ p v hc (by have : W3.heap.size ≤ p.block := hp; omega)), below_put4 HB5.out (Nat.le_refl _) _ _ _ _⟩

set_option maxHeartbeats 4000000 in
theorem blt_unit (w : World) : Calls Try.prog 20 #[.string ⟨#[85, 110, 105, 116]⟩] w (BltO (some (tType)) w) := by
  obtain ⟨KK, hKK⟩ : ∃ KK, KK = (tType) := ⟨_, rfl⟩
  have hfr : funR [] (tType) = .ok KK := by rw [hKK]; exact funR_t
  have hln : ([] : List Ty).length = 0 := rfl
  have HF := Lib.hid (fun (W : World) (b : Option Addr) (c : Nat) (v : Value) (hv : V W (tType) v) (hl : Sl W b ([] : List Ty)) => fun_o2 (tType) [] v b c W hv hl)
  rw [hfr] at HF
  simp only [hln] at HF
  rw [← hKK]
  clear hKK hfr hln
  have ht1 : B4 (w.alloc (Obj.cells #[.int .i64 0, .int .i64 0, .string ⟨#[]⟩, .slice none 0 0] 36)) w.heap.size (.int .i64 0) (.int .i64 0) (.string ⟨#[]⟩) (.slice none 0 0) := heap_alloc_new _ _
  have hb1 : Below w.heap.size w (w.alloc (Obj.cells #[.int .i64 0, .int .i64 0, .string ⟨#[]⟩, .slice none 0 0] 36)) := (Below.refl _ _).alloc (Nat.le_refl _) _
  have HT1 := Lib.hid ht1
  have HB1 := Lib.hid hb1
  clear ht1 hb1
  go_enter Try.func20, Try.ntmps20
  go_upto_region 1 with fail
  obtain ⟨W1, hW1⟩ : ∃ W1, W1 = w.alloc (Obj.cells #[.int .i64 0, .int .i64 0, .string ⟨#[]⟩, .slice none 0 0] 36) := ⟨_, rfl⟩
  rw [← hW1] at HT1 HB1 ⊢
  clear hW1
  go_wp2_with fail
  refine (named_ex ⟨#[84, 121, 112, 101]⟩ W1).mono ?_
  rintro e w2 ⟨rfl, hb2⟩
  have hal : Below w2.heap.size w2 (w2.alloc (Obj.cells #[.int .i64 2, .int .i64 0, .string ⟨#[84, 121, 112, 101]⟩, .slice none 0 0] 36)) := (Below.refl _ _).alloc (Nat.le_refl _) _
  have hbox : B4 (w2.alloc (Obj.cells #[.int .i64 2, .int .i64 0, .string ⟨#[84, 121, 112, 101]⟩, .slice none 0 0] 36)) w2.heap.size (.int .i64 2) (.int .i64 0) (.string ⟨#[84, 121, 112, 101]⟩) (.slice none 0 0) := heap_alloc_new _ _
  have HV2 : Hid (V (w2.alloc (Obj.cells #[.int .i64 2, .int .i64 0, .string ⟨#[84, 121, 112, 101]⟩, .slice none 0 0] 36)) tType (.agg #[.int .i64 2, .int .i64 0, .string ⟨#[84, 121, 112, 101]⟩, .slice none 0 0])) := Lib.hid (v_con bType (by decide) _)
  have HB3 := Lib.hid ((HB1.out.trans (hb2.mono HB1.out.size)).trans (hal.mono (by have := HB1.out.size; have := hb2.size; omega)))
  have HT3 := Lib.hid ((HT1.out.next hb2).next hal)
  have HBX := Lib.hid hbox
  have HNE : Hid (w.heap.size < w2.heap.size) := Lib.hid (by have := lt_of_block (HT1.out.next hb2); omega)
  clear hal hbox hb2 HT1
  go_upto_region 2 with fail
  obtain ⟨W3, hW3⟩ : ∃ W3, W3 = w2.alloc (Obj.cells #[.int .i64 2, .int .i64 0, .string ⟨#[84, 121, 112, 101]⟩, .slice none 0 0] 36) := ⟨_, rfl⟩
  have hs3 : W3.heap.size = w2.heap.size + 1 := by rw [hW3]; simp
  rw [← hW3] at HV2 HB3 HT3 HBX ⊢
  clear hW3
  obtain ⟨k0, k1, k2, k3⟩ := HBX.out.cells
  go_wp2_with fail
  refine (HF.out W3 none 0 _ HV2.out ⟨Nat.zero_le _, .inl rfl⟩).mono ?_
  rintro e w4 ⟨k, n, v4, hk, rfl, ⟨b4, c4, rfl, hs4, hl4⟩, hb4⟩
  obtain ⟨rfl, rfl⟩ := hk
  have HV4 : Hid (VO (W3.heap.size ≤ ·) w4 (k) (.agg #[.int .i64 (k).op, .int .i64 (k).n, .string (k).name, .slice b4 (k).args.length c4])) := Lib.hid ⟨b4, c4, rfl, hs4, hl4⟩
  have HB4 := Lib.hid (HB3.out.trans (hb4.mono HB3.out.size))
  have HT4 := Lib.hid (HT3.out.next hb4)
  have HK4 := Lib.hid (HBX.out.next hb4)
  clear hs4 hl4 hb4 k0 k1 k2 k3
  obtain ⟨k0, k1, k2, k3⟩ := HK4.out.cells
  have g0 := HK4.out.frozen 0
  have g1 := HK4.out.frozen 1
  have g2 := HK4.out.frozen 2
  have g3 := HK4.out.frozen 3
  go_upto_region 22 with fail
  have hne := HNE.out
  obtain ⟨W5, hW5⟩ : ∃ W5, W5 = put4 w4 w2.heap.size (.int .i64 (k).op) (.int .i64 (k).n) (.string (k).name) (.slice b4 (k).args.length c4) := ⟨_, rfl⟩
  have HB5 : Hid (Below w.heap.size w W5) := Lib.hid (by rw [hW5]; exact below_put4 HB4.out (by omega) _ _ _ _)
  have HT5 : Hid (B4 W5 w.heap.size (.int .i64 0) (.int .i64 0) (.string ⟨#[]⟩) (.slice none 0 0)) := Lib.hid (by rw [hW5]; exact (put4_other (by omega) _ _ _ _).trans HT4.out)
  have HK5 : Hid (B4 W5 w2.heap.size (.int .i64 (k).op) (.int .i64 (k).n) (.string (k).name) (.slice b4 (k).args.length c4)) := Lib.hid (by rw [hW5]; exact put4_cells HK4.out _ _ _ _)
  have HV5 : Hid (VO (W3.heap.size ≤ ·) W5 (k) (.agg #[.int .i64 (k).op, .int .i64 (k).n, .string (k).name, .slice b4 (k).args.length c4])) := Lib.hid (HV4.out.keep (fun _ h => h) (fun p v hp hc => by rw [hW5]; exact put4_keep _ _ _ _ p v hc (by have : W3.heap.size ≤ p.block := hp; omega)))
  unfold put4 at hW5
  rw [← hW5]
  clear hW5 k0 k1 k2 k3 g0 g1 g2 g3 HV4 HB4 HT4 HK4
  obtain ⟨k0, k1, k2, k3⟩ := HK5.out.cells
  obtain ⟨z0, z1, z2, z3⟩ := HT5.out.cells
  have f0 := HT5.out.frozen 0
  have f1 := HT5.out.frozen 1
  have f2 := HT5.out.frozen 2
  have f3 := HT5.out.frozen 3
  go_wp2_with fail
  refine bodyPost_ret (results_two (a := 2) (b := 3) (by kernel_rfl) (B := w.heap.size) (by rfl) (by rfl) (put4_cells HT5.out _ _ _ _).cells.1 (put4_cells HT5.out _ _ _ _).cells.2.1 (put4_cells HT5.out _ _ _ _).cells.2.2.1 (put4_cells HT5.out _ _ _ _).cells.2.2.2) rfl ?_
  unfold BltO
  exact ⟨k, _, ⟨rfl, rfl⟩, HV5.out.keep (fun g hg => by show w.heap.size ≤ g; have h1 : W3.heap.size ≤ g := hg; have h2 := HB3.out.size; omega) (fun p v hp hc => put4_keep _ _ _ _ p v hc (by have : W3.heap.size ≤ p.block := hp; omega)), below_put4 HB5.out (Nat.le_refl _) _ _ _ _⟩

set_option maxHeartbeats 4000000 in
theorem blt_io (w : World) : Calls Try.prog 20 #[.string ⟨#[73, 79]⟩] w (BltO (some (arrow tType tType)) w) := by
  obtain ⟨KK, hKK⟩ : ∃ KK, KK = (arrow tType tType) := ⟨_, rfl⟩
  have hfr : funR [tType] (tType) = .ok KK := by rw [hKK]; exact funR_1
  have hln : ([tType] : List Ty).length = 1 := rfl
  have HF := Lib.hid (fun (W : World) (b : Option Addr) (c : Nat) (v : Value) (hv : V W (tType) v) (hl : Sl W b ([tType] : List Ty)) => fun_o2 (tType) [tType] v b c W hv hl)
  rw [hfr] at HF
  simp only [hln] at HF
  rw [← hKK]
  clear hKK hfr hln
  have ht1 : B4 (w.alloc (Obj.cells #[.int .i64 0, .int .i64 0, .string ⟨#[]⟩, .slice none 0 0] 36)) w.heap.size (.int .i64 0) (.int .i64 0) (.string ⟨#[]⟩) (.slice none 0 0) := heap_alloc_new _ _
  have hb1 : Below w.heap.size w (w.alloc (Obj.cells #[.int .i64 0, .int .i64 0, .string ⟨#[]⟩, .slice none 0 0] 36)) := (Below.refl _ _).alloc (Nat.le_refl _) _
  have HT1 := Lib.hid ht1
  have HB1 := Lib.hid hb1
  clear ht1 hb1
  go_enter Try.func20, Try.ntmps20
  go_upto_region 1 with fail
  obtain ⟨W1, hW1⟩ : ∃ W1, W1 = w.alloc (Obj.cells #[.int .i64 0, .int .i64 0, .string ⟨#[]⟩, .slice none 0 0] 36) := ⟨_, rfl⟩
  rw [← hW1] at HT1 HB1 ⊢
  clear hW1
  go_wp2_with fail
  refine (named_ex ⟨#[84, 121, 112, 101]⟩ W1).mono ?_
  rintro e w2 ⟨rfl, hb2⟩
  have hal : Below w2.heap.size w2 (w2.alloc (Obj.cells #[.int .i64 2, .int .i64 0, .string ⟨#[84, 121, 112, 101]⟩, .slice none 0 0] 36)) := (Below.refl _ _).alloc (Nat.le_refl _) _
  have hbox : B4 (w2.alloc (Obj.cells #[.int .i64 2, .int .i64 0, .string ⟨#[84, 121, 112, 101]⟩, .slice none 0 0] 36)) w2.heap.size (.int .i64 2) (.int .i64 0) (.string ⟨#[84, 121, 112, 101]⟩) (.slice none 0 0) := heap_alloc_new _ _
  have HV2 : Hid (V (w2.alloc (Obj.cells #[.int .i64 2, .int .i64 0, .string ⟨#[84, 121, 112, 101]⟩, .slice none 0 0] 36)) tType (.agg #[.int .i64 2, .int .i64 0, .string ⟨#[84, 121, 112, 101]⟩, .slice none 0 0])) := Lib.hid (v_con bType (by decide) _)
  have HB3 := Lib.hid ((HB1.out.trans (hb2.mono HB1.out.size)).trans (hal.mono (by have := HB1.out.size; have := hb2.size; omega)))
  have HT3 := Lib.hid ((HT1.out.next hb2).next hal)
  have HBX := Lib.hid hbox
  have HNE : Hid (w.heap.size < w2.heap.size) := Lib.hid (by have := lt_of_block (HT1.out.next hb2); omega)
  clear hal hbox hb2 HT1
  go_upto_region 2 with fail
  obtain ⟨W3, hW3⟩ : ∃ W3, W3 = w2.alloc (Obj.cells #[.int .i64 2, .int .i64 0, .string ⟨#[84, 121, 112, 101]⟩, .slice none 0 0] 36) := ⟨_, rfl⟩
  have hs3 : W3.heap.size = w2.heap.size + 1 := by rw [hW3]; simp
  rw [← hW3] at HV2 HB3 HT3 HBX ⊢
  clear hW3
  obtain ⟨k0, k1, k2, k3⟩ := HBX.out.cells
  go_wp2_with fail
  have hal : Below W3.heap.size W3 (W3.alloc (Obj.cells #[.int .i64 2, .int .i64 0, .string ⟨#[84, 121, 112, 101]⟩, .slice none 0 0] 36)) := (Below.refl _ _).alloc (Nat.le_refl _) _
  have hrow : (W3.alloc (Obj.cells #[.int .i64 2, .int .i64 0, .string ⟨#[84, 121, 112, 101]⟩, .slice none 0 0] 36)).heap[W3.heap.size]? = some (Obj.cells #[.int .i64 2, .int .i64 0, .string ⟨#[84, 121, 112, 101]⟩, .slice none 0 0] 36) := heap_alloc_new _ _
  have hsl : Sl (W3.alloc (Obj.cells #[.int .i64 2, .int .i64 0, .string ⟨#[84, 121, 112, 101]⟩, .slice none 0 0] 36)) (some ⟨W3.heap.size, 0, none⟩) [tType] := by
    have cc := fun i => cell_of_row _ W3.heap.size i _ 36 (0, 0) hrow
    refine ⟨by show 1 ≤ maxLen; decide, .inr ⟨W3.heap.size, 0, rfl, at_iff.mpr ⟨cc 0, cc 1, cc 2, by decide, none, 0, cc 3, ⟨Nat.zero_le _, .inl rfl⟩⟩, trivial⟩⟩
  have HB3A := Lib.hid (HB3.out.trans (hal.mono HB3.out.size))
  have HT3A := Lib.hid (HT3.out.next hal)
  have HBXA := Lib.hid (HBX.out.next hal)
  rw [hs3] at hsl
  have HSL := Lib.hid hsl
  have HV3A := Lib.hid (HV2.out.next hal)
  have hsz : (W3.alloc (Obj.cells #[.int .i64 2, .int .i64 0, .string ⟨#[84, 121, 112, 101]⟩, .slice none 0 0] 36)).heap.size = W3.heap.size + 1 := by simp
  have HSZ3 := Lib.hid hsz
  clear hal hrow hsl hsz
  obtain ⟨W3A, hW3A⟩ : ∃ W3A, W3A = W3.alloc (Obj.cells #[.int .i64 2, .int .i64 0, .string ⟨#[84, 121, 112, 101]⟩, .slice none 0 0] 36) := ⟨_, rfl⟩
  rw [← hW3A] at HB3A HT3A HBXA HSL HV3A HSZ3 ⊢
  have hsz3 := HSZ3.out
  refine (HF.out W3A (some ⟨w2.heap.size + 1, 0, none⟩) 1 _ HV3A.out HSL.out).mono ?_
  clear hW3A
  rintro e w4 ⟨k, n, v4, hk, rfl, ⟨b4, c4, rfl, hs4, hl4⟩, hb4⟩
  obtain ⟨rfl, rfl⟩ := hk
  have HV4 : Hid (VO (W3A.heap.size ≤ ·) w4 (k) (.agg #[.int .i64 (k).op, .int .i64 (k).n, .string (k).name, .slice b4 (k).args.length c4])) := Lib.hid ⟨b4, c4, rfl, hs4, hl4⟩
  have HB4 := Lib.hid (HB3A.out.trans (hb4.mono HB3A.out.size))
  have HT4 := Lib.hid (HT3A.out.next hb4)
  have HK4 := Lib.hid (HBXA.out.next hb4)
  clear hs4 hl4 hb4 k0 k1 k2 k3
  obtain ⟨k0, k1, k2, k3⟩ := HK4.out.cells
  have g0 := HK4.out.frozen 0
  have g1 := HK4.out.frozen 1
  have g2 := HK4.out.frozen 2
  have g3 := HK4.out.frozen 3
  go_upto_region 22 with fail
  have hne := HNE.out
  obtain ⟨W5, hW5⟩ : ∃ W5, W5 = put4 w4 w2.heap.size (.int .i64 (k).op) (.int .i64 (k).n) (.string (k).name) (.slice b4 (k).args.length c4) := ⟨_, rfl⟩
  have HB5 : Hid (Below w.heap.size w W5) := Lib.hid (by rw [hW5]; exact below_put4 HB4.out (by omega) _ _ _ _)
  have HT5 : Hid (B4 W5 w.heap.size (.int .i64 0) (.int .i64 0) (.string ⟨#[]⟩) (.slice none 0 0)) := Lib.hid (by rw [hW5]; exact (put4_other (by omega) _ _ _ _).trans HT4.out)
  have HK5 : Hid (B4 W5 w2.heap.size (.int .i64 (k).op) (.int .i64 (k).n) (.string (k).name) (.slice b4 (k).args.length c4)) := Lib.hid (by rw [hW5]; exact put4_cells HK4.out _ _ _ _)
  have HV5 : Hid (VO (W3A.heap.size ≤ ·) W5 (k) (.agg #[.int .i64 (k).op, .int .i64 (k).n, .string (k).name, .slice b4 (k).args.length c4])) := Lib.hid (HV4.out.keep (fun _ h => h) (fun p v hp hc => by rw [hW5]; exact put4_keep _ _ _ _ p v hc (by have : W3A.heap.size ≤ p.block := hp; omega)))
  unfold put4 at hW5
  rw [← hW5]
  clear hW5 k0 k1 k2 k3 g0 g1 g2 g3 HV4 HB4 HT4 HK4
  obtain ⟨k0, k1, k2, k3⟩ := HK5.out.cells
  obtain ⟨z0, z1, z2, z3⟩ := HT5.out.cells
  have f0 := HT5.out.frozen 0
  have f1 := HT5.out.frozen 1
  have f2 := HT5.out.frozen 2
  have f3 := HT5.out.frozen 3
  go_wp2_with fail
  refine bodyPost_ret (results_two (a := 2) (b := 3) (by kernel_rfl) (B := w.heap.size) (by rfl) (by rfl) (put4_cells HT5.out _ _ _ _).cells.1 (put4_cells HT5.out _ _ _ _).cells.2.1 (put4_cells HT5.out _ _ _ _).cells.2.2.1 (put4_cells HT5.out _ _ _ _).cells.2.2.2) rfl ?_
  unfold BltO
  exact ⟨k, _, ⟨rfl, rfl⟩, HV5.out.keep (fun g hg => by show w.heap.size ≤ g; have h1 : W3A.heap.size ≤ g := hg; have h2 := HB3A.out.size; omega) (fun p v hp hc => put4_keep _ _ _ _ p v hc (by have : W3A.heap.size ≤ p.block := hp; omega)), below_put4 HB5.out (Nat.le_refl _) _ _ _ _⟩

set_option maxHeartbeats 4000000 in
theorem blt_stm (w : World) : Calls Try.prog 20 #[.string ⟨#[83, 84, 77]⟩] w (BltO (some (arrow tType tType)) w) := by
  obtain ⟨KK, hKK⟩ : ∃ KK, KK = (arrow tType tType) := ⟨_, rfl⟩
  have hfr : funR [tType] (tType) = .ok KK := by rw [hKK]; exact funR_1
  have hln : ([tType] : List Ty).length = 1 := rfl
  have HF := Lib.hid (fun (W : World) (b : Option Addr) (c : Nat) (v : Value) (hv : V W (tType) v) (hl : Sl W b ([tType] : List Ty)) => fun_o2 (tType) [tType] v b c W hv hl)
  rw [hfr] at HF
  simp only [hln] at HF
  rw [← hKK]
  clear hKK hfr hln
  have ht1 : B4 (w.alloc (Obj.cells #[.int .i64 0, .int .i64 0, .string ⟨#[]⟩, .slice none 0 0] 36)) w.heap.size (.int .i64 0) (.int .i64 0) (.string ⟨#[]⟩) (.slice none 0 0) := heap_alloc_new _ _
  have hb1 : Below w.heap.size w (w.alloc (Obj.cells #[.int .i64 0, .int .i64 0, .string ⟨#[]⟩, .slice none 0 0] 36)) := (Below.refl _ _).alloc (Nat.le_refl _) _
  have HT1 := Lib.hid ht1
  have HB1 := Lib.hid hb1
  clear ht1 hb1
  go_enter Try.func20, Try.ntmps20
  go_upto_region 1 with fail
  obtain ⟨W1, hW1⟩ : ∃ W1, W1 = w.alloc (Obj.cells #[.int .i64 0, .int .i64 0, .string ⟨#[]⟩, .slice none 0 0] 36) := ⟨_, rfl⟩
  rw [← hW1] at HT1 HB1 ⊢
  clear hW1
  go_wp2_with fail
  refine (named_ex ⟨#[84, 121, 112, 101]⟩ W1).mono ?_
  rintro e w2 ⟨rfl, hb2⟩
  have hal : Below w2.heap.size w2 (w2.alloc (Obj.cells #[.int .i64 2, .int .i64 0, .string ⟨#[84, 121, 112, 101]⟩, .slice none 0 0] 36)) := (Below.refl _ _).alloc (Nat.le_refl _) _
  have hbox : B4 (w2.alloc (Obj.cells #[.int .i64 2, .int .i64 0, .string ⟨#[84, 121, 112, 101]⟩, .slice none 0 0] 36)) w2.heap.size (.int .i64 2) (.int .i64 0) (.string ⟨#[84, 121, 112, 101]⟩) (.slice none 0 0) := heap_alloc_new _ _
  have HV2 : Hid (V (w2.alloc (Obj.cells #[.int .i64 2, .int .i64 0, .string ⟨#[84, 121, 112, 101]⟩, .slice none 0 0] 36)) tType (.agg #[.int .i64 2, .int .i64 0, .string ⟨#[84, 121, 112, 101]⟩, .slice none 0 0])) := Lib.hid (v_con bType (by decide) _)
  have HB3 := Lib.hid ((HB1.out.trans (hb2.mono HB1.out.size)).trans (hal.mono (by have := HB1.out.size; have := hb2.size; omega)))
  have HT3 := Lib.hid ((HT1.out.next hb2).next hal)
  have HBX := Lib.hid hbox
  have HNE : Hid (w.heap.size < w2.heap.size) := Lib.hid (by have := lt_of_block (HT1.out.next hb2); omega)
  clear hal hbox hb2 HT1
  go_upto_region 2 with fail
  obtain ⟨W3, hW3⟩ : ∃ W3, W3 = w2.alloc (Obj.cells #[.int .i64 2, .int .i64 0, .string ⟨#[84, 121, 112, 101]⟩, .slice none 0 0] 36) := ⟨_, rfl⟩
  have hs3 : W3.heap.size = w2.heap.size + 1 := by rw [hW3]; simp
  rw [← hW3] at HV2 HB3 HT3 HBX ⊢
  clear hW3
  obtain ⟨k0, k1, k2, k3⟩ := HBX.out.cells
  go_wp2_with fail
  have hal : Below W3.heap.size W3 (W3.alloc (Obj.cells #[.int .i64 2, .int .i64 0, .string ⟨#[84, 121, 112, 101]⟩, .slice none 0 0] 36)) := (Below.refl _ _).alloc (Nat.le_refl _) _
  have hrow : (W3.alloc (Obj.cells #[.int .i64 2, .int .i64 0, .string ⟨#[84, 121, 112, 101]⟩, .slice none 0 0] 36)).heap[W3.heap.size]? = some (Obj.cells #[.int .i64 2, .int .i64 0, .string ⟨#[84, 121, 112, 101]⟩, .slice none 0 0] 36) := heap_alloc_new _ _
  have hsl : Sl (W3.alloc (Obj.cells #[.int .i64 2, .int .i64 0, .string ⟨#[84, 121, 112, 101]⟩, .slice none 0 0] 36)) (some ⟨W3.heap.size, 0, none⟩) [tType] := by
    have cc := fun i => cell_of_row _ W3.heap.size i _ 36 (0, 0) hrow
    refine ⟨by show 1 ≤ maxLen; decide, .inr ⟨W3.heap.size, 0, rfl, at_iff.mpr ⟨cc 0, cc 1, cc 2, by decide, none, 0, cc 3, ⟨Nat.zero_le _, .inl rfl⟩⟩, trivial⟩⟩
  have HB3A := Lib.hid (HB3.out.trans (hal.mono HB3.out.size))
  have HT3A := Lib.hid (HT3.out.next hal)
  have HBXA := Lib.hid (HBX.out.next hal)
  rw [hs3] at hsl
  have HSL := Lib.hid hsl
  have HV3A := Lib.hid (HV2.out.next hal)
  have hsz : (W3.alloc (Obj.cells #[.int .i64 2, .int .i64 0, .string ⟨#[84, 121, 112, 101]⟩, .slice none 0 0] 36)).heap.size = W3.heap.size + 1 := by simp
  have HSZ3 := Lib.hid hsz
  clear hal hrow hsl hsz
  obtain ⟨W3A, hW3A⟩ : ∃ W3A, W3A = W3.alloc (Obj.cells #[.int .i64 2, .int .i64 0, .string ⟨#[84, 121, 112, 101]⟩, .slice none 0 0] 36) := ⟨_, rfl⟩
  rw [← hW3A] at HB3A HT3A HBXA HSL HV3A HSZ3 ⊢
  have hsz3 := HSZ3.out
  refine (HF.out W3A (some ⟨w2.heap.size + 1, 0, none⟩) 1 _ HV3A.out HSL.out).mono ?_
  clear hW3A
  rintro e w4 ⟨k, n, v4, hk, rfl, ⟨b4, c4, rfl, hs4, hl4⟩, hb4⟩
  obtain ⟨rfl, rfl⟩ := hk
  have HV4 : Hid (VO (W3A.heap.size ≤ ·) w4 (k) (.agg #[.int .i64 (k).op, .int .i64 (k).n, .string (k).name, .slice b4 (k).args.length c4])) := Lib.hid ⟨b4, c4, rfl, hs4, hl4⟩
  have HB4 := Lib.hid (HB3A.out.trans (hb4.mono HB3A.out.size))
  have HT4 := Lib.hid (HT3A.out.next hb4)
  have HK4 := Lib.hid (HBXA.out.next hb4)
  clear hs4 hl4 hb4 k0 k1 k2 k3
  obtain ⟨k0, k1, k2, k3⟩ := HK4.out.cells
  have g0 := HK4.out.frozen 0
  have g1 := HK4.out.frozen 1
  have g2 := HK4.out.frozen 2
  have g3 := HK4.out.frozen 3
  go_upto_region 22 with fail
  have hne := HNE.out
  obtain ⟨W5, hW5⟩ : ∃ W5, W5 = put4 w4 w2.heap.size (.int .i64 (k).op) (.int .i64 (k).n) (.string (k).name) (.slice b4 (k).args.length c4) := ⟨_, rfl⟩
  have HB5 : Hid (Below w.heap.size w W5) := Lib.hid (by rw [hW5]; exact below_put4 HB4.out (by omega) _ _ _ _)
  have HT5 : Hid (B4 W5 w.heap.size (.int .i64 0) (.int .i64 0) (.string ⟨#[]⟩) (.slice none 0 0)) := Lib.hid (by rw [hW5]; exact (put4_other (by omega) _ _ _ _).trans HT4.out)
  have HK5 : Hid (B4 W5 w2.heap.size (.int .i64 (k).op) (.int .i64 (k).n) (.string (k).name) (.slice b4 (k).args.length c4)) := Lib.hid (by rw [hW5]; exact put4_cells HK4.out _ _ _ _)
  have HV5 : Hid (VO (W3A.heap.size ≤ ·) W5 (k) (.agg #[.int .i64 (k).op, .int .i64 (k).n, .string (k).name, .slice b4 (k).args.length c4])) := Lib.hid (HV4.out.keep (fun _ h => h) (fun p v hp hc => by rw [hW5]; exact put4_keep _ _ _ _ p v hc (by have : W3A.heap.size ≤ p.block := hp; omega)))
  unfold put4 at hW5
  rw [← hW5]
  clear hW5 k0 k1 k2 k3 g0 g1 g2 g3 HV4 HB4 HT4 HK4
  obtain ⟨k0, k1, k2, k3⟩ := HK5.out.cells
  obtain ⟨z0, z1, z2, z3⟩ := HT5.out.cells
  have f0 := HT5.out.frozen 0
  have f1 := HT5.out.frozen 1
  have f2 := HT5.out.frozen 2
  have f3 := HT5.out.frozen 3
  go_wp2_with fail
  refine bodyPost_ret (results_two (a := 2) (b := 3) (by kernel_rfl) (B := w.heap.size) (by rfl) (by rfl) (put4_cells HT5.out _ _ _ _).cells.1 (put4_cells HT5.out _ _ _ _).cells.2.1 (put4_cells HT5.out _ _ _ _).cells.2.2.1 (put4_cells HT5.out _ _ _ _).cells.2.2.2) rfl ?_
  unfold BltO
  exact ⟨k, _, ⟨rfl, rfl⟩, HV5.out.keep (fun g hg => by show w.heap.size ≤ g; have h1 : W3A.heap.size ≤ g := hg; have h2 := HB3A.out.size; omega) (fun p v hp hc => put4_keep _ _ _ _ p v hc (by have : W3A.heap.size ≤ p.block := hp; omega)), below_put4 HB5.out (Nat.le_refl _) _ _ _ _⟩

set_option maxHeartbeats 4000000 in
theorem blt_tvar (w : World) : Calls Try.prog 20 #[.string ⟨#[84, 86, 97, 114]⟩] w (BltO (some (arrow tType tType)) w) := by
  obtain ⟨KK, hKK⟩ : ∃ KK, KK = (arrow tType tType) := ⟨_, rfl⟩
  have hfr : funR [tType] (tType) = .ok KK := by rw [hKK]; exact funR_1
  have hln : ([tType] : List Ty).length = 1 := rfl
  have HF := Lib.hid (fun (W : World) (b : Option Addr) (c : Nat) (v : Value) (hv : V W (tType) v) (hl : Sl W b ([tType] : List Ty)) => fun_o2 (tType) [tType] v b c W hv hl)
  rw [hfr] at HF
  simp only [hln] at HF
  rw [← hKK]
  clear hKK hfr hln
  have ht1 : B4 (w.alloc (Obj.cells #[.int .i64 0, .int .i64 0, .string ⟨#[]⟩, .slice none 0 0] 36)) w.heap.size (.int .i64 0) (.int .i64 0) (.string ⟨#[]⟩) (.slice none 0 0) := heap_alloc_new _ _
  have hb1 : Below w.heap.size w (w.alloc (Obj.cells #[.int .i64 0, .int .i64 0, .string ⟨#[]⟩, .slice none 0 0] 36)) := (Below.refl _ _).alloc (Nat.le_refl _) _
  have HT1 := Lib.hid ht1
  have HB1 := Lib.hid hb1
  clear ht1 hb1
  go_enter Try.func20, Try.ntmps20
  go_upto_region 1 with fail
  obtain ⟨W1, hW1⟩ : ∃ W1, W1 = w.alloc (Obj.cells #[.int .i64 0, .int .i64 0, .string ⟨#[]⟩, .slice none 0 0] 36) := ⟨_, rfl⟩
  rw [← hW1] at HT1 HB1 ⊢
  clear hW1
  go_wp2_with fail
  refine (named_ex ⟨#[84, 121, 112, 101]⟩ W1).mono ?_
  rintro e w2 ⟨rfl, hb2⟩
  have hal : Below w2.heap.size w2 (w2.alloc (Obj.cells #[.int .i64 2, .int .i64 0, .string ⟨#[84, 121, 112, 101]⟩, .slice none 0 0] 36)) := (Below.refl _ _).alloc (Nat.le_refl _) _
  have hbox : B4 (w2.alloc (Obj.cells #[.int .i64 2, .int .i64 0, .string ⟨#[84, 121, 112, 101]⟩, .slice none 0 0] 36)) w2.heap.size (.int .i64 2) (.int .i64 0) (.string ⟨#[84, 121, 112, 101]⟩) (.slice none 0 0) := heap_alloc_new _ _
  have HV2 : Hid (V (w2.alloc (Obj.cells #[.int .i64 2, .int .i64 0, .string ⟨#[84, 121, 112, 101]⟩, .slice none 0 0] 36)) tType (.agg #[.int .i64 2, .int .i64 0, .string ⟨#[84, 121, 112, 101]⟩, .slice none 0 0])) := Lib.hid (v_con bType (by decide) _)
  have HB3 := Lib.hid ((HB1.out.trans (hb2.mono HB1.out.size)).trans (hal.mono (by have := HB1.out.size; have := hb2.size; omega)))
  have HT3 := Lib.hid ((HT1.out.next hb2).next hal)
  have HBX := Lib.hid hbox
  have HNE : Hid (w.heap.size < w2.heap.size) := Lib.hid (by have := lt_of_block (HT1.out.next hb2); omega)
  clear hal hbox hb2 HT1
  go_upto_region 2 with fail
  obtain ⟨W3, hW3⟩ : ∃ W3, W3 = w2.alloc (Obj.cells #[.int .i64 2, .int .i64 0, .string ⟨#[84, 121, 112, 101]⟩, .slice none 0 0] 36) := ⟨_, rfl⟩
  have hs3 : W3.heap.size = w2.heap.size + 1 := by rw [hW3]; simp
  rw [← hW3] at HV2 HB3 HT3 HBX ⊢
  clear hW3
  obtain ⟨k0, k1, k2, k3⟩ := HBX.out.cells
  go_wp2_with fail
  have hal : Below W3.heap.size W3 (W3.alloc (Obj.cells #[.int .i64 2, .int .i64 0, .string ⟨#[84, 121, 112, 101]⟩, .slice none 0 0] 36)) := (Below.refl _ _).alloc (Nat.le_refl _) _
  have hrow : (W3.alloc (Obj.cells #[.int .i64 2, .int .i64 0, .string ⟨#[84, 121, 112, 101]⟩, .slice none 0 0] 36)).heap[W3.heap.size]? = some (Obj.cells #[.int .i64 2, .int .i64 0, .string ⟨#[84, 121, 112, 101]⟩, .slice none 0 0] 36) := heap_alloc_new _ _
  have hsl : Sl (W3.alloc (Obj.cells #[.int .i64 2, .int .i64 0, .string ⟨#[84, 121, 112, 101]⟩, .slice none 0 0] 36)) (some ⟨W3.heap.size, 0, none⟩) [tType] := by
    have cc := fun i => cell_of_row _ W3.heap.size i _ 36 (0, 0) hrow
    refine ⟨by show 1 ≤ maxLen; decide, .inr ⟨W3.heap.size, 0, rfl, at_iff.mpr ⟨cc 0, cc 1, cc 2, by decide, none, 0, cc 3, ⟨Nat.zero_le _, .inl rfl⟩⟩, trivial⟩⟩
  have HB3A := Lib.hid (HB3.out.trans (hal.mono HB3.out.size))
  have HT3A := Lib.hid (HT3.out.next hal)
  have HBXA := Lib.hid (HBX.out.next hal)
  rw [hs3] at hsl
  have HSL := Lib.hid hsl
  have HV3A := Lib.hid (HV2.out.next hal)
  have hsz : (W3.alloc (Obj.cells #[.int .i64 2, .int .i64 0, .string ⟨#[84, 121, 112, 101]⟩, .slice none 0 0] 36)).heap.size = W3.heap.size + 1 := by simp
  have HSZ3 := Lib.hid hsz
  clear hal hrow hsl hsz
  obtain ⟨W3A, hW3A⟩ : ∃ W3A, W3A = W3.alloc (Obj.cells #[.int .i64 2, .int .i64 0, .string ⟨#[84, 121, 112, 101]⟩, .slice none 0 0] 36) := ⟨_, rfl⟩
  rw [← hW3A] at HB3A HT3A HBXA HSL HV3A HSZ3 ⊢
  have hsz3 := HSZ3.out
  refine (HF.out W3A (some ⟨w2.heap.size + 1, 0, none⟩) 1 _ HV3A.out HSL.out).mono ?_
  clear hW3A
  rintro e w4 ⟨k, n, v4, hk, rfl, ⟨b4, c4, rfl, hs4, hl4⟩, hb4⟩
  obtain ⟨rfl, rfl⟩ := hk
  have HV4 : Hid (VO (W3A.heap.size ≤ ·) w4 (k) (.agg #[.int .i64 (k).op, .int .i64 (k).n, .string (k).name, .slice b4 (k).args.length c4])) := Lib.hid ⟨b4, c4, rfl, hs4, hl4⟩
  have HB4 := Lib.hid (HB3A.out.trans (hb4.mono HB3A.out.size))
  have HT4 := Lib.hid (HT3A.out.next hb4)
  have HK4 := Lib.hid (HBXA.out.next hb4)
  clear hs4 hl4 hb4 k0 k1 k2 k3
  obtain ⟨k0, k1, k2, k3⟩ := HK4.out.cells
  have g0 := HK4.out.frozen 0
  have g1 := HK4.out.frozen 1
  have g2 := HK4.out.frozen 2
  have g3 := HK4.out.frozen 3
  go_upto_region 22 with fail
  have hne := HNE.out
  obtain ⟨W5, hW5⟩ : ∃ W5, W5 = put4 w4 w2.heap.size (.int .i64 (k).op) (.int .i64 (k).n) (.string (k).name) (.slice b4 (k).args.length c4) := ⟨_, rfl⟩
  have HB5 : Hid (Below w.heap.size w W5) := Lib.hid (by rw [hW5]; exact below_put4 HB4.out (by omega) _ _ _ _)
  have HT5 : Hid (B4 W5 w.heap.size (.int .i64 0) (.int .i64 0) (.string ⟨#[]⟩) (.slice none 0 0)) := Lib.hid (by rw [hW5]; exact (put4_other (by omega) _ _ _ _).trans HT4.out)
  have HK5 : Hid (B4 W5 w2.heap.size (.int .i64 (k).op) (.int .i64 (k).n) (.string (k).name) (.slice b4 (k).args.length c4)) := Lib.hid (by rw [hW5]; exact put4_cells HK4.out _ _ _ _)
  have HV5 : Hid (VO (W3A.heap.size ≤ ·) W5 (k) (.agg #[.int .i64 (k).op, .int .i64 (k).n, .string (k).name, .slice b4 (k).args.length c4])) := Lib.hid (HV4.out.keep (fun _ h => h) (fun p v hp hc => by rw [hW5]; exact put4_keep _ _ _ _ p v hc (by have : W3A.heap.size ≤ p.block := hp; omega)))
  unfold put4 at hW5
  rw [← hW5]
  clear hW5 k0 k1 k2 k3 g0 g1 g2 g3 HV4 HB4 HT4 HK4
  obtain ⟨k0, k1, k2, k3⟩ := HK5.out.cells
  obtain ⟨z0, z1, z2, z3⟩ := HT5.out.cells
  have f0 := HT5.out.frozen 0
  have f1 := HT5.out.frozen 1
  have f2 := HT5.out.frozen 2
  have f3 := HT5.out.frozen 3
  go_wp2_with fail
  refine bodyPost_ret (results_two (a := 2) (b := 3) (by kernel_rfl) (B := w.heap.size) (by rfl) (by rfl) (put4_cells HT5.out _ _ _ _).cells.1 (put4_cells HT5.out _ _ _ _).cells.2.1 (put4_cells HT5.out _ _ _ _).cells.2.2.1 (put4_cells HT5.out _ _ _ _).cells.2.2.2) rfl ?_
  unfold BltO
  exact ⟨k, _, ⟨rfl, rfl⟩, HV5.out.keep (fun g hg => by show w.heap.size ≤ g; have h1 : W3A.heap.size ≤ g := hg; have h2 := HB3A.out.size; omega) (fun p v hp hc => put4_keep _ _ _ _ p v hc (by have : W3A.heap.size ≤ p.block := hp; omega)), below_put4 HB5.out (Nat.le_refl _) _ _ _ _⟩

set_option maxHeartbeats 4000000 in
theorem blt_arrow (w : World) : Calls Try.prog 20 #[.string ⟨#[45, 62]⟩] w (BltO (some (arrow tType (arrow tType tType))) w) := by
  obtain ⟨KK, hKK⟩ : ∃ KK, KK = (arrow tType (arrow tType tType)) := ⟨_, rfl⟩
  have hfr : funR [tType, tType] (tType) = .ok KK := by rw [hKK]; exact funR_2
  have hln : ([tType, tType] : List Ty).length = 2 := rfl
  have HF := Lib.hid (fun (W : World) (b : Option Addr) (c : Nat) (v : Value) (hv : V W (tType) v) (hl : Sl W b ([tType, tType] : List Ty)) => fun_o2 (tType) [tType, tType] v b c W hv hl)
  rw [hfr] at HF
  simp only [hln] at HF
  rw [← hKK]
  clear hKK hfr hln
  have ht1 : B4 (w.alloc (Obj.cells #[.int .i64 0, .int .i64 0, .string ⟨#[]⟩, .slice none 0 0] 36)) w.heap.size (.int .i64 0) (.int .i64 0) (.string ⟨#[]⟩) (.slice none 0 0) := heap_alloc_new _ _
  have hb1 : Below w.heap.size w (w.alloc (Obj.cells #[.int .i64 0, .int .i64 0, .string ⟨#[]⟩, .slice none 0 0] 36)) := (Below.refl _ _).alloc (Nat.le_refl _) _
  have HT1 := Lib.hid ht1
  have HB1 := Lib.hid hb1
  clear ht1 hb1
  go_enter Try.func20, Try.ntmps20
  go_upto_region 1 with fail
  obtain ⟨W1, hW1⟩ : ∃ W1, W1 = w.alloc (Obj.cells #[.int .i64 0, .int .i64 0, .string ⟨#[]⟩, .slice none 0 0] 36) := ⟨_, rfl⟩
  rw [← hW1] at HT1 HB1 ⊢
  clear hW1
  go_wp2_with fail
  refine (named_ex ⟨#[84, 121, 112, 101]⟩ W1).mono ?_
  rintro e w2 ⟨rfl, hb2⟩
  have hal : Below w2.heap.size w2 (w2.alloc (Obj.cells #[.int .i64 2, .int .i64 0, .string ⟨#[84, 121, 112, 101]⟩, .slice none 0 0] 36)) := (Below.refl _ _).alloc (Nat.le_refl _) _
  have hbox : B4 (w2.alloc (Obj.cells #[.int .i64 2, .int .i64 0, .string ⟨#[84, 121, 112, 101]⟩, .slice none 0 0] 36)) w2.heap.size (.int .i64 2) (.int .i64 0) (.string ⟨#[84, 121, 112, 101]⟩) (.slice none 0 0) := heap_alloc_new _ _
  have HV2 : Hid (V (w2.alloc (Obj.cells #[.int .i64 2, .int .i64 0, .string ⟨#[84, 121, 112, 101]⟩, .slice none 0 0] 36)) tType (.agg #[.int .i64 2, .int .i64 0, .string ⟨#[84, 121, 112, 101]⟩, .slice none 0 0])) := Lib.hid (v_con bType (by decide) _)
  have HB3 := Lib.hid ((HB1.out.trans (hb2.mono HB1.out.size)).trans (hal.mono (by have := HB1.out.size; have := hb2.size; omega)))
  have HT3 := Lib.hid ((HT1.out.next hb2).next hal)
  have HBX := Lib.hid hbox
  have HNE : Hid (w.heap.size < w2.heap.size) := Lib.hid (by have := lt_of_block (HT1.out.next hb2); omega)
  clear hal hbox hb2 HT1
  go_upto_region 2 with fail
  obtain ⟨W3, hW3⟩ : ∃ W3, W3 = w2.alloc (Obj.cells #[.int .i64 2, .int .i64 0, .string ⟨#[84, 121, 112, 101]⟩, .slice none 0 0] 36) := ⟨_, rfl⟩
  have hs3 : W3.heap.size = w2.heap.size + 1 := by rw [hW3]; simp
  rw [← hW3] at HV2 HB3 HT3 HBX ⊢
  clear hW3
  obtain ⟨k0, k1, k2, k3⟩ := HBX.out.cells
  go_wp2_with fail
  have hal : Below W3.heap.size W3 (W3.alloc (Obj.cells #[.int .i64 2, .int .i64 0, .string ⟨#[84, 121, 112, 101]⟩, .slice none 0 0, .int .i64 2, .int .i64 0, .string ⟨#[84, 121, 112, 101]⟩, .slice none 0 0] 36)) := (Below.refl _ _).alloc (Nat.le_refl _) _
  have hrow : (W3.alloc (Obj.cells #[.int .i64 2, .int .i64 0, .string ⟨#[84, 121, 112, 101]⟩, .slice none 0 0, .int .i64 2, .int .i64 0, .string ⟨#[84, 121, 112, 101]⟩, .slice none 0 0] 36)).heap[W3.heap.size]? = some (Obj.cells #[.int .i64 2, .int .i64 0, .string ⟨#[84, 121, 112, 101]⟩, .slice none 0 0, .int .i64 2, .int .i64 0, .string ⟨#[84, 121, 112, 101]⟩, .slice none 0 0] 36) := heap_alloc_new _ _
  have hsl : Sl (W3.alloc (Obj.cells #[.int .i64 2, .int .i64 0, .string ⟨#[84, 121, 112, 101]⟩, .slice none 0 0, .int .i64 2, .int .i64 0, .string ⟨#[84, 121, 112, 101]⟩, .slice none 0 0] 36)) (some ⟨W3.heap.size, 0, none⟩) [tType, tType] := by
    have cc := fun i => cell_of_row _ W3.heap.size i _ 36 (0, 0) hrow
    refine ⟨by show 2 ≤ maxLen; decide, .inr ⟨W3.heap.size, 0, rfl, at_iff.mpr ⟨cc 0, cc 1, cc 2, by decide, none, 0, cc 3, ⟨Nat.zero_le _, .inl rfl⟩⟩, at_iff.mpr ⟨cc 4, cc 5, cc 6, by decide, none, 0, cc 7, ⟨Nat.zero_le _, .inl rfl⟩⟩, trivial⟩⟩
  have HB3A := Lib.hid (HB3.out.trans (hal.mono HB3.out.size))
  have HT3A := Lib.hid (HT3.out.next hal)
  have HBXA := Lib.hid (HBX.out.next hal)
  rw [hs3] at hsl
  have HSL := Lib.hid hsl
  have HV3A := Lib.hid (HV2.out.next hal)
  have hsz : (W3.alloc (Obj.cells #[.int .i64 2, .int .i64 0, .string ⟨#[84, 121, 112, 101]⟩, .slice none 0 0, .int .i64 2, .int .i64 0, .string ⟨#[84, 121, 112, 101]⟩, .slice none 0 0] 36)).heap.size = W3.heap.size + 1 := by simp
  have HSZ3 := Lib.hid hsz
  clear hal hrow hsl hsz
  obtain ⟨W3A, hW3A⟩ : ∃ W3A, W3A = W3.alloc (Obj.cells #[.int .i64 2, .int .i64 0, .string ⟨#[84, 121, 112, 101]⟩, .slice none 0 0, .int .i64 2, .int .i64 0, .string ⟨#[84, 121, 112, 101]⟩, .slice none 0 0] 36) := ⟨_, rfl⟩
  rw [← hW3A] at HB3A HT3A HBXA HSL HV3A HSZ3 ⊢
  have hsz3 := HSZ3.out
  refine (HF.out W3A (some ⟨w2.heap.size + 1, 0, none⟩) 2 _ HV3A.out HSL.out).mono ?_
  clear hW3A
  rintro e w4 ⟨k, n, v4, hk, rfl, ⟨b4, c4, rfl, hs4, hl4⟩, hb4⟩
  obtain ⟨rfl, rfl⟩ := hk
  have HV4 : Hid (VO (W3A.heap.size ≤ ·) w4 (k) (.agg #[.int .i64 (k).op, .int .i64 (k).n, .string (k).name, .slice b4 (k).args.length c4])) := Lib.hid ⟨b4, c4, rfl, hs4, hl4⟩
  have HB4 := Lib.hid (HB3A.out.trans (hb4.mono HB3A.out.size))
  have HT4 := Lib.hid (HT3A.out.next hb4)
  have HK4 := Lib.hid (HBXA.out.next hb4)
  clear hs4 hl4 hb4 k0 k1 k2 k3
  obtain ⟨k0, k1, k2, k3⟩ := HK4.out.cells
  have g0 := HK4.out.frozen 0
  have g1 := HK4.out.frozen 1
  have g2 := HK4.out.frozen 2
  have g3 := HK4.out.frozen 3
  go_upto_region 22 with fail
  have hne := HNE.out
  obtain ⟨W5, hW5⟩ : ∃ W5, W5 = put4 w4 w2.heap.size (.int .i64 (k).op) (.int .i64 (k).n) (.string (k).name) (.slice b4 (k).args.length c4) := ⟨_, rfl⟩
  have HB5 : Hid (Below w.heap.size w W5) := Lib.hid (by rw [hW5]; exact below_put4 HB4.out (by omega) _ _ _ _)
  have HT5 : Hid (B4 W5 w.heap.size (.int .i64 0) (.int .i64 0) (.string ⟨#[]⟩) (.slice none 0 0)) := Lib.hid (by rw [hW5]; exact (put4_other (by omega) _ _ _ _).trans HT4.out)
  have HK5 : Hid (B4 W5 w2.heap.size (.int .i64 (k).op) (.int .i64 (k).n) (.string (k).name) (.slice b4 (k).args.length c4)) := Lib.hid (by rw [hW5]; exact put4_cells HK4.out _ _ _ _)
  have HV5 : Hid (VO (W3A.heap.size ≤ ·) W5 (k) (.agg #[.int .i64 (k).op, .int .i64 (k).n, .string (k).name, .slice b4 (k).args.length c4])) := Lib.hid (HV4.out.keep (fun _ h => h) (fun p v hp hc => by rw [hW5]; exact put4_keep _ _ _ _ p v hc (by have : W3A.heap.size ≤ p.block := hp; omega)))
  unfold put4 at hW5
  rw [← hW5]
  clear hW5 k0 k1 k2 k3 g0 g1 g2 g3 HV4 HB4 HT4 HK4
  obtain ⟨k0, k1, k2, k3⟩ := HK5.out.cells
  obtain ⟨z0, z1, z2, z3⟩ := HT5.out.cells
  have f0 := HT5.out.frozen 0
  have f1 := HT5.out.frozen 1
  have f2 := HT5.out.frozen 2
  have f3 := HT5.out.frozen 3
  go_wp2_with fail
  refine bodyPost_ret (results_two (a := 2) (b := 3) (by kernel_rfl) (B := w.heap.size) (by rfl) (by rfl) (put4_cells HT5.out _ _ _ _).cells.1 (put4_cells HT5.out _ _ _ _).cells.2.1 (put4_cells HT5.out _ _ _ _).cells.2.2.1 (put4_cells HT5.out _ _ _ _).cells.2.2.2) rfl ?_
  unfold BltO
  exact ⟨k, _, ⟨rfl, rfl⟩, HV5.out.keep (fun g hg => by show w.heap.size ≤ g; have h1 : W3A.heap.size ≤ g := hg; have h2 := HB3A.out.size; omega) (fun p v hp hc => put4_keep _ _ _ _ p v hc (by have : W3A.heap.size ≤ p.block := hp; omega)), below_put4 HB5.out (Nat.le_refl _) _ _ _ _⟩

set_option maxHeartbeats 4000000 in
theorem blt_false (w : World) : Calls Try.prog 20 #[.string ⟨#[39, 70, 97, 108, 115, 101]⟩] w (BltO (some (conT bBool)) w) := by
  obtain ⟨KK, hKK⟩ : ∃ KK, KK = (conT bBool) := ⟨_, rfl⟩
  have hfr : funR [] (conT bBool) = .ok KK := by rw [hKK]; exact funR_b
  have hln : ([] : List Ty).length = 0 := rfl
  have HF := Lib.hid (fun (W : World) (b : Option Addr) (c : Nat) (v : Value) (hv : V W (conT bBool) v) (hl : Sl W b ([] : List Ty)) => fun_o2 (conT bBool) [] v b c W hv hl)
  rw [hfr] at HF
  simp only [hln] at HF
  rw [← hKK]
  clear hKK hfr hln
  have ht1 : B4 (w.alloc (Obj.cells #[.int .i64 0, .int .i64 0, .string ⟨#[]⟩, .slice none 0 0] 36)) w.heap.size (.int .i64 0) (.int .i64 0) (.string ⟨#[]⟩) (.slice none 0 0) := heap_alloc_new _ _
  have hb1 : Below w.heap.size w (w.alloc (Obj.cells #[.int .i64 0, .int .i64 0, .string ⟨#[]⟩, .slice none 0 0] 36)) := (Below.refl _ _).alloc (Nat.le_refl _) _
  have HT1 := Lib.hid ht1
  have HB1 := Lib.hid hb1
  clear ht1 hb1
  go_enter Try.func20, Try.ntmps20
  go_upto_region 1 with fail
  obtain ⟨W1, hW1⟩ : ∃ W1, W1 = w.alloc (Obj.cells #[.int .i64 0, .int .i64 0, .string ⟨#[]⟩, .slice none 0 0] 36) := ⟨_, rfl⟩
  rw [← hW1] at HT1 HB1 ⊢
  clear hW1
  go_wp2_with fail
  refine (named_ex ⟨#[84, 121, 112, 101]⟩ W1).mono ?_
  rintro e w2 ⟨rfl, hb2⟩
  have hal : Below w2.heap.size w2 (w2.alloc (Obj.cells #[.int .i64 2, .int .i64 0, .string ⟨#[84, 121, 112, 101]⟩, .slice none 0 0] 36)) := (Below.refl _ _).alloc (Nat.le_refl _) _
  have hbox : B4 (w2.alloc (Obj.cells #[.int .i64 2, .int .i64 0, .string ⟨#[84, 121, 112, 101]⟩, .slice none 0 0] 36)) w2.heap.size (.int .i64 2) (.int .i64 0) (.string ⟨#[84, 121, 112, 101]⟩) (.slice none 0 0) := heap_alloc_new _ _
  have HV2 : Hid (V (w2.alloc (Obj.cells #[.int .i64 2, .int .i64 0, .string ⟨#[84, 121, 112, 101]⟩, .slice none 0 0] 36)) tType (.agg #[.int .i64 2, .int .i64 0, .string ⟨#[84, 121, 112, 101]⟩, .slice none 0 0])) := Lib.hid (v_con bType (by decide) _)
  have HB3 := Lib.hid ((HB1.out.trans (hb2.mono HB1.out.size)).trans (hal.mono (by have := HB1.out.size; have := hb2.size; omega)))
  have HT3 := Lib.hid ((HT1.out.next hb2).next hal)
  have HBX := Lib.hid hbox
  have HNE : Hid (w.heap.size < w2.heap.size) := Lib.hid (by have := lt_of_block (HT1.out.next hb2); omega)
  clear hal hbox hb2 HT1
  go_upto_region 2 with fail
  obtain ⟨W3, hW3⟩ : ∃ W3, W3 = w2.alloc (Obj.cells #[.int .i64 2, .int .i64 0, .string ⟨#[84, 121, 112, 101]⟩, .slice none 0 0] 36) := ⟨_, rfl⟩
  have hs3 : W3.heap.size = w2.heap.size + 1 := by rw [hW3]; simp
  rw [← hW3] at HV2 HB3 HT3 HBX ⊢
  clear hW3
  obtain ⟨k0, k1, k2, k3⟩ := HBX.out.cells
  go_wp2_with fail
  refine (named_ex ⟨#[66, 111, 111, 108]⟩ W3).mono ?_
  rintro e w3 ⟨rfl, hb3⟩
  have HBX2 := Lib.hid (HBX.out.next hb3)
  have HT2 := Lib.hid (HT3.out.next hb3)
  have HB2 := Lib.hid (HB3.out.trans (hb3.mono HB3.out.size))
  have HSZ2 : Hid (w2.heap.size + 1 ≤ w3.heap.size) := Lib.hid (by have := hb3.size; omega)
  clear k0 k1 k2 k3 hb3 HBX HT3 HB3
  obtain ⟨k0, k1, k2, k3⟩ := HBX2.out.cells
  have g0 := HBX2.out.frozen 0
  have g1 := HBX2.out.frozen 1
  have g2 := HBX2.out.frozen 2
  have g3 := HBX2.out.frozen 3
  go_upto_region 21 with fail
  have hne0 := HNE.out
  have hsz0 := HSZ2.out
  obtain ⟨W3A, hW3A⟩ : ∃ W3A, W3A = put4 w3 w2.heap.size (.int .i64 2) (.int .i64 0) (.string ⟨#[66, 111, 111, 108]⟩) (.slice none 0 0) := ⟨_, rfl⟩
  have HB3A : Hid (Below w.heap.size w W3A) := Lib.hid (by rw [hW3A]; exact below_put4 HB2.out (by omega) _ _ _ _)
  have HT3A : Hid (B4 W3A w.heap.size (.int .i64 0) (.int .i64 0) (.string ⟨#[]⟩) (.slice none 0 0)) := Lib.hid (by rw [hW3A]; exact (put4_other (by omega) _ _ _ _).trans HT2.out)
  have HBXA : Hid (B4 W3A w2.heap.size (.int .i64 2) (.int .i64 0) (.string ⟨#[66, 111, 111, 108]⟩) (.slice none 0 0)) := Lib.hid (by rw [hW3A]; exact put4_cells HBX2.out _ _ _ _)
  have hsz3 : w2.heap.size + 1 ≤ W3A.heap.size := by rw [hW3A]; unfold put4; simpa [World.setCell] using hsz0
  unfold put4 at hW3A
  rw [← hW3A]
  clear hW3A k0 k1 k2 k3 g0 g1 g2 g3 HBX2 HT2 HB2
  obtain ⟨k0, k1, k2, k3⟩ := HBXA.out.cells
  go_wp2_with fail
  refine (HF.out W3A none 0 _ (v_con bBool (by decide) _) ⟨Nat.zero_le _, .inl rfl⟩).mono ?_
  rintro e w4 ⟨k, n, v4, hk, rfl, ⟨b4, c4, rfl, hs4, hl4⟩, hb4⟩
  obtain ⟨rfl, rfl⟩ := hk
  have HV4 : Hid (VO (W3A.heap.size ≤ ·) w4 (k) (.agg #[.int .i64 (k).op, .int .i64 (k).n, .string (k).name, .slice b4 (k).args.length c4])) := Lib.hid ⟨b4, c4, rfl, hs4, hl4⟩
  have HB4 := Lib.hid (HB3A.out.trans (hb4.mono HB3A.out.size))
  have HT4 := Lib.hid (HT3A.out.next hb4)
  have HK4 := Lib.hid (HBXA.out.next hb4)
  clear hs4 hl4 hb4 k0 k1 k2 k3
  obtain ⟨k0, k1, k2, k3⟩ := HK4.out.cells
  have g0 := HK4.out.frozen 0
  have g1 := HK4.out.frozen 1
  have g2 := HK4.out.frozen 2
  have g3 := HK4.out.frozen 3
  go_upto_region 22 with fail
  have hne := HNE.out
  obtain ⟨W5, hW5⟩ : ∃ W5, W5 = put4 w4 w2.heap.size (.int .i64 (k).op) (.int .i64 (k).n) (.string (k).name) (.slice b4 (k).args.length c4) := ⟨_, rfl⟩
  have HB5 : Hid (Below w.heap.size w W5) := Lib.hid (by rw [hW5]; exact below_put4 HB4.out (by omega) _ _ _ _)
  have HT5 : Hid (B4 W5 w.heap.size (.int .i64 0) (.int .i64 0) (.string ⟨#[]⟩) (.slice none 0 0)) := Lib.hid (by rw [hW5]; exact (put4_other (by omega) _ _ _ _).trans HT4.out)
  have HK5 : Hid (B4 W5 w2.heap.size (.int .i64 (k).op) (.int .i64 (k).n) (.string (k).name) (.slice b4 (k).args.length c4)) := Lib.hid (by rw [hW5]; exact put4_cells HK4.out _ _ _ _)
  have HV5 : Hid (VO (W3A.heap.size ≤ ·) W5 (k) (.agg #[.int .i64 (k).op, .int .i64 (k).n, .string (k).name, .slice b4 (k).args.length c4])) := Lib.hid (HV4.out.keep (fun _ h => h) (fun p v hp hc => by rw [hW5]; exact put4_keep _ _ _ _ p v hc (by have : W3A.heap.size ≤ p.block := hp; omega)))
  unfold put4 at hW5
  rw [← hW5]
  clear hW5 k0 k1 k2 k3 g0 g1 g2 g3 HV4 HB4 HT4 HK4
  obtain ⟨k0, k1, k2, k3⟩ := HK5.out.cells
  obtain ⟨z0, z1, z2, z3⟩ := HT5.out.cells
  have f0 := HT5.out.frozen 0
  have f1 := HT5.out.frozen 1
  have f2 := HT5.out.frozen 2
  have f3 := HT5.out.frozen 3
  go_wp2_with fail
  refine bodyPost_ret (results_two (a := 2) (b := 3) (by kernel_rfl) (B := w.heap.size) (by rfl) (by rfl) (put4_cells HT5.out _ _ _ _).cells.1 (put4_cells HT5.out _ _ _ _).cells.2.1 (put4_cells HT5.out _ _ _ _).cells.2.2.1 (put4_cells HT5.out _ _ _ _).cells.2.2.2) rfl ?_
  unfold BltO
  exact ⟨k, _, ⟨rfl, rfl⟩, HV5.out.keep (fun g hg => by show w.heap.size ≤ g; have h1 : W3A.heap.size ≤ g := hg; have h2 := HB3A.out.size; omega) (fun p v hp hc => put4_keep _ _ _ _ p v hc (by have : W3A.heap.size ≤ p.block := hp; omega)), below_put4 HB5.out (Nat.le_refl _) _ _ _ _⟩

set_option maxHeartbeats 4000000 in
theorem blt_true (w : World) : Calls Try.prog 20 #[.string ⟨#[39, 84, 114, 117, 101]⟩] w (BltO (some (conT bBool)) w) := by
  obtain ⟨KK, hKK⟩ : ∃ KK, KK = (conT bBool) := ⟨_, rfl⟩
  have hfr : funR [] (conT bBool) = .ok KK := by rw [hKK]; exact funR_b
  have hln : ([] : List Ty).length = 0 := rfl
  have HF := Lib.hid (fun (W : World) (b : Option Addr) (c : Nat) (v : Value) (hv : V W (conT bBool) v) (hl : Sl W b ([] : List Ty)) => fun_o2 (conT bBool) [] v b c W hv hl)
  rw [hfr] at HF
  simp only [hln] at HF
  rw [← hKK]
  clear hKK hfr hln
  have ht1 : B4 (w.alloc (Obj.cells #[.int .i64 0, .int .i64 0, .string ⟨#[]⟩, .slice none 0 0] 36)) w.heap.size (.int .i64 0) (.int .i64 0) (.string ⟨#[]⟩) (.slice none 0 0) := heap_alloc_new _ _
  have hb1 : Below w.heap.size w (w.alloc (Obj.cells #[.int .i64 0, .int .i64 0, .string ⟨#[]⟩, .slice none 0 0] 36)) := (Below.refl _ _).alloc (Nat.le_refl _) _
  have HT1 := Lib.hid ht1
  have HB1 := Lib.hid hb1
  clear ht1 hb1
  go_enter Try.func20, Try.ntmps20
  go_upto_region 1 with fail
  obtain ⟨W1, hW1⟩ : ∃ W1, W1 = w.alloc (Obj.cells #[.int .i64 0, .int .i64 0, .string ⟨#[]⟩, .slice none 0 0] 36) := ⟨_, rfl⟩
  rw [← hW1] at HT1 HB1 ⊢
  clear hW1
  go_wp2_with fail
  refine (named_ex ⟨#[84, 121, 112, 101]⟩ W1).mono ?_
  rintro e w2 ⟨rfl, hb2⟩
  have hal : Below w2.heap.size w2 (w2.alloc (Obj.cells #[.int .i64 2, .int .i64 0, .string ⟨#[84, 121, 112, 101]⟩, .slice none 0 0] 36)) := (Below.refl _ _).alloc (Nat.le_refl _) _
  have hbox : B4 (w2.alloc (Obj.cells #[.int .i64 2, .int .i64 0, .string ⟨#[84, 121, 112, 101]⟩, .slice none 0 0] 36)) w2.heap.size (.int .i64 2) (.int .i64 0) (.string ⟨#[84, 121, 112, 101]⟩) (.slice none 0 0) := heap_alloc_new _ _
  have HV2 : Hid (V (w2.alloc (Obj.cells #[.int .i64 2, .int .i64 0, .string ⟨#[84, 121, 112, 101]⟩, .slice none 0 0] 36)) tType (.agg #[.int .i64 2, .int .i64 0, .string ⟨#[84, 121, 112, 101]⟩, .slice none 0 0])) := Lib.hid (v_con bType (by decide) _)
  have HB3 := Lib.hid ((HB1.out.trans (hb2.mono HB1.out.size)).trans (hal.mono (by have := HB1.out.size; have := hb2.size; omega)))
  have HT3 := Lib.hid ((HT1.out.next hb2).next hal)
  have HBX := Lib.hid hbox
  have HNE : Hid (w.heap.size < w2.heap.size) := Lib.hid (by have := lt_of_block (HT1.out.next hb2); omega)
  clear hal hbox hb2 HT1
  go_upto_region 2 with fail
  obtain ⟨W3, hW3⟩ : ∃ W3, W3 = w2.alloc (Obj.cells #[.int .i64 2, .int .i64 0, .string ⟨#[84, 121, 112, 101]⟩, .slice none 0 0] 36) := ⟨_, rfl⟩
  have hs3 : W3.heap.size = w2.heap.size + 1 := by rw [hW3]; simp
  rw [← hW3] at HV2 HB3 HT3 HBX ⊢
  clear hW3
  obtain ⟨k0, k1, k2, k3⟩ := HBX.out.cells
  go_wp2_with fail
  refine (named_ex ⟨#[66, 111, 111, 108]⟩ W3).mono ?_
  rintro e w3 ⟨rfl, hb3⟩
  have HBX2 := Lib.hid (HBX.out.next hb3)
  have HT2 := Lib.hid (HT3.out.next hb3)
  have HB2 := Lib.hid (HB3.out.trans (hb3.mono HB3.out.size))
  have HSZ2 : Hid (w2.heap.size + 1 ≤ w3.heap.size) := Lib.hid (by have := hb3.size; omega)
  clear k0 k1 k2 k3 hb3 HBX HT3 HB3
  obtain ⟨k0, k1, k2, k3⟩ := HBX2.out.cells
  have g0 := HBX2.out.frozen 0
  have g1 := HBX2.out.frozen 1
  have g2 := HBX2.out.frozen 2
  have g3 := HBX2.out.frozen 3
  go_upto_region 21 with fail
  have hne0 := HNE.out
  have hsz0 := HSZ2.out
  obtain ⟨W3A, hW3A⟩ : ∃ W3A, W3A = put4 w3 w2.heap.size (.int .i64 2) (.int .i64 0) (.string ⟨#[66, 111, 111, 108]⟩) (.slice none 0 0) := ⟨_, rfl⟩
  have HB3A : Hid (Below w.heap.size w W3A) := Lib.hid (by rw [hW3A]; exact below_put4 HB2.out (by omega) _ _ _ _)
  have HT3A : Hid (B4 W3A w.heap.size (.int .i64 0) (.int .i64 0) (.string ⟨#[]⟩) (.slice none 0 0)) := Lib.hid (by rw [hW3A]; exact (put4_other (by omega) _ _ _ _).trans HT2.out)
  have HBXA : Hid (B4 W3A w2.heap.size (.int .i64 2) (.int .i64 0) (.string ⟨#[66, 111, 111, 108]⟩) (.slice none 0 0)) := Lib.hid (by rw [hW3A]; exact put4_cells HBX2.out _ _ _ _)
  have hsz3 : w2.heap.size + 1 ≤ W3A.heap.size := by rw [hW3A]; unfold put4; simpa [World.setCell] using hsz0
  unfold put4 at hW3A
  rw [← hW3A]
  clear hW3A k0 k1 k2 k3 g0 g1 g2 g3 HBX2 HT2 HB2
  obtain ⟨k0, k1, k2, k3⟩ := HBXA.out.cells
  go_wp2_with fail
  refine (HF.out W3A none 0 _ (v_con bBool (by decide) _) ⟨Nat.zero_le _, .inl rfl⟩).mono ?_
  rintro e w4 ⟨k, n, v4, hk, rfl, ⟨b4, c4, rfl, hs4, hl4⟩, hb4⟩
  obtain ⟨rfl, rfl⟩ := hk
  have HV4 : Hid (VO (W3A.heap.size ≤ ·) w4 (k) (.agg #[.int .i64 (k).op, .int .i64 (k).n, .string (k).name, .slice b4 (k).args.length c4])) := Lib.hid ⟨b4, c4, rfl, hs4, hl4⟩
  have HB4 := Lib.hid (HB3A.out.trans (hb4.mono HB3A.out.size))
  have HT4 := Lib.hid (HT3A.out.next hb4)
  have HK4 := Lib.hid (HBXA.out.next hb4)
  clear hs4 hl4 hb4 k0 k1 k2 k3
  obtain ⟨k0, k1, k2, k3⟩ := HK4.out.cells
  have g0 := HK4.out.frozen 0
  have g1 := HK4.out.frozen 1
  have g2 := HK4.out.frozen 2
  have g3 := HK4.out.frozen 3
  go_upto_region 22 with fail
  have hne := HNE.out
  obtain ⟨W5, hW5⟩ : ∃ W5, W5 = put4 w4 w2.heap.size (.int .i64 (k).op) (.int .i64 (k).n) (.string (k).name) (.slice b4 (k).args.length c4) := ⟨_, rfl⟩
  have HB5 : Hid (Below w.heap.size w W5) := Lib.hid (by rw [hW5]; exact below_put4 HB4.out (by omega) _ _ _ _)
  have HT5 : Hid (B4 W5 w.heap.size (.int .i64 0) (.int .i64 0) (.string ⟨#[]⟩) (.slice none 0 0)) := Lib.hid (by rw [hW5]; exact (put4_other (by omega) _ _ _ _).trans HT4.out)
  have HK5 : Hid (B4 W5 w2.heap.size (.int .i64 (k).op) (.int .i64 (k).n) (.string (k).name) (.slice b4 (k).args.length c4)) := Lib.hid (by rw [hW5]; exact put4_cells HK4.out _ _ _ _)
  have HV5 : Hid (VO (W3A.heap.size ≤ ·) W5 (k) (.agg #[.int .i64 (k).op, .int .i64 (k).n, .string (k).name, .slice b4 (k).args.length c4])) := Lib.hid (HV4.out.keep (fun _ h => h) (fun p v hp hc => by rw [hW5]; exact put4_keep _ _ _ _ p v hc (by have : W3A.heap.size ≤ p.block := hp; omega)))
  unfold put4 at hW5
  rw [← hW5]
  clear hW5 k0 k1 k2 k3 g0 g1 g2 g3 HV4 HB4 HT4 HK4
  obtain ⟨k0, k1, k2, k3⟩ := HK5.out.cells
  obtain ⟨z0, z1, z2, z3⟩ := HT5.out.cells
  have f0 := HT5.out.frozen 0
  have f1 := HT5.out.frozen 1
  have f2 := HT5.out.frozen 2
  have f3 := HT5.out.frozen 3
  go_wp2_with fail
  refine bodyPost_ret (results_two (a := 2) (b := 3) (by kernel_rfl) (B := w.heap.size) (by rfl) (by rfl) (put4_cells HT5.out _ _ _ _).cells.1 (put4_cells HT5.out _ _ _ _).cells.2.1 (put4_cells HT5.out _ _ _ _).cells.2.2.1 (put4_cells HT5.out _ _ _ _).cells.2.2.2) rfl ?_
  unfold BltO
  exact ⟨k, _, ⟨rfl, rfl⟩, HV5.out.keep (fun g hg => by show w.heap.size ≤ g; have h1 : W3A.heap.size ≤ g := hg; have h2 := HB3A.out.size; omega) (fun p v hp hc => put4_keep _ _ _ _ p v hc (by have : W3A.heap.size ≤ p.block := hp; omega)), below_put4 HB5.out (Nat.le_refl _) _ _ _ _⟩

set_option maxHeartbeats 4000000 in
theorem blt_punit (w : World) : Calls Try.prog 20 #[.string ⟨#[39, 85, 110, 105, 116]⟩] w (BltO (some (conT bUnit)) w) := by
  obtain ⟨KK, hKK⟩ : ∃ KK, KK = (conT bUnit) := ⟨_, rfl⟩
  have hfr : funR [] (conT bUnit) = .ok KK := by rw [hKK]; exact funR_u
  have hln : ([] : List Ty).length = 0 := rfl
  have HF := Lib.hid (fun (W : World) (b : Option Addr) (c : Nat) (v : Value) (hv : V W (conT bUnit) v) (hl : Sl W b ([] : List Ty)) => fun_o2 (conT bUnit) [] v b c W hv hl)
  rw [hfr] at HF
  simp only [hln] at HF
  rw [← hKK]
  clear hKK hfr hln
  have ht1 : B4 (w.alloc (Obj.cells #[.int .i64 0, .int .i64 0, .string ⟨#[]⟩, .slice none 0 0] 36)) w.heap.size (.int .i64 0) (.int .i64 0) (.string ⟨#[]⟩) (.slice none 0 0) := heap_alloc_new _ _
  have hb1 : Below w.heap.size w (w.alloc (Obj.cells #[.int .i64 0, .int .i64 0, .string ⟨#[]⟩, .slice none 0 0] 36)) := (Below.refl _ _).alloc (Nat.le_refl _) _
  have HT1 := Lib.hid ht1
  have HB1 := Lib.hid hb1
  clear ht1 hb1
  go_enter Try.func20, Try.ntmps20
  go_upto_region 1 with fail
  obtain ⟨W1, hW1⟩ : ∃ W1, W1 = w.alloc (Obj.cells #[.int .i64 0, .int .i64 0, .string ⟨#[]⟩, .slice none 0 0] 36) := ⟨_, rfl⟩
  rw [← hW1] at HT1 HB1 ⊢
  clear hW1
  go_wp2_with fail
  refine (named_ex ⟨#[84, 121, 112, 101]⟩ W1).mono ?_
  rintro e w2 ⟨rfl, hb2⟩
  have hal : Below w2.heap.size w2 (w2.alloc (Obj.cells #[.int .i64 2, .int .i64 0, .string ⟨#[84, 121, 112, 101]⟩, .slice none 0 0] 36)) := (Below.refl _ _).alloc (Nat.le_refl _) _
  have hbox : B4 (w2.alloc (Obj.cells #[.int .i64 2, .int .i64 0, .string ⟨#[84, 121, 112, 101]⟩, .slice none 0 0] 36)) w2.heap.size (.int .i64 2) (.int .i64 0) (.string ⟨#[84, 121, 112, 101]⟩) (.slice none 0 0) := heap_alloc_new _ _
  have HV2 : Hid (V (w2.alloc (Obj.cells #[.int .i64 2, .int .i64 0, .string ⟨#[84, 121, 112, 101]⟩, .slice none 0 0] 36)) tType (.agg #[.int .i64 2, .int .i64 0, .string ⟨#[84, 121, 112, 101]⟩, .slice none 0 0])) := Lib.hid (v_con bType (by decide) _)
  have HB3 := Lib.hid ((HB1.out.trans (hb2.mono HB1.out.size)).trans (hal.mono (by have := HB1.out.size; have := hb2.size; omega)))
  have HT3 := Lib.hid ((HT1.out.next hb2).next hal)
  have HBX := Lib.hid hbox
  have HNE : Hid (w.heap.size < w2.heap.size) := Lib.hid (by have := lt_of_block (HT1.out.next hb2); omega)
  clear hal hbox hb2 HT1
  go_upto_region 2 with fail
  obtain ⟨W3, hW3⟩ : ∃ W3, W3 = w2.alloc (Obj.cells #[.int .i64 2, .int .i64 0, .string ⟨#[84, 121, 112, 101]⟩, .slice none 0 0] 36) := ⟨_, rfl⟩
  have hs3 : W3.heap.size = w2.heap.size + 1 := by rw [hW3]; simp
  rw [← hW3] at HV2 HB3 HT3 HBX ⊢
  clear hW3
  obtain ⟨k0, k1, k2, k3⟩ := HBX.out.cells
  go_wp2_with fail
  refine (named_ex ⟨#[85, 110, 105, 116]⟩ W3).mono ?_
  rintro e w3 ⟨rfl, hb3⟩
  have HBX2 := Lib.hid (HBX.out.next hb3)
  have HT2 := Lib.hid (HT3.out.next hb3)
  have HB2 := Lib.hid (HB3.out.trans (hb3.mono HB3.out.size))
  have HSZ2 : Hid (w2.heap.size + 1 ≤ w3.heap.size) := Lib.hid (by have := hb3.size; omega)
  clear k0 k1 k2 k3 hb3 HBX HT3 HB3
  obtain ⟨k0, k1, k2, k3⟩ := HBX2.out.cells
  have g0 := HBX2.out.frozen 0
  have g1 := HBX2.out.frozen 1
  have g2 := HBX2.out.frozen 2
  have g3 := HBX2.out.frozen 3
  go_upto_region 21 with fail
  have hne0 := HNE.out
  have hsz0 := HSZ2.out
  obtain ⟨W3A, hW3A⟩ : ∃ W3A, W3A = put4 w3 w2.heap.size (.int .i64 2) (.int .i64 0) (.string ⟨#[85, 110, 105, 116]⟩) (.slice none 0 0) := ⟨_, rfl⟩
  have HB3A : Hid (Below w.heap.size w W3A) := Lib.hid (by rw [hW3A]; exact below_put4 HB2.out (by omega) _ _ _ _)
  have HT3A : Hid (B4 W3A w.heap.size (.int .i64 0) (.int .i64 0) (.string ⟨#[]⟩) (.slice none 0 0)) := Lib.hid (by rw [hW3A]; exact (put4_other (by omega) _ _ _ _).trans HT2.out)
  have HBXA : Hid (B4 W3A w2.heap.size (.int .i64 2) (.int .i64 0) (.string ⟨#[85, 110, 105, 116]⟩) (.slice none 0 0)) := Lib.hid (by rw [hW3A]; exact put4_cells HBX2.out _ _ _ _)
  have hsz3 : w2.heap.size + 1 ≤ W3A.heap.size := by rw [hW3A]; unfold put4; simpa [World.setCell] using hsz0
  unfold put4 at hW3A
  rw [← hW3A]
  clear hW3A k0 k1 k2 k3 g0 g1 g2 g3 HBX2 HT2 HB2
  obtain ⟨k0, k1, k2, k3⟩ := HBXA.out.cells
  go_wp2_with fail
  refine (HF.out W3A none 0 _ (v_con bUnit (by decide) _) ⟨Nat.zero_le _, .inl rfl⟩).mono ?_
  rintro e w4 ⟨k, n, v4, hk, rfl, ⟨b4, c4, rfl, hs4, hl4⟩, hb4⟩
  obtain ⟨rfl, rfl⟩ := hk
  have HV4 : Hid (VO (W3A.heap.size ≤ ·) w4 (k) (.agg #[.int .i64 (k).op, .int .i64 (k).n, .string (k).name, .slice b4 (k).args.length c4])) := Lib.hid ⟨b4, c4, rfl, hs4, hl4⟩
  have HB4 := Lib.hid (HB3A.out.trans (hb4.mono HB3A.out.size))
  have HT4 := Lib.hid (HT3A.out.next hb4)
  have HK4 := Lib.hid (HBXA.out.next hb4)
  clear hs4 hl4 hb4 k0 k1 k2 k3
  obtain ⟨k0, k1, k2, k3⟩ := HK4.out.cells
  have g0 := HK4.out.frozen 0
  have g1 := HK4.out.frozen 1
  have g2 := HK4.out.frozen 2
  have g3 := HK4.out.frozen 3
  go_upto_region 22 with fail
  have hne := HNE.out
  obtain ⟨W5, hW5⟩ : ∃ W5, W5 = put4 w4 w2.heap.size (.int .i64 (k).op) (.int .i64 (k).n) (.string (k).name) (.slice b4 (k).args.length c4) := ⟨_, rfl⟩
  have HB5 : Hid (Below w.heap.size w W5) := Lib.hid (by rw [hW5]; exact below_put4 HB4.out (by omega) _ _ _ _)
  have HT5 : Hid (B4 W5 w.heap.size (.int .i64 0) (.int .i64 0) (.string ⟨#[]⟩) (.slice none 0 0)) := Lib.hid (by rw [hW5]; exact (put4_other (by omega) _ _ _ _).trans HT4.out)
  have HK5 : Hid (B4 W5 w2.heap.size (.int .i64 (k).op) (.int .i64 (k).n) (.string (k).name) (.slice b4 (k).args.length c4)) := Lib.hid (by rw [hW5]; exact put4_cells HK4.out _ _ _ _)
  have HV5 : Hid (VO (W3A.heap.size ≤ ·) W5 (k) (.agg #[.int .i64 (k).op, .int .i64 (k).n, .string (k).name, .slice b4 (k).args.length c4])) := Lib.hid (HV4.out.keep (fun _ h => h) (fun p v hp hc => by rw [hW5]; exact put4_keep _ _ _ _ p v hc (by have : W3A.heap.size ≤ p.block := hp; omega)))
  unfold put4 at hW5
  rw [← hW5]
  clear hW5 k0 k1 k2 k3 g0 g1 g2 g3 HV4 HB4 HT4 HK4
  obtain ⟨k0, k1, k2, k3⟩ := HK5.out.cells
  obtain ⟨z0, z1, z2, z3⟩ := HT5.out.cells
  have f0 := HT5.out.frozen 0
  have f1 := HT5.out.frozen 1
  have f2 := HT5.out.frozen 2
  have f3 := HT5.out.frozen 3
  go_wp2_with fail
  refine bodyPost_ret (results_two (a := 2) (b := 3) (by kernel_rfl) (B := w.heap.size) (by rfl) (by rfl) (put4_cells HT5.out _ _ _ _).cells.1 (put4_cells HT5.out _ _ _ _).cells.2.1 (put4_cells HT5.out _ _ _ _).cells.2.2.1 (put4_cells HT5.out _ _ _ _).cells.2.2.2) rfl ?_
  unfold BltO
  exact ⟨k, _, ⟨rfl, rfl⟩, HV5.out.keep (fun g hg => by show w.heap.size ≤ g; have h1 : W3A.heap.size ≤ g := hg; have h2 := HB3A.out.size; omega) (fun p v hp hc => put4_keep _ _ _ _ p v hc (by have : W3A.heap.size ≤ p.block := hp; omega)), below_put4 HB5.out (Nat.le_refl _) _ _ _ _⟩

set_option maxHeartbeats 4000000 in
theorem blt_none (q : List UInt8) (h0 : (q == [84, 121, 112, 101]) = false) (h1 : (q == [67, 111, 110, 115, 116, 114, 97, 105, 110, 116]) = false) (h2 : (q == [73, 110, 116]) = false) (h3 : (q == [66, 111, 111, 108]) = false) (h4 : (q == [85, 110, 105, 116]) = false) (h5 : (q == [45, 62]) = false) (h6 : (q == [73, 79]) = false) (h7 : (q == [83, 84, 77]) = false) (h8 : (q == [84, 86, 97, 114]) = false) (h9 : (q == [39, 70, 97, 108, 115, 101]) = false) (h10 : (q == [39, 84, 114, 117, 101]) = false) (h11 : (q == [39, 85, 110, 105, 116]) = false) (w : World) : Calls Try.prog 20 #[.string ⟨q.toArray⟩] w (BltO none w) := by
  have ht1 : B4 (w.alloc (Obj.cells #[.int .i64 0, .int .i64 0, .string ⟨#[]⟩, .slice none 0 0] 36)) w.heap.size (.int .i64 0) (.int .i64 0) (.string ⟨#[]⟩) (.slice none 0 0) := heap_alloc_new _ _
  have hb1 : Below w.heap.size w (w.alloc (Obj.cells #[.int .i64 0, .int .i64 0, .string ⟨#[]⟩, .slice none 0 0] 36)) := (Below.refl _ _).alloc (Nat.le_refl _) _
  have HT1 := Lib.hid ht1
  have HB1 := Lib.hid hb1
  clear ht1 hb1
  go_enter Try.func20, Try.ntmps20
  go_upto_region 1 with fail
  obtain ⟨W1, hW1⟩ : ∃ W1, W1 = w.alloc (Obj.cells #[.int .i64 0, .int .i64 0, .string ⟨#[]⟩, .slice none 0 0] 36) := ⟨_, rfl⟩
  rw [← hW1] at HT1 HB1 ⊢
  clear hW1
  go_wp2_with fail
  refine (named_ex ⟨#[84, 121, 112, 101]⟩ W1).mono ?_
  rintro e w2 ⟨rfl, hb2⟩
  have hal : Below w2.heap.size w2 (w2.alloc (Obj.cells #[.int .i64 2, .int .i64 0, .string ⟨#[84, 121, 112, 101]⟩, .slice none 0 0] 36)) := (Below.refl _ _).alloc (Nat.le_refl _) _
  have hbox : B4 (w2.alloc (Obj.cells #[.int .i64 2, .int .i64 0, .string ⟨#[84, 121, 112, 101]⟩, .slice none 0 0] 36)) w2.heap.size (.int .i64 2) (.int .i64 0) (.string ⟨#[84, 121, 112, 101]⟩) (.slice none 0 0) := heap_alloc_new _ _
  have HV2 : Hid (V (w2.alloc (Obj.cells #[.int .i64 2, .int .i64 0, .string ⟨#[84, 121, 112, 101]⟩, .slice none 0 0] 36)) tType (.agg #[.int .i64 2, .int .i64 0, .string ⟨#[84, 121, 112, 101]⟩, .slice none 0 0])) := Lib.hid (v_con bType (by decide) _)
  have HB3 := Lib.hid ((HB1.out.trans (hb2.mono HB1.out.size)).trans (hal.mono (by have := HB1.out.size; have := hb2.size; omega)))
  have HT3 := Lib.hid ((HT1.out.next hb2).next hal)
  have HBX := Lib.hid hbox
  have HNE : Hid (w.heap.size < w2.heap.size) := Lib.hid (by have := lt_of_block (HT1.out.next hb2); omega)
  clear hal hbox hb2 HT1
  go_upto_region 2 with fail
  obtain ⟨W3, hW3⟩ : ∃ W3, W3 = w2.alloc (Obj.cells #[.int .i64 2, .int .i64 0, .string ⟨#[84, 121, 112, 101]⟩, .slice none 0 0] 36) := ⟨_, rfl⟩
  have hs3 : W3.heap.size = w2.heap.size + 1 := by rw [hW3]; simp
  rw [← hW3] at HV2 HB3 HT3 HBX ⊢
  clear hW3
  obtain ⟨k0, k1, k2, k3⟩ := HBX.out.cells
  obtain ⟨z0, z1, z2, z3⟩ := HT3.out.cells
  have f0 := HT3.out.frozen 0
  have f1 := HT3.out.frozen 1
  have f2 := HT3.out.frozen 2
  have f3 := HT3.out.frozen 3
  go_wp2_with fail
  refine bodyPost_ret (results_two (a := 2) (b := 3) (by kernel_rfl) (B := w.heap.size) (by rfl) (by rfl) (put4_cells HT3.out _ _ _ _).cells.1 (put4_cells HT3.out _ _ _ _).cells.2.1 (put4_cells HT3.out _ _ _ _).cells.2.2.1 (put4_cells HT3.out _ _ _ _).cells.2.2.2) rfl ?_
  unfold BltO
  exact ⟨zeroT, _, ⟨rfl, rfl⟩, vo_zero _ _, below_put4 HB3.out (Nat.le_refl _) _ _ _ _⟩
theorem beq_no {q l : List UInt8} (h : q ≠ l) : (q == l) = false := by simpa using h
theorem blt_any (q : List UInt8) (w : World) : Calls Try.prog 20 #[.string ⟨q.toArray⟩] w (BltO (builtinT q) w) := by
  by_cases h0 : q = [84, 121, 112, 101]
  · subst h0
    have hb : builtinT [84, 121, 112, 101] = some (tType) := by rfl
    rw [hb]
    exact blt_type w
  by_cases h1 : q = [67, 111, 110, 115, 116, 114, 97, 105, 110, 116]
  · subst h1
    have hb : builtinT [67, 111, 110, 115, 116, 114, 97, 105, 110, 116] = some (tType) := by rfl
    rw [hb]
    exact blt_constraint w
  by_cases h2 : q = [73, 110, 116]
  · subst h2
    have hb : builtinT [73, 110, 116] = some (tType) := by rfl
    rw [hb]
    exact blt_int w
  by_cases h3 : q = [66, 111, 111, 108]
  · subst h3
    have hb : builtinT [66, 111, 111, 108] = some (tType) := by rfl
    rw [hb]
    exact blt_bool w
  by_cases h4 : q = [85, 110, 105, 116]
  · subst h4
    have hb : builtinT [85, 110, 105, 116] = some (tType) := by rfl
    rw [hb]
    exact blt_unit w
  by_cases h5 : q = [45, 62]
  · subst h5
    have hb : builtinT [45, 62] = some (arrow tType (arrow tType tType)) := by rfl
    rw [hb]
    exact blt_arrow w
  by_cases h6 : q = [73, 79]
  · subst h6
    have hb : builtinT [73, 79] = some (arrow tType tType) := by rfl
    rw [hb]
    exact blt_io w
  by_cases h7 : q = [83, 84, 77]
  · subst h7
    have hb : builtinT [83, 84, 77] = some (arrow tType tType) := by rfl
    rw [hb]
    exact blt_stm w
  by_cases h8 : q = [84, 86, 97, 114]
  · subst h8
    have hb : builtinT [84, 86, 97, 114] = some (arrow tType tType) := by rfl
    rw [hb]
    exact blt_tvar w
  by_cases h9 : q = [39, 70, 97, 108, 115, 101]
  · subst h9
    have hb : builtinT [39, 70, 97, 108, 115, 101] = some (conT bBool) := by rfl
    rw [hb]
    exact blt_false w
  by_cases h10 : q = [39, 84, 114, 117, 101]
  · subst h10
    have hb : builtinT [39, 84, 114, 117, 101] = some (conT bBool) := by rfl
    rw [hb]
    exact blt_true w
  by_cases h11 : q = [39, 85, 110, 105, 116]
  · subst h11
    have hb : builtinT [39, 85, 110, 105, 116] = some (conT bUnit) := by rfl
    rw [hb]
    exact blt_punit w
  have hb : builtinT q = none := by
    unfold builtinT
    simp only [bType, bConstraint, bInt, bBool, bUnit]
    simp [h0, h1, h2, h3, h4, h5, h6, h7, h8, h9, h10, h11]
  rw [hb]
  exact blt_none q (beq_no h0) (beq_no h1) (beq_no h2) (beq_no h3) (beq_no h4) (beq_no h5) (beq_no h6) (beq_no h7) (beq_no h8) (beq_no h9) (beq_no h10) (beq_no h11) w

end Ty
end Go.Proofs.Ytfjgebdpbmnicaa
