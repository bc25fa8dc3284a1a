/- What promoted returns. Conditions: the constructor lies in memory; not too many variables. -/
import Derived.Test.YtfjgebdpbmnicaaJ39
import Derived.Deep.DeepCutAuto
import Derived.Deep.RegionHeld3
import Derived.IntWalk
import Derived.Deep.RegionHeld2
namespace Go.Proofs.Ytfjgebdpbmnicaa
open Go.RowKit Go.Shelf

attribute [local go_sem] Oper.semAt_some

namespace Ty
theorem slO_of {w0 w : World} (hb : Below w0.heap.size w0 w) {b : Option Addr} {l : List Ty} (h : Sl w0 b l) : SlO (· < w0.heap.size) w b l := (sl_lt h).keep (fun _ h => h) (fun p v _ hc => keeps hb p v hc)
theorem ownB_len {ok : Nat → Prop} {w wc : World} {ov : Value} {l : List Ty} (h : OwnB ok w ov l wc) : ∃ bb cap, ov = .slice bb l.length cap := by
  obtain ⟨ds, ⟨_, ⟨h1, h2⟩ | ⟨g, cap, cur, h1, _⟩⟩, h3, _⟩ := h
  · exact ⟨none, 0, by rw [h1, ← h3.1, h2]⟩
  · exact ⟨_, cap, by rw [h1, h3.1]⟩
set_option maxRecDepth 100000 in
set_option maxHeartbeats 8000000 in
theorem prom_any {w0 w : World} (c : PCon) (g oo : Nat) (hC : ConAt w0 g oo c) (hb : Below w0.heap.size w0 w) (hn : c.univ.length + c.exis.length ≤ 1000000) :
    Calls Try.prog 55 #[.pointer (some ⟨g, oo, none⟩)] w fun e w' => ∃ v, e = .returned v ∧ VO (fun x => x < w0.heap.size ∨ w.heap.size ≤ x) w' (promT c) v ∧ Below w.heap.size w w' := by
  obtain ⟨_, _, hd, hdl, ⟨ub, uc, h5, h6⟩, ⟨xb, xc, h7, h8⟩, _, _, ab, ac, h13, h14⟩ := hC
  have hb1 : Below w.heap.size w (w.alloc (Obj.cells #[.int .i64 0, .int .i64 0, .string ⟨#[]⟩, .slice none 0 0] 36)) := (Below.refl _ _).alloc (Nat.le_refl _) _
  have hr1 : B4 (w.alloc (Obj.cells #[.int .i64 0, .int .i64 0, .string ⟨#[]⟩, .slice none 0 0] 36)) w.heap.size (.int .i64 0) (.int .i64 0) (.string ⟨#[]⟩) (.slice none 0 0) := heap_alloc_new _ _
  have HB1 := Lib.hid hb1
  have HR1 := Lib.hid hr1
  clear hb1 hr1
  refine (callsIn_wide (n := 6)).1 ?_
  refine callsIn_of_wp_marks Try.func55 rfl trivial ?_ rfl
  refine wpIn_wide.2 (wp_noPanic ?_)
  simp only [Try.ntmps55, List.size_toArray, List.length_cons, List.length_nil, Nat.reduceAdd, Nat.reduceSub, Array.replicate_succ, Array.replicate_zero, List.push_toArray, List.append_toArray, List.nil_append, List.cons_append]
  go_upto_region 1 with fail
  obtain ⟨W1, hW1⟩ : ∃ W1, W1 = w.alloc (Obj.cells #[.int .i64 0, .int .i64 0, .string ⟨#[]⟩, .slice none 0 0] 36) := ⟨_, rfl⟩
  rw [← hW1] at HB1 HR1 ⊢
  clear hW1
  have hdr := drew_below W1
  have HBD := Lib.hid (HB1.out.trans (hdr.mono HB1.out.size))
  have HRD := Lib.hid (B4.next HR1.out hdr)
  have HB0 := Lib.hid (hb.trans (HBD.out.mono hb.size))
  have d2 := keeps HB0.out _ _ h5
  have d3 := keeps HB0.out _ _ h7
  have HDD := Lib.hid hd
  have HDL := Lib.hid hdl
  have HL := Lib.hid h6
  have HX := Lib.hid h8
  have HN := Lib.hid hn
  obtain ⟨un, hun⟩ : ∃ n, n = c.univ.length := ⟨_, rfl⟩
  obtain ⟨xn, hxn⟩ : ∃ n, n = c.exis.length := ⟨_, rfl⟩
  rw [← hun] at d2
  rw [← hxn] at d3
  have HUN := Lib.hid hun
  have HXN := Lib.hid hxn
  clear hun hxn
  have HCALL : Hid (Calls Try.prog 74 #[.slice (some ⟨W1.heap.size, 0, none⟩) 2 2] ((W1.alloc (Obj.cells #[.slice ub un uc, .slice xb xn xc] 32)).drew) fun e w' => ∃ ov, e = .returned ov ∧ OwnB (· < w0.heap.size) ((W1.alloc (Obj.cells #[.slice ub un uc, .slice xb xn xc] 32)).drew) ov (c.univ ++ c.exis) w') := Lib.hid (by
    have hal : Below W1.drew.heap.size W1.drew ((W1.alloc (Obj.cells #[.slice ub un uc, .slice xb xn xc] 32)).drew) := (Below.refl _ _).alloc (Nat.le_refl _) _
    have hx : (((W1.alloc (Obj.cells #[.slice ub un uc, .slice xb xn xc] 32)).drew)).heap[W1.heap.size]? = some (Obj.cells #[.slice ub un uc, .slice xb xn xc] 32) := heap_alloc_new W1 _
    exact concat_any W1.heap.size ub xb uc xc c.univ c.exis _ (slO_of (HB0.out.trans (hal.mono HB0.out.size)) HL.out) (slO_of (HB0.out.trans (hal.mono HB0.out.size)) HX.out) (by rw [← HUN.out]; exact cell_of_row _ _ 0 _ 32 (0, 0) hx) (by rw [← HXN.out]; exact cell_of_row _ _ 1 _ 32 (0, 0) hx) (by have := HN.out; omega))
  have HALB : Hid (Below W1.drew.heap.size W1.drew ((W1.alloc (Obj.cells #[.slice ub un uc, .slice xb xn xc] 32)).drew)) := Lib.hid ((Below.refl _ _).alloc (Nat.le_refl _) _)
  have HARG := Lib.hid h13
  have HARS := Lib.hid h14
  clear hdr h5 h6 h7 h8 h13 h14 hd hdl hn
  go_region_held2 (fun W => W.cell? ⟨g, oo + 2, none⟩ = some (.slice ub un uc) ∧ W.cell? ⟨g, oo + 3, none⟩ = some (.slice xb xn xc))
    (first | (with_reducible exact ⟨d2, d3⟩) | (exact ⟨keeps HALB.out _ _ d2, keeps HALB.out _ _ d3⟩) | (with_reducible exact ⟨u2, u3⟩))
    (first
    | (go_at_call 74; refine HCALL.out.mono ?_; rintro e w5 ⟨ov, rfl, ho⟩; have HO := Lib.hid ho; have u2 := keeps ho.below _ _ (keeps HALB.out _ _ d2); have u3 := keeps ho.below _ _ (keeps HALB.out _ _ d3); clear ho))
  rename_i hS
  clear hS d2 d3
  have HB5 := Lib.hid ((HB0.out.trans (HALB.out.mono HB0.out.size)).trans (HO.out.below.mono (HB0.out.trans (HALB.out.mono HB0.out.size)).size))
  obtain ⟨kb, kc, hov⟩ := ownB_len HO.out
  obtain ⟨kn, hkn⟩ : ∃ n, n = (c.univ ++ c.exis).length := ⟨_, rfl⟩
  rw [← hkn] at hov
  subst hov
  have HKN : Hid (kn = un + xn) := Lib.hid (by rw [hkn, List.length_append, HUN.out, HXN.out])
  have HKL := Lib.hid hkn
  clear hkn
  have HNN : Hid (un + xn ≤ 1000000) := Lib.hid (by have := HN.out; have := HUN.out; have := HXN.out; omega)
  have hz1 : IntKind.i64.wrap ((kn : Int) - 1) = (kn : Int) - 1 := IntWalk.i64_in _ (by have := HKN.out; have := HNN.out; omega)
  go_wp2_with fail
  have hub : un ≤ 1000000 := by have := HNN.out; omega
  go_loopw [4, 27] (fun s i wr => ∃ j : Nat, j ≤ un ∧ i = .int .i64 j ∧ Hid (OwnB (· < w0.heap.size) w5 s (univT kn j) wr)) (fun _ i _ => un - (intOf i).toNat)
  case atStart => exact ⟨0, Nat.zero_le _, rfl, Lib.hid ⟨[], World.ownsRow_nil _ _ _ _, ⟨rfl, fun _ h => absurd h (Nat.not_lt_zero _)⟩, Below.refl _ _⟩⟩
  case round =>
    obtain ⟨j, hj, rfl, ho⟩ := hrel
    by_cases hlt : j < un
    · have hzj : IntKind.i64.wrap ((kn : Int) - 1 - (j : Int)) = (kn : Int) - 1 - (j : Int) := IntWalk.i64_in _ (by have := HKN.out; have := HNN.out; omega)
      have hlen := univT_len kn j
      have HAL := Lib.hid (show Below wr.heap.size wr (wr.alloc (Obj.cells #[.int .i64 1, .int .i64 ((kn : Int) - 1 - (j : Int)), .string ⟨#[]⟩, .slice none 0 0] 36)) from (Below.refl _ _).alloc (Nat.le_refl _) _)
      have HJ : Hid ((univT kn j).length + 1 ≤ 2513169434843) := Lib.hid (by rw [univT_len]; have := HNN.out; omega)
      have HLT := Lib.hid hlt
      clear hlen
      go_wp2_with (at_builtin; go_loud (refine wpList_app1 rfl (.tmp 30) (.tmp 37) rfl rfl (ho.out.next HAL.out) rfl (u := ⟨1, (kn : Int) - 1 - (j : Int), ⟨#[]⟩, none, 0, 0⟩) (t := .mk 1 ((kn : Int) - 1 - (j : Int)) [] []) (heap_alloc_new _ _) ⟨rfl, rfl, rfl, rfl, Nat.zero_le _, Nat.zero_le _, .inl rfl⟩ HJ.out ?_; intro v' w' h'; have HO2 := Lib.hid h'; clear h'))
      go_roundw
      case rel => exact ⟨j + 1, by have := HLT.out; omega, (by have := HLT.out; first | go_num | (simp [wrap64]; omega)), Lib.hid (by rw [univT_succ]; exact HO2.out)⟩
      case measure => have := HLT.out; first | (simp [intOf]; omega) | (simp [intOf, wrap64]; omega)
    · have hju : j = un := by omega
      subst hju
      have q1 : wr.cell? ⟨g, oo + 1, none⟩ = some (.string ⟨c.data.toArray⟩) := keeps (HB5.out.trans (ho.out.below.mono HB5.out.size)) _ _ HDD.out
      have hcp : ∃ bb cap, u4 = .slice bb (univT kn j).length cap ∧ Sl wr bb (univT kn j) := by
        obtain ⟨ds, k1, k2, k3⟩ := ho.out
        exact copied k1 (k2.keep (ok' := (· < w5.heap.size)) (fun x hx => Nat.lt_of_lt_of_le hx HB5.out.size) (fun _ _ _ h => h)) k3 (by rw [univT_len]; unfold maxLen; have := HNN.out; omega)
      obtain ⟨vb, vc, hu4, hvs⟩ := hcp
      have HVS := Lib.hid hvs
      obtain ⟨un2, hun2⟩ : ∃ n, n = (univT kn j).length := ⟨_, rfl⟩
      rw [← hun2] at hu4
      have HUN2 := Lib.hid hun2
      subst hu4
      clear hvs hun2
      go_wp2_with fail
      refine (named_ex ⟨c.data.toArray⟩ wr).mono ?_
      rintro e w6 ⟨rfl, hb6⟩
      have HAP := Lib.hid (app_o2 (conT c.data) (univT kn j) (.agg #[.int .i64 2, .int .i64 0, .string ⟨c.data.toArray⟩, .slice none 0 0]) vb vc w6 ⟨none, 0, rfl, HDL.out, Nat.zero_le _, .inl rfl⟩ (HVS.out.next hb6))
      rw [← HUN2.out] at HAP
      have HB6 := Lib.hid hb6
      clear hb6
      go_wp2_with fail
      refine HAP.out.mono ?_
      rintro e w7 ⟨k7, n7, v7, hr7, rfl, ⟨b7, c7, rfl, hs7, hl7⟩, hb7⟩
      have hal7 : Below w7.heap.size w7 (w7.alloc (Obj.cells #[.int .i64 k7.op, .int .i64 k7.n, .string k7.name, .slice b7 k7.args.length c7] 36)) := (Below.refl _ _).alloc (Nat.le_refl _) _
      have hx7 : B4 (w7.alloc (Obj.cells #[.int .i64 k7.op, .int .i64 k7.n, .string k7.name, .slice b7 k7.args.length c7] 36)) w7.heap.size (.int .i64 k7.op) (.int .i64 k7.n) (.string k7.name) (.slice b7 k7.args.length c7) := heap_alloc_new _ _
      have hbr : Below w5.heap.size w5 (w7.alloc (Obj.cells #[.int .i64 k7.op, .int .i64 k7.n, .string k7.name, .slice b7 k7.args.length c7] 36)) := by
        have a1 := ho.out.below
        have a2 := a1.trans (HB6.out.mono a1.size)
        have a3 := a2.trans (hb7.mono a2.size)
        exact a3.trans (hal7.mono a3.size)
      have HX7 := Lib.hid hx7
      have HBR := Lib.hid hbr
      have HV7 : Hid (V (w7.alloc (Obj.cells #[.int .i64 k7.op, .int .i64 k7.n, .string k7.name, .slice b7 k7.args.length c7] 36)) k7 (.agg #[.int .i64 k7.op, .int .i64 k7.n, .string k7.name, .slice b7 k7.args.length c7])) := Lib.hid ((VO.weak ⟨b7, c7, rfl, hs7, hl7⟩).next hal7)
      have HR7 := Lib.hid (is_val hr7)
      clear hal7 hx7 hbr hs7 hl7 hb7 hr7 HVS HAP
      go_upto_region 9 with fail
      obtain ⟨B6, hB6⟩ : ∃ B6, B6 = w7.heap.size := ⟨_, rfl⟩
      obtain ⟨W8, hW8⟩ : ∃ W8, W8 = w7.alloc (Obj.cells #[.int .i64 k7.op, .int .i64 k7.n, .string k7.name, .slice b7 k7.args.length c7] 36) := ⟨_, rfl⟩
      rw [← hW8, ← hB6] at HX7
      rw [← hW8] at HBR HV7
      rw [← hW8, ← hB6]
      clear hW8 hB6
      have hdr8 := drew_below W8
      have HB58 := Lib.hid (HBR.out.trans (hdr8.mono HBR.out.size))
      have HB08 := Lib.hid (HB5.out.trans (HB58.out.mono HB5.out.size))
      have HXD := Lib.hid (HX7.out.next hdr8)
      have q6 := keeps HB08.out _ _ HARG.out
      have HLD := Lib.hid (HARS.out.next HB08.out)
      have HVD := Lib.hid (HV7.out.next hdr8)
      obtain ⟨r, hr⟩ : ∃ r, r = funR c.args k7 := ⟨_, rfl⟩
      have HRQ := Lib.hid hr
      have HFR := Lib.hid (fun (W : World) (hb : Below W8.drew.heap.size W8.drew W) => (show Calls Try.prog 30 #[.slice ab c.args.length ac, .agg #[.int .i64 k7.op, .int .i64 k7.n, .string k7.name, .slice b7 k7.args.length c7]] W (fun e w' => ∃ k n v, r.is k n ∧ e = .returned (.tuple #[v, .int .i64 n]) ∧ VO (W.heap.size ≤ ·) w' k v ∧ Below W.heap.size W w' ∧ W8.drew.heap.size ≤ W.heap.size) from
        (fun_o2 k7 c.args _ ab ac W (HVD.out.next hb) (HLD.out.next hb)).mono fun e w' ⟨k, n, v, h1, h2, h3, h4⟩ => ⟨k, n, v, hr ▸ h1, h2, h3, h4, hb.size⟩))
      obtain ⟨x0, x1, x2, x3⟩ := HXD.out.cells
      have HG := Lib.hid (World.block_lt_of_cell? _ _ q6)
      have HG6 := Lib.hid (lt_of_block HXD.out)
      obtain ⟨an, han⟩ : ∃ n, n = c.args.length := ⟨_, rfl⟩
      rw [← han] at q6 HFR
      clear hdr8 hr HCALL q1 han hub hlt hj
      go_cut [8, 9] from 50 to 58 (fun s8 s9 wx => ∃ (k : Ty) (n : Int) (B : Nat) (b9 : Option Addr) (c9 : Nat), r.is k n ∧ s8 = .pointer (some ⟨B, 0, none⟩) ∧ s9 = .int .i64 n ∧ Hid (W8.heap.size ≤ B) ∧ Hid (B4 wx B (.int .i64 k.op) (.int .i64 k.n) (.string k.name) (.slice b9 k.args.length c9)) ∧ Hid (VO (fun g => W8.drew.heap.size ≤ g ∧ g ≠ B) wx k (.agg #[.int .i64 k.op, .int .i64 k.n, .string k.name, .slice b9 k.args.length c9])) ∧ Hid (Below W8.drew.heap.size W8.drew wx))
      case first =>
        have HKB : Hid (Below W8.drew.heap.size W8.drew W8.drew) := Lib.hid (Below.refl _ _)
        have hle0 : W8.drew.heap.size ≤ W8.heap.size := Nat.le_refl _
        have hlt1 : g < W8.drew.heap.size := HG.out
        have hlt2 : B6 < W8.drew.heap.size := HG6.out
        go_region_held3 (S5 W8.drew ⟨g, oo + 6, none⟩ (.slice ab an ac) B6 (.int .i64 k7.op) (.int .i64 k7.n) (.string k7.name) (.slice b7 k7.args.length c7))
          (first | (with_reducible exact ⟨HKB, q6, x0, x1, x2, x3⟩) | assumption | ((with_reducible refine s5_next ?_ hb); assumption) | (exact s5_next (W := W8.drew) ⟨HKB, q6, x0, x1, x2, x3⟩ (show Below W8.drew.heap.size W8.drew (W8.drew.alloc _) from (Below.refl _ _).alloc (Nat.le_refl _) _)) | ((with_reducible refine s5_next ?_ ((Below.refl _ _).alloc (Nat.le_refl _) _)); assumption) | ((with_reducible refine s5_put (C := W8.heap.size) _ _ _ _ ?_ hle0 hlt1 hlt2); assumption) | ((with_reducible refine s5_swap (o := Obj.cells #[.int .i64 0, .int .i64 0, .string ⟨#[]⟩, .slice none 0 0] 36) ?_ hsz7 hlt1 hlt2); assumption))
          (first
          | (go_at_call 30; refine (HFR.out _ (Hid.out (And.left (by assumption)))).mono ?_; rintro e w9 ⟨k, n, v9, hrk, rfl, hvo, hb, hsz6b⟩; have HRK := Lib.hid hrk; have hsz7 := Nat.le_trans hsz6b hb.size; have hvo2 := Lib.hid hvo; obtain ⟨b9, c9, rfl, _, _⟩ := hvo; (try have HZC := Lib.hid (kbox_next hb)); (try have HZC := Lib.hid (kbox_next (W := W8) (w' := w9) ⟨hb.os, hb.tape, hb.output, hb.size, hb.block⟩)); (try obtain ⟨e0, e1, e2, e3⟩ := HZC.out.cells); (try have f0 := HZC.out.frozen 0); (try have f1 := HZC.out.frozen 1); (try have f2 := HZC.out.frozen 2); (try have f3 := HZC.out.frozen 3)))
        all_goals
          rename_i hHeld
          have HH := Lib.hid hHeld.1.out
          clear hHeld
          go_wp2_with fail
          go_meet
          first
          | (have hzc := HZC.out; exact ⟨k, n, W8.heap.size, b9, c9, HRK.out, rfl, rfl, Lib.hid (Nat.le_refl _), Lib.hid (put4_cells hzc _ _ _ _), Lib.hid (pfin_p (W5 := (W8.alloc (Obj.cells #[.int .i64 0, .int .i64 0, .string ⟨#[]⟩, .slice none 0 0] 36)).drew) hsz6b (by simp) hvo2.out _ _ _ _), HH⟩)
          | exact ⟨k, n, w9.heap.size, b9, c9, HRK.out, rfl, rfl, Lib.hid hsz7, Lib.hid (heap_alloc_new _ _), Lib.hid (pfin_c hsz6b hvo2.out _), HH⟩
      case rest =>
        obtain ⟨k, n, B, b9, c9, hrk, rfl, rfl, HBB, HBX, HVX, HBL⟩ := hcut
        have HRV := Lib.hid (is_val hrk)
        have hb5d := HALB.out.trans (HO.out.below.mono HALB.out.size)
        have hb5c := hb5d.trans ((HB58.out.trans (HBL.out.mono HB58.out.size)).mono hb5d.size)
        have hwz : w.heap.size < W1.drew.heap.size := lt_of_block HRD.out
        have h18 : W1.drew.heap.size ≤ W8.drew.heap.size := Nat.le_trans hb5d.size HB58.out.size
        have h58 : w5.heap.size ≤ W8.heap.size := HBR.out.size
        have HST : Hid (PrS w0 w B k b9 c9 wc) := Lib.hid ⟨HBD.out.trans (hb5c.mono HBD.out.size), hb.size, by have := HBB.out; have h : W1.drew.heap.size ≤ W8.heap.size := h18; omega, HRD.out.next hb5c, HBX.out, HVX.out.keep (fun g hg => .inr ⟨by have := hg.1; omega, hg.2⟩) (fun _ _ _ h => h)⟩
        have HBW : Hid (Below w5.heap.size w5 wc) := Lib.hid (HB58.out.trans (HBL.out.mono HB58.out.size))
        have HB5B : Hid (w5.heap.size ≤ B) := Lib.hid (by have := HBB.out; omega)
        clear hrk hb5d hb5c hwz h18 h58 HBX HVX HBL HFR HVD HLD HXD HRD q6 u2 u3 x0 x1 x2 x3
        have hb0 := hb
        clear hb
        go_wp2_with fail
        refine (callsIn_wide (n := 5)).1 ((back74 Fence.wide 5 trivial rfl _ _ _ _).mono ?_)
        rintro e wq ⟨rfl, rfl⟩
        go_wp2_with fail
        obtain ⟨l, hl⟩ : ∃ l, l = c.univ ++ c.exis := ⟨_, rfl⟩
        rw [← hl] at HO HKL
        have HLE := Lib.hid hl
        clear hl HALB
        have hkn := HKL.out
        subst hkn
        obtain ⟨W6, hW6⟩ : ∃ W6, W6 = wc.alloc (Obj.cells #[.slice kb l.length kc] 32) := ⟨_, rfl⟩
        have hb6 : Below wc.heap.size wc W6 := by rw [hW6]; exact (Below.refl _ _).alloc (Nat.le_refl _) _
        have hl6 : W6.heap[wc.heap.size]? = some (.cells #[.slice kb l.length kc] 32 (0, 0)) := by rw [hW6]; exact heap_alloc_new _ _
        have hs6 : W6.heap.size = wc.heap.size + 1 := by rw [hW6]; simp
        have hBc : B < wc.heap.size := lt_of_block HST.out.box
        have hS6 := HST.out.next hb6
        rw [← hW6]
        clear hW6
        have hseq : ∃ ts : Nat → TC, (∀ j (h : j < l.length), VO (· < w0.heap.size) w0 (l[j]'h) (.agg #[.int .i64 (ts j).op, .int .i64 (ts j).n, .string (ts j).name, .slice (ts j).b (ts j).len (ts j).cap])) ∧ SeqStopsK Fence.wide 5 Try.prog 79 #[.pointer (some ⟨wc.heap.size, 0, none⟩)] (encD ts (len := l.length)) (KC (fun g => g ≠ B ∧ g < W6.heap.size)) (fun ys => ys = dnto l.length l.length) (fun _ => True) l.length W6 := by
          rcases own_row HO.out with hnil | ⟨g', e, hg1, hg2, hrow⟩
          · clear HO HKN HKL hz1 HLE
            subst hnil
            exact ⟨fun _ => ⟨0, 0, ⟨#[]⟩, none, 0, 0⟩, fun j h => absurd h (Nat.not_lt_zero _), back_stops_nil Fence.wide 5 trivial rfl wc.heap.size kb kc _ _ W6 (by omega) (one_cell hl6)⟩
          · subst e
            obtain ⟨ts, hts⟩ := row_tcs hrow
            have h5B := HB5B.out
            have h5c := HBW.out.size
            refine ⟨ts, fun j h => (hts j h).2.keep (fun _ h => h) (fun p v hp hc => (World.cell?_of_block (HB5.out.block p.block hp)).symm.trans hc), back_stops Fence.wide 5 trivial rfl (by omega) wc.heap.size g' 0 l.length kc _ ts (by have := HNN.out; have := HKN.out; omega) W6 ⟨by omega, by omega⟩ ⟨by omega, by omega⟩ (fun g hg => hg.2) (one_cell hl6) (fun j h => ?_)⟩
            obtain ⟨⟨h1, h2, h3, h4⟩, _⟩ := hts j h
            have hbw := HBW.out.trans (hb6.mono HBW.out.size)
            exact ⟨keeps hbw _ _ h1, keeps hbw _ _ h2, keeps hbw _ _ h3, keeps hbw _ _ h4⟩
        obtain ⟨ts, hts, hseq⟩ := hseq
        have HTS := Lib.hid hts
        have HS6 := Lib.hid hs6
        have HBC := Lib.hid hBc
        have HBBW := Lib.hid (show Below w0.heap.size w0 w from hb0)
        clear hts hl6 hs6 hBc hb6
        refine wpIn_wide (n := 6) |>.1 ?_
        refine act_name (motive := fun A => Code.wpIn _ _ _ _ _ A _) _ ?_
        intro A0 hA0
        refine wpIn_rangeFunc_ownH (n := 6) rfl (by decide) (gf := 79) (lb := #[.pointer (some ⟨wc.heap.size, 0, none⟩)]) (by rw [hA0]; rfl) trivial (enters_of Try.func79 (by kernel_rfl) rfl) hseq (fun h k => KC.trans h k) (fun W l o o' _ h ho _ => KC.putObj W l o o' h ho) (Below.refl _ _) (fun _ => rfl)
          (fun pre W => ∃ b c, PrS w0 w B (folA l k pre) b c W) (fun _ _ _ => False)
          (fun pre W W' row hs hg hr => by obtain ⟨b, c, hs⟩ := hs; exact ⟨b, c, hs.kept hg (fun r e => ⟨by have := (hr r e).1; have := HS6.out; have := HBC.out; have := hs.big; omega, (hr r e).2⟩)⟩)
          (fun _ _ _ _ _ hs _ _ => hs)
          ⟨b9, c9, hS6⟩
          (fun x a' W => ∃ Bx, B < Bx ∧ B4 W Bx (.int .i64 (ts x.1).op) (.int .i64 (ts x.1).n) (.string (ts x.1).name) (.slice (ts x.1).b (ts x.1).len (ts x.1).cap) ∧ a' = { tmps := ((A0.tmps.setIfInBounds 61 (.int .i64 (x.1 : Int))).setIfInBounds 62 (.agg #[.int .i64 (ts x.1).op, .int .i64 (ts x.1).n, .string (ts x.1).name, .slice (ts x.1).b (ts x.1).len (ts x.1).cap])).setIfInBounds 11 (.pointer (some ⟨Bx, 0, none⟩)), defers := [] })
          (fun x a' _ X Y row hs hg hr => by obtain ⟨Bx, h1, h2, h3⟩ := hs; exact ⟨Bx, h1, b4_kept h2 hg (fun r e => (hr r e).2), h3⟩)
          ?assign ?body ?done ?stop
        case assign =>
          rintro lp pre x W K ⟨b2, c2, hs⟩ hK
          subst hA0
          unfold encD
          gi_wp2
          have hb := (Below.refl W.heap.size W).alloc (Nat.le_refl _) (Obj.cells #[.int .i64 (ts x.1).op, .int .i64 (ts x.1).n, .string (ts x.1).name, .slice (ts x.1).b (ts x.1).len (ts x.1).cap] 36)
          exact hK _ _ ((KeepsOthers.alloc _ _).from _) (fun p v _ hc => keeps hb _ _ hc) ⟨b2, c2, hs.next hb⟩ ⟨W.heap.size, lt_of_block hs.box, heap_alloc_new _ _, rfl⟩
        case body =>
          rintro lp pre x a' W hlp ⟨r, hr⟩ ⟨b2, c2, hs⟩ ⟨Bx, hBx, hx4, rfl⟩ hlt
          subst hA0
          have hbw : Below w0.heap.size w0 W := HBBW.out.trans (hs.below.mono HBBW.out.size)
          have hvx : VO (fun g => g < w0.heap.size ∨ (w.heap.size < g ∧ g ≠ B)) W (l[x.1]'x.2) _ := (HTS.out x.1 x.2).keep (fun g hg => .inl hg) (fun p v _ hc => keeps hbw p v hc)
          obtain ⟨y, hy⟩ : ∃ y, y = l[x.1]'x.2 := ⟨_, rfl⟩
          obtain ⟨xi, hxi⟩ : ∃ i, i = x.1 := ⟨_, rfl⟩
          have HE : Hid (folA l k (pre ++ [x]) = .mk 4 0 [] [y, folA l k pre]) := Lib.hid (by rw [folA_snoc, hy])
          rw [← hy] at hvx
          rw [← hxi] at hvx hx4 ⊢
          obtain ⟨t', ht'⟩ : ∃ t', t' = folA l k pre := ⟨_, rfl⟩
          rw [← ht'] at hs HE
          clear hy ht' hxi
          obtain ⟨bx, cx, e, hsx, hlx⟩ := hvx
          obtain ⟨q, hq⟩ : ∃ q, q = ts xi := ⟨_, rfl⟩
          rw [← hq] at hx4 e ⊢
          obtain ⟨e1, e2, e3, e4, e5, e6⟩ : q.op = y.op ∧ q.n = y.n ∧ q.name = y.name ∧ q.b = bx ∧ q.len = y.args.length ∧ q.cap = cx := by simpa using e
          rw [e1, e2, e3, e4, e5, e6] at hx4 ⊢
          have hvt := hs.v
          obtain ⟨tb, tcap, et, hst, hlt'⟩ := hvt
          have hbe : b2 = tb := by injection et with et; simp only [Array.mk.injEq, List.cons.injEq, Value.slice.injEq] at et; exact et.2.2.2.1.1
          rw [← hbe] at hlt'
          have HV := Lib.hid (vo_two1 (ok := fun g => g < w0.heap.size ∨ (w.heap.size < g ∧ g ≠ B)) (w1 := W) (fun g hg => .inr ⟨by have := lt_of_block hs.res; omega, by have := lt_of_block hs.box; omega⟩) (Below.refl _ _) 4 (ca := cx) (cb := c2) hsx hst hlx hlt')
          have HSS := Lib.hid hs
          obtain ⟨x0, x1, x2, x3⟩ := B4.cells hx4
          obtain ⟨z0, z1, z2, z3⟩ := hs.box.cells
          have f0 := hs.box.frozen 0
          have f1 := hs.box.frozen 1
          have f2 := hs.box.frozen 2
          have f3 := hs.box.frozen 3
          have hbS : Below W.heap.size W (W.alloc (Obj.cells #[.int .i64 y.op, .int .i64 y.n, .string y.name, .slice bx y.args.length cx, .int .i64 t'.op, .int .i64 t'.n, .string t'.name, .slice b2 t'.args.length c2] 36)) := (Below.refl _ _).alloc (Nat.le_refl _) _
          have hsS := hs.next hbS
          obtain ⟨v0, v1, v2, v3⟩ := hsS.box.cells
          have g0 := hsS.box.frozen 0
          have g1 := hsS.box.frozen 1
          have g2 := hsS.box.frozen 2
          have g3 := hsS.box.frozen 3
          have HEND := Lib.hid (prs_end (ok := fun g => g ≠ B ∧ g < W6.heap.size) (C := W6.heap.size) (t' := .mk 4 0 [] [y, t']) hsS (fun g hg => hg.1) hbS (by have := HS6.out; have := HBC.out; omega) HV.out)
          clear hbS hs hx4 e hsx hlx et hst hlt' hbe hseq e1 e2 e3 e4 e5 e6 hq hsS HV HSS f0 f1 f2 f3
          gi_wp2
          obtain ⟨r1, r2, r3⟩ := HEND.out
          exact ⟨r1, r2, some ⟨W.heap.size, 0, none⟩, 2, by rw [HE.out]; exact r3⟩
        case done =>
          rintro D xs W hD hxs ⟨b2, c2, hs⟩ hK
          subst hxs
          rw [folA_all] at hs
          subst hA0
          have hpT : promT c = allT l k := by
            have h1 := HKN.out
            have h2 := HUN.out
            have h3 := HXN.out
            unfold promT
            rw [← HRV.out, HRQ.out, ← HR7.out, ← HLE.out, ← h2, ← h3, ← h1]
          have HPT := Lib.hid hpT
          have hD1 : w.heap.size < D := by have := HS6.out; have := HBC.out; have := hs.big; omega
          obtain ⟨t', ht'⟩ : ∃ t', t' = allT l k := ⟨_, rfl⟩
          rw [← ht'] at hs HPT
          obtain ⟨k1, k2, k3, k4⟩ := prs_fin hs hD1 hK
          have HK1 := Lib.hid k1
          have HK2 := Lib.hid k2
          have HK3 := Lib.hid k3
          have HK4 := Lib.hid k4
          obtain ⟨z0, z1, z2, z3⟩ := hs.box.cells
          obtain ⟨y0, y1, y2, y3⟩ := hs.res.cells
          have f0 := hs.res.frozen 0
          have f1 := hs.res.frozen 1
          have f2 := hs.res.frozen 2
          have f3 := hs.res.frozen 3
          clear hpT ht' k1 k2 k3 k4 hs hseq hK hD hD1
          go_wp2_with fail
          unfold noPanic
          refine ⟨by simp, .inl ⟨_, _, rfl, run_takeDeferred HK1.out, ?_⟩⟩
          refine ⟨_, results_ty (a := 2) (by kernel_rfl) (B := w.heap.size) (by rfl) HK2.out.cells.1 HK2.out.cells.2.1 HK2.out.cells.2.2.1 HK2.out.cells.2.2.2, ?_⟩
          exact ⟨_, rfl, by rw [HPT.out]; exact HK3.out, HK4.out⟩
        case stop =>
          rintro D c pre W _ _ h _
          exact h.elim
end Ty
end Go.Proofs.Ytfjgebdpbmnicaa
