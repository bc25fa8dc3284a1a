/- What find returns. Conditions: the environment lies in memory; what findConstructor does. -/
import Derived.Test.YtfjgebdpbmnicaaJ29
import Derived.Deep.RegionHeld3
import Derived.Test.YtfjgebdpbmnicaaJ25
import Derived.Deep.RegionHeld2
namespace Go.Proofs.Ytfjgebdpbmnicaa
open Go.RowKit

namespace Ty

set_option maxHeartbeats 8000000 in
theorem find_none {ok : Nat → Prop} (E : Nat) (s : List UInt8) (w : World) (hok : ∀ g, ok g → g < w.heap.size) (bare : List UInt8) (hk : builtinT s = none) (hq : (s == [126]) = false) (hcut : cutP s = (bare, false)) (db : Option Addr) (dn dc : Nat) (hd : w.cell? ⟨E, 0, none⟩ = some (.slice db dn dc)) (hdf : ∀ W, Below w.heap.size w W → Calls Try.prog 23 #[.slice db dn dc, .string ⟨s.toArray⟩, .func (.func 24) #[] #[]] W fun e w' => w' = W ∧ e = .returned (.pointer none)) (fb : Option Addr) (fn fc : Nat) (hf : w.cell? ⟨E, 2, none⟩ = some (.slice fb fn fc)) (hff : ∀ W, Below w.heap.size w W → Calls Try.prog 26 #[.slice fb fn fc, .string ⟨s.toArray⟩, .func (.func 27) #[] #[]] W fun e w' => w' = W ∧ e = .returned (.pointer none)) (sb : Option Addr) (sn sc : Nat) (hs : w.cell? ⟨E, 3, none⟩ = some (.slice sb sn sc)) (hsf : ∀ W, Below w.heap.size w W → Calls Try.prog 28 #[.slice sb sn sc, .string ⟨s.toArray⟩, .func (.func 29) #[] #[]] W fun e w' => w' = W ∧ e = .returned (.pointer none)) :
    Calls Try.prog 8 #[.pointer (some ⟨E, 0, none⟩), .string ⟨s.toArray⟩] w (ConO ok (.bad 20, 0) w) := by
  have hb1 : Below w.heap.size w (w.alloc (Obj.cells #[.int .i64 0, .int .i64 0, .string ⟨#[]⟩, .slice none 0 0, .int .i64 0] 51)) := (Below.refl _ _).alloc (Nat.le_refl _) _
  have ht1 : B5 (w.alloc (Obj.cells #[.int .i64 0, .int .i64 0, .string ⟨#[]⟩, .slice none 0 0, .int .i64 0] 51)) w.heap.size (.int .i64 0) (.int .i64 0) (.string ⟨#[]⟩) (.slice none 0 0) (.int .i64 0) := heap_alloc_new _ _
  have HB1 := Lib.hid hb1
  have HT1 := Lib.hid ht1
  have HOK := Lib.hid hok
  clear hb1 ht1 hok
  have HCUT := Lib.hid (fun W => show Calls Try.prog 21 #[.string ⟨s.toArray⟩, .string ⟨#[39]⟩] W fun e w' => e = .returned (.tuple #[.string ⟨bare.toArray⟩, .bool false]) ∧ w' = W from by have h := cut_any s W; rw [hcut] at h; exact h)
  have HK := Lib.hid hk
  clear hk hcut
  have HdF := Lib.hid hdf
  clear hdf
  have HfF := Lib.hid hff
  clear hff
  have HsF := Lib.hid hsf
  clear hsf
  go_enter Try.func8, Try.ntmps8
  go_upto_region 1 with fail
  obtain ⟨W1, hW1⟩ : ∃ W1, W1 = w.alloc (Obj.cells #[.int .i64 0, .int .i64 0, .string ⟨#[]⟩, .slice none 0 0, .int .i64 0] 51) := ⟨_, rfl⟩
  have hs1 : W1.heap.size = w.heap.size + 1 := by rw [hW1]; simp
  rw [← hW1] at HB1 HT1 ⊢
  clear hW1
  have HS1 := Lib.hid hs1
  clear hs1
  go_wp2_with fail
  refine (blt_any s W1).mono ?_
  unfold BltO
  rw [HK.out]
  rintro e w2 ⟨k', v, ⟨rfl, rfl⟩, ⟨b, c, rfl, hs2, hl2⟩, hb2⟩
  have hal : Below w2.heap.size w2 (w2.alloc (Obj.cells #[.int .i64 zeroT.op, .int .i64 zeroT.n, .string zeroT.name, .slice b zeroT.args.length c] 36)) := (Below.refl _ _).alloc (Nat.le_refl _) _
  have HB3 := Lib.hid ((HB1.out.trans (hb2.mono HB1.out.size)).trans (hal.mono (by have := HB1.out.size; have := hb2.size; omega)))
  have HT3 := Lib.hid ((HT1.out.next hb2).next hal)
  clear hal hs2 hl2 hb2
  go_upto_region 2 with fail
  obtain ⟨W3, hW3⟩ : ∃ W3, W3 = w2.alloc (Obj.cells #[.int .i64 zeroT.op, .int .i64 zeroT.n, .string zeroT.name, .slice b zeroT.args.length c] 36) := ⟨_, rfl⟩
  rw [← hW3] at HB3 HT3 ⊢
  clear hW3
  have D0 := keeps HB3.out _ _ hd
  have F0 := keeps HB3.out _ _ hf
  have S0 := keeps HB3.out _ _ hs
  clear hd hf hs HOK
  go_wp2_with fail
  refine (HCUT.out _).mono ?_
  rintro e w4 ⟨rfl, rfl⟩
  go_wp2_with fail
  refine (HdF.out _ HB3.out).mono ?_
  rintro e w5 ⟨rfl, rfl⟩
  go_wp2_with fail
  refine (HfF.out _ HB3.out).mono ?_
  rintro e w5 ⟨rfl, rfl⟩
  go_wp2_with fail
  refine (HsF.out _ HB3.out).mono ?_
  rintro e w5 ⟨rfl, rfl⟩
  obtain ⟨z0, z1, z2, z3, z4⟩ := HT3.out.cells
  have f0 := HT3.out.frozen 0
  have f1 := HT3.out.frozen 1
  have f2 := HT3.out.frozen 2
  have f3 := HT3.out.frozen 3
  have f4 := HT3.out.frozen 4
  go_wp2_with fail
  refine bodyPost_ret (results_con (a := 4) (b := 5) (by kernel_rfl) (B := w.heap.size) (by rfl) (by rfl) (put5_cells HT3.out _ _ _ _ _)) rfl ?_
  exact con20 (below_put5 HB3.out (Nat.le_refl _) _ _ _ _ _) rfl

theorem cutP_yes (bare : List UInt8) : cutP (39 :: bare) = (bare, true) := by rfl
/-- what the first of a list is, as a pointer -/
theorem first_none {sz : Nat} {base : Option Addr} {ns : List (List UInt8)} {q : List UInt8} (h : idxB ns q = none) {w w' : World} {e : Ending} (hp : FirstP sz base ns q w e w') : w' = w ∧ e = .returned (.pointer none) := by
  obtain ⟨rfl, h1 | ⟨i, g, o, h1, _⟩⟩ := hp
  · exact ⟨rfl, h1.2⟩
  · rw [h] at h1; cases h1
theorem first_some {sz : Nat} {g o : Nat} {ns : List (List UInt8)} {q : List UInt8} {i : Nat} (h : idxB ns q = some i) {w w' : World} {e : Ending} (hp : FirstP sz (some ⟨g, o, none⟩) ns q w e w') : w' = w ∧ e = .returned (.pointer (some ⟨g, o + i * sz, none⟩)) := by
  obtain ⟨rfl, h1 | ⟨j, g', o', h1, h2, h3⟩⟩ := hp
  · rw [h] at h1; cases h1.1
  · rw [h] at h1; cases h1; cases h2; exact ⟨rfl, h3⟩

end Ty
end Go.Proofs.Ytfjgebdpbmnicaa

/- What find returns, whole. Conditions: the environment lies in memory; what findConstructor does. -/
namespace Go.Proofs.Ytfjgebdpbmnicaa
open Go.RowKit

namespace Ty
theorem look {α : Type} (nm : α → List UInt8) (sz f1 f2 : Nat) (R : World → Nat → Nat → α → Prop) (hR : ∀ w b o d, R w b o d → w.cell? ⟨b, o, none⟩ = some (.string ⟨(nm d).toArray⟩)) (hN : ∀ (w w' : World), Below w.heap.size w w' → ∀ b o d, R w b o d → R w' b o d)
    (hfirst : ∀ (ns : List (List UInt8)) (q : List UInt8) (base : Option Addr) (cap : Nat) (w : World), ns.length ≤ maxLen → (ns = [] ∨ ∃ g o, base = some ⟨g, o, none⟩ ∧ ∀ i (h : i < ns.length), w.cell? ⟨g, o + i * sz, none⟩ = some (.string ⟨(ns[i]'h).toArray⟩)) → Calls Try.prog f1 #[.slice base ns.length cap, .string ⟨q.toArray⟩, .func (.func f2) #[] #[]] w (FirstP sz base ns q w))
    {w0 w : World} (hb : Below w0.heap.size w0 w) {base : Option Addr} {l : List α} (h : SlG sz R w0 base l) (q : List UInt8) (cap : Nat) :
    (l.find? (fun d => decide (nm d = q)) = none ∧ ∀ W, Below w.heap.size w W → Calls Try.prog f1 #[.slice base l.length cap, .string ⟨q.toArray⟩, .func (.func f2) #[] #[]] W fun e w' => w' = W ∧ e = .returned (.pointer none)) ∨
    ∃ d g oo, l.find? (fun d => decide (nm d = q)) = some d ∧ R w0 g oo d ∧ ∀ W, Below w.heap.size w W → Calls Try.prog f1 #[.slice base l.length cap, .string ⟨q.toArray⟩, .func (.func f2) #[] #[]] W fun e w' => w' = W ∧ e = .returned (.pointer (some ⟨g, oo, none⟩)) := by
  have hc : ∀ W, Below w.heap.size w W → Calls Try.prog f1 #[.slice base l.length cap, .string ⟨q.toArray⟩, .func (.func f2) #[] #[]] W (FirstP sz base (l.map nm) q W) := fun W hW => by
    have hb' : Below w0.heap.size w0 W := hb.trans (hW.mono hb.size)
    have h1 := hfirst (l.map nm) q base cap W (by rw [List.length_map]; exact h.1) (by
      rcases h.2 with h0 | ⟨g, o, e, hr⟩
      · exact .inl (by rw [h0]; rfl)
      · exact .inr ⟨g, o, e, fun i hi => by rw [List.getElem_map]; exact hR _ _ _ _ (hN _ _ hb' _ _ _ (hr i (by simpa using hi)))⟩)
    rwa [List.length_map] at h1
  rcases find_idx nm q l with ⟨h1, h2⟩ | ⟨i, hi, h1, h2⟩
  · exact .inl ⟨h2, fun W hW => (hc W hW).mono fun _ _ hp => first_none h1 hp⟩
  · rcases h.2 with h0 | ⟨g, o, e, hr⟩
    · rw [h0] at hi; simp at hi
    · subst e
      exact .inr ⟨_, g, o + i * sz, h2, hr i hi, fun W hW => (hc W hW).mono fun _ _ hp => first_some h1 hp⟩
theorem cutP_inv {s bare : List UInt8} (h : cutP s = (bare, true)) : s = 39 :: bare := by
  unfold cutP at h
  split at h
  · injection h with h1 _; rw [h1]
  · injection h with _ h2; cases h2
theorem findT_list {env : PEnv} {s bare : List UInt8} (hk : builtinT s = none) (hq : s ≠ [126]) (hc : cutP s = (bare, false)) :
    findT env s = match env.data.find? (fun d => decide (d.name = s)) with
      | some d => declT d.kind 0
      | none => match env.fams.find? (fun f => decide (f.name = s)) with
        | some f => declT f.kind f.arity
        | none => match env.clss.find? (fun c => decide (c.name = s)) with
          | some c => declT (funR c.vars tConstraint).val 0
          | none => (.bad 20, 0) := by
  unfold findT
  rw [hk]
  simp only
  rw [if_neg hq]
  split
  · cases hc
  · rfl
theorem find_any {env : PEnv} {E : Nat} {w0 : World} (hE : EnvAt w0 E env) (hfc : ∀ (s : List UInt8) W, Below w0.heap.size w0 W → Calls Try.prog 22 #[.pointer (some ⟨E, 0, none⟩), .string ⟨s.toArray⟩] W (ConO (· < w0.heap.size) (findConT env s) W)) (s : List UInt8) (w : World) (hb : Below w0.heap.size w0 w) :
    Calls Try.prog 8 #[.pointer (some ⟨E, 0, none⟩), .string ⟨s.toArray⟩] w (ConO (· < w0.heap.size) (findT env s) w) := by
  have hok : ∀ g, g < w0.heap.size → g < w.heap.size := fun g hg => Nat.lt_of_lt_of_le hg hb.size
  cases hk : builtinT s with
  | some k =>
    have e : findT env s = (.ok k, 0) := by unfold findT; rw [hk]
    rw [e]
    exact find_blt E s w hok k hk
  | none =>
    by_cases hq : s = [126]
    · have e : findT env s = (.bad 20, 0) := by unfold findT; rw [hk]; simp only; rw [if_pos hq]
      rw [e]
      exact find_eq E s w hok hk (by rw [hq]; rfl)
    · have hqb : (s == [126]) = false := by simpa using hq
      obtain ⟨⟨bare, y⟩, hc⟩ : ∃ x, cutP s = x := ⟨_, rfl⟩
      cases y with
      | true =>
        have e : findT env s = findConT env bare := by
          unfold findT
          rw [hk]
          simp only
          rw [if_neg hq, cutP_inv hc]
          rfl
        rw [e]
        exact find_con E s w hok _ bare hk hqb hc (fun W hW => hfc bare W (hb.trans (hW.mono hb.size)))
      | false =>
        rw [findT_list hk hq hc]
        obtain ⟨⟨db, dc, hd, kd⟩, _, ⟨fb, fc, hf, kf⟩, sb, sc, hs, ks⟩ := hE
        have up : ∀ {g o : Nat} {t : Ty}, At w0 g o t → AtO (· < w0.heap.size) w g o t := fun h => AtO.keep (ok := (· < w0.heap.size)) (ok' := (· < w0.heap.size)) (fun _ h => h) (fun p v _ hc => keeps hb p v hc) (show _ < w0.heap.size from World.block_lt_of_cell? w0 _ (at_v h).choose_spec.choose_spec.1) h.bound
        rcases look PData.name 7 23 24 DataAt (fun _ _ _ _ h => h.1) (fun _ _ h _ _ _ => DataAt.next h) first_data hb kd s dc with ⟨e1, h1⟩ | ⟨d, g, oo, e1, h1, h2⟩
        · rw [e1]
          rcases look PFam.name 7 26 27 FamAt (fun _ _ _ _ h => h.1) (fun _ _ h _ _ _ => FamAt.next h) first_fam hb kf s fc with ⟨e2, h3⟩ | ⟨d, g, oo, e2, h3, h4⟩
          · rw [e2]
            rcases look PCls.name 5 28 29 ClsAt (fun _ _ _ _ h => h.1) (fun _ _ h _ _ _ => ClsAt.next h) first_cls hb ks s sc with ⟨e3, h5⟩ | ⟨d, g, oo, e3, h5, h6⟩
            · rw [e3]
              exact find_none E s w hok bare hk hqb hc db _ dc (keeps hb _ _ hd) h1 fb _ fc (keeps hb _ _ hf) h3 sb _ sc (keeps hb _ _ hs) h5
            · rw [e3]
              obtain ⟨_, _, vb, vc, hv, hvs⟩ := h5
              exact find_cls E s w hok bare hk hqb hc db _ dc (keeps hb _ _ hd) h1 fb _ fc (keeps hb _ _ hf) h3 sb _ sc (keeps hb _ _ hs) g oo h6 d.vars vb vc (keeps hb _ _ hv) (hvs.next hb)
          · rw [e2]
            exact find_fam E s w hok bare hk hqb hc db _ dc (keeps hb _ _ hd) h1 fb _ fc (keeps hb _ _ hf) g oo h4 d.kind d.arity (World.block_lt_of_cell? w0 _ h3.1) (up h3.2.2.1) (keeps hb _ _ h3.2.2.2)
        · rw [e1]
          exact find_data E s w hok bare hk hqb hc db _ dc (keeps hb _ _ hd) g oo h2 d.kind (World.block_lt_of_cell? w0 _ h1.1) (up h1.2.2)
end Ty
end Go.Proofs.Ytfjgebdpbmnicaa

/- What findConstructor returns. Conditions: the environment lies in memory; what promoted does. -/
namespace Go.Proofs.Ytfjgebdpbmnicaa
open Go.RowKit

namespace Ty

set_option maxHeartbeats 8000000 in
theorem fc_none {ok : Nat → Prop} (E : Nat) (s : List UInt8) (w : World) (hok : ∀ g, ok g → g < w.heap.size) (cb : Option Addr) (cn cc : Nat) (hc : w.cell? ⟨E, 1, none⟩ = some (.slice cb cn cc)) (hcf : ∀ W, Below w.heap.size w W → Calls Try.prog 53 #[.slice cb cn cc, .string ⟨s.toArray⟩, .func (.func 54) #[] #[]] W fun e w' => w' = W ∧ e = .returned (.pointer none)) :
    Calls Try.prog 22 #[.pointer (some ⟨E, 0, none⟩), .string ⟨s.toArray⟩] w (ConO ok (.bad 20, 0) w) := by
  have hb1 : Below w.heap.size w (w.alloc (Obj.cells #[.int .i64 0, .int .i64 0, .string ⟨#[]⟩, .slice none 0 0, .int .i64 0] 51)) := (Below.refl _ _).alloc (Nat.le_refl _) _
  have ht1 : B5 (w.alloc (Obj.cells #[.int .i64 0, .int .i64 0, .string ⟨#[]⟩, .slice none 0 0, .int .i64 0] 51)) w.heap.size (.int .i64 0) (.int .i64 0) (.string ⟨#[]⟩) (.slice none 0 0) (.int .i64 0) := heap_alloc_new _ _
  have HB1 := Lib.hid hb1
  have HT1 := Lib.hid ht1
  have HOK := Lib.hid hok
  clear hb1 ht1 hok
  have HCF := Lib.hid hcf
  clear hcf
  go_enter Try.func22, Try.ntmps22
  go_upto_region 1 with fail
  obtain ⟨W1, hW1⟩ : ∃ W1, W1 = w.alloc (Obj.cells #[.int .i64 0, .int .i64 0, .string ⟨#[]⟩, .slice none 0 0, .int .i64 0] 51) := ⟨_, rfl⟩
  rw [← hW1] at HB1 HT1 ⊢
  clear hW1
  have C0 := keeps HB1.out _ _ hc
  clear hc HOK
  go_wp2_with fail
  refine (HCF.out _ HB1.out).mono ?_
  rintro e w5 ⟨rfl, rfl⟩
  obtain ⟨z0, z1, z2, z3, z4⟩ := HT1.out.cells
  have f0 := HT1.out.frozen 0
  have f1 := HT1.out.frozen 1
  have f2 := HT1.out.frozen 2
  have f3 := HT1.out.frozen 3
  have f4 := HT1.out.frozen 4
  go_wp2_with fail
  refine bodyPost_ret (results_con (a := 4) (b := 5) (by kernel_rfl) (B := w.heap.size) (by rfl) (by rfl) (put5_cells HT1.out _ _ _ _ _)) rfl ?_
  exact con20 (below_put5 HB1.out (Nat.le_refl _) _ _ _ _ _) rfl

set_option maxHeartbeats 8000000 in
theorem fc_given {ok : Nat → Prop} (E : Nat) (s : List UInt8) (w : World) (hok : ∀ g, ok g → g < w.heap.size) (cb : Option Addr) (cn cc : Nat) (hc : w.cell? ⟨E, 1, none⟩ = some (.slice cb cn cc)) (g oo : Nat) (hcf : ∀ W, Below w.heap.size w W → Calls Try.prog 53 #[.slice cb cn cc, .string ⟨s.toArray⟩, .func (.func 54) #[] #[]] W fun e w' => w' = W ∧ e = .returned (.pointer (some ⟨g, oo, none⟩))) (gb eb : Option Addr) (gn gc en ec : Nat) (hg : w.cell? ⟨g, oo + 5, none⟩ = some (.slice gb gn gc)) (he : w.cell? ⟨g, oo + 4, none⟩ = some (.slice eb en ec)) (h1 : 0 < gn) :
    Calls Try.prog 22 #[.pointer (some ⟨E, 0, none⟩), .string ⟨s.toArray⟩] w (ConO ok (.bad 20, 0) w) := by
  have hb1 : Below w.heap.size w (w.alloc (Obj.cells #[.int .i64 0, .int .i64 0, .string ⟨#[]⟩, .slice none 0 0, .int .i64 0] 51)) := (Below.refl _ _).alloc (Nat.le_refl _) _
  have ht1 : B5 (w.alloc (Obj.cells #[.int .i64 0, .int .i64 0, .string ⟨#[]⟩, .slice none 0 0, .int .i64 0] 51)) w.heap.size (.int .i64 0) (.int .i64 0) (.string ⟨#[]⟩) (.slice none 0 0) (.int .i64 0) := heap_alloc_new _ _
  have HB1 := Lib.hid hb1
  have HT1 := Lib.hid ht1
  have HOK := Lib.hid hok
  clear hb1 ht1 hok
  have HCF := Lib.hid hcf
  clear hcf
  go_enter Try.func22, Try.ntmps22
  go_upto_region 1 with fail
  obtain ⟨W1, hW1⟩ : ∃ W1, W1 = w.alloc (Obj.cells #[.int .i64 0, .int .i64 0, .string ⟨#[]⟩, .slice none 0 0, .int .i64 0] 51) := ⟨_, rfl⟩
  rw [← hW1] at HB1 HT1 ⊢
  clear hW1
  have hd : decide ((gn : Int) > 0) = true := by simpa using h1
  have hd2 : decide ((0 : Int) < gn) = true := by simpa using h1
  have C0 := keeps HB1.out _ _ hc
  have G0 := keeps HB1.out _ _ hg
  have E0 := keeps HB1.out _ _ he
  clear hc hg he HOK
  go_wp2_with fail
  refine (HCF.out _ HB1.out).mono ?_
  rintro e w5 ⟨rfl, rfl⟩
  obtain ⟨z0, z1, z2, z3, z4⟩ := HT1.out.cells
  have f0 := HT1.out.frozen 0
  have f1 := HT1.out.frozen 1
  have f2 := HT1.out.frozen 2
  have f3 := HT1.out.frozen 3
  have f4 := HT1.out.frozen 4
  go_wp2_with fail
  refine bodyPost_ret (results_con (a := 4) (b := 5) (by kernel_rfl) (B := w.heap.size) (by rfl) (by rfl) (put5_cells HT1.out _ _ _ _ _)) rfl ?_
  exact con20 (below_put5 HB1.out (Nat.le_refl _) _ _ _ _ _) rfl

set_option maxHeartbeats 8000000 in
theorem fc_eqs {ok : Nat → Prop} (E : Nat) (s : List UInt8) (w : World) (hok : ∀ g, ok g → g < w.heap.size) (cb : Option Addr) (cn cc : Nat) (hc : w.cell? ⟨E, 1, none⟩ = some (.slice cb cn cc)) (g oo : Nat) (hcf : ∀ W, Below w.heap.size w W → Calls Try.prog 53 #[.slice cb cn cc, .string ⟨s.toArray⟩, .func (.func 54) #[] #[]] W fun e w' => w' = W ∧ e = .returned (.pointer (some ⟨g, oo, none⟩))) (gb eb : Option Addr) (gc en ec : Nat) (hg : w.cell? ⟨g, oo + 5, none⟩ = some (.slice gb 0 gc)) (he : w.cell? ⟨g, oo + 4, none⟩ = some (.slice eb en ec)) (h1 : 0 < en) :
    Calls Try.prog 22 #[.pointer (some ⟨E, 0, none⟩), .string ⟨s.toArray⟩] w (ConO ok (.bad 20, 0) w) := by
  have hb1 : Below w.heap.size w (w.alloc (Obj.cells #[.int .i64 0, .int .i64 0, .string ⟨#[]⟩, .slice none 0 0, .int .i64 0] 51)) := (Below.refl _ _).alloc (Nat.le_refl _) _
  have ht1 : B5 (w.alloc (Obj.cells #[.int .i64 0, .int .i64 0, .string ⟨#[]⟩, .slice none 0 0, .int .i64 0] 51)) w.heap.size (.int .i64 0) (.int .i64 0) (.string ⟨#[]⟩) (.slice none 0 0) (.int .i64 0) := heap_alloc_new _ _
  have HB1 := Lib.hid hb1
  have HT1 := Lib.hid ht1
  have HOK := Lib.hid hok
  clear hb1 ht1 hok
  have HCF := Lib.hid hcf
  clear hcf
  go_enter Try.func22, Try.ntmps22
  go_upto_region 1 with fail
  obtain ⟨W1, hW1⟩ : ∃ W1, W1 = w.alloc (Obj.cells #[.int .i64 0, .int .i64 0, .string ⟨#[]⟩, .slice none 0 0, .int .i64 0] 51) := ⟨_, rfl⟩
  rw [← hW1] at HB1 HT1 ⊢
  clear hW1
  have hd : decide ((en : Int) > 0) = true := by simpa using h1
  have hd2 : decide ((0 : Int) < en) = true := by simpa using h1
  have C0 := keeps HB1.out _ _ hc
  have G0 := keeps HB1.out _ _ hg
  have E0 := keeps HB1.out _ _ he
  clear hc hg he HOK
  go_wp2_with fail
  refine (HCF.out _ HB1.out).mono ?_
  rintro e w5 ⟨rfl, rfl⟩
  obtain ⟨z0, z1, z2, z3, z4⟩ := HT1.out.cells
  have f0 := HT1.out.frozen 0
  have f1 := HT1.out.frozen 1
  have f2 := HT1.out.frozen 2
  have f3 := HT1.out.frozen 3
  have f4 := HT1.out.frozen 4
  go_wp2_with fail
  refine bodyPost_ret (results_con (a := 4) (b := 5) (by kernel_rfl) (B := w.heap.size) (by rfl) (by rfl) (put5_cells HT1.out _ _ _ _ _)) rfl ?_
  exact con20 (below_put5 HB1.out (Nat.le_refl _) _ _ _ _ _) rfl

set_option maxHeartbeats 8000000 in
theorem fc_ok {ok : Nat → Prop} (E : Nat) (s : List UInt8) (w : World) (hok : ∀ g, ok g → g < w.heap.size) (cb : Option Addr) (cn cc : Nat) (hc : w.cell? ⟨E, 1, none⟩ = some (.slice cb cn cc)) (g oo : Nat) (hcf : ∀ W, Below w.heap.size w W → Calls Try.prog 53 #[.slice cb cn cc, .string ⟨s.toArray⟩, .func (.func 54) #[] #[]] W fun e w' => w' = W ∧ e = .returned (.pointer (some ⟨g, oo, none⟩))) (gb eb : Option Addr) (gc ec : Nat) (hg : w.cell? ⟨g, oo + 5, none⟩ = some (.slice gb 0 gc)) (he : w.cell? ⟨g, oo + 4, none⟩ = some (.slice eb 0 ec)) (p : Ty) (hp : ∀ W, Below w.heap.size w W → w.heap.size < W.heap.size → Calls Try.prog 55 #[.pointer (some ⟨g, oo, none⟩)] W fun e w' => ∃ v, e = .returned v ∧ VO (fun g => ok g ∨ w.heap.size < g) w' p v ∧ Below W.heap.size W w') :
    Calls Try.prog 22 #[.pointer (some ⟨E, 0, none⟩), .string ⟨s.toArray⟩] w (ConO ok (declT p 0) w) := by
  have hb1 : Below w.heap.size w (w.alloc (Obj.cells #[.int .i64 0, .int .i64 0, .string ⟨#[]⟩, .slice none 0 0, .int .i64 0] 51)) := (Below.refl _ _).alloc (Nat.le_refl _) _
  have ht1 : B5 (w.alloc (Obj.cells #[.int .i64 0, .int .i64 0, .string ⟨#[]⟩, .slice none 0 0, .int .i64 0] 51)) w.heap.size (.int .i64 0) (.int .i64 0) (.string ⟨#[]⟩) (.slice none 0 0) (.int .i64 0) := heap_alloc_new _ _
  have HB1 := Lib.hid hb1
  have HT1 := Lib.hid ht1
  have HOK := Lib.hid hok
  clear hb1 ht1 hok
  have HCF := Lib.hid hcf
  clear hcf
  have HP := Lib.hid hp
  clear hp
  go_enter Try.func22, Try.ntmps22
  go_upto_region 1 with fail
  obtain ⟨W1, hW1⟩ : ∃ W1, W1 = w.alloc (Obj.cells #[.int .i64 0, .int .i64 0, .string ⟨#[]⟩, .slice none 0 0, .int .i64 0] 51) := ⟨_, rfl⟩
  rw [← hW1] at HB1 HT1 ⊢
  clear hW1
  have C0 := keeps HB1.out _ _ hc
  have G0 := keeps HB1.out _ _ hg
  have E0 := keeps HB1.out _ _ he
  clear hc hg he
  go_wp2_with fail
  refine (HCF.out _ HB1.out).mono ?_
  rintro e w5 ⟨rfl, rfl⟩
  go_wp2_with fail
  refine (HP.out _ HB1.out (lt_of_block HT1.out)).mono ?_
  rintro e w6 ⟨v, rfl, hv6, hb6⟩
  have HB6 := Lib.hid (HB1.out.trans (hb6.mono HB1.out.size))
  have HT6 := Lib.hid (HT1.out.next hb6)
  have HV6 := Lib.hid hv6
  clear hv6 hb6
  go_wp2_with fail
  refine (declared_any p 0 _ _ HV6.out).mono ?_
  rintro e w8 ⟨k5, n, c5, hr, rfl, ⟨b5, cap5, rfl, h51, h52⟩, hb5⟩
  have HR := Lib.hid hr
  have HT5 := Lib.hid (HT6.out.next hb5)
  have HB5 := Lib.hid (HB6.out.trans (hb5.mono HB6.out.size))
  have H51 := Lib.hid h51
  have H52 := Lib.hid h52
  have HZC := Lib.hid (lt_of_block HT6.out)
  clear hr h51 h52 hb5
  obtain ⟨z0, z1, z2, z3, z4⟩ := HT5.out.cells
  have f0 := HT5.out.frozen 0
  have f1 := HT5.out.frozen 1
  have f2 := HT5.out.frozen 2
  have f3 := HT5.out.frozen 3
  have f4 := HT5.out.frozen 4
  go_wp2_with fail
  refine bodyPost_ret (results_con (a := 4) (b := 5) (by kernel_rfl) (B := w.heap.size) (by rfl) (by rfl) (put5_cells HT5.out _ _ _ _ _)) rfl ?_
  have hz := HZC.out
  refine ⟨k5, n, _, HR.out, rfl, ⟨b5, cap5, rfl, H51.out, H52.out.keep (fun g hg => by rcases hg with (hg | hg) | hg; (exact .inl hg); (exact .inr (Nat.le_of_lt hg)); exact .inr (by omega)) (fun q v hp hc => put5_keep _ _ _ _ _ q v hc (by rcases hp with (hp | hp) | hp; (have := HOK.out _ hp; omega); (have : w.heap.size < q.block := hp; omega); omega))⟩, below_put5 HB5.out (Nat.le_refl _) _ _ _ _ _⟩

theorem findcon_any {env : PEnv} {E : Nat} {w0 : World} (hE : EnvAt w0 E env) (hpr : ∀ c ∈ env.cons, ∀ (g oo : Nat) W, ConAt w0 g oo c → Below w0.heap.size w0 W → Calls Try.prog 55 #[.pointer (some ⟨g, oo, none⟩)] W fun e w' => ∃ v, e = .returned v ∧ VO (fun x => x < w0.heap.size ∨ W.heap.size ≤ x) w' (promT c) v ∧ Below W.heap.size W w') (s : List UInt8) (w : World) (hb : Below w0.heap.size w0 w) :
    Calls Try.prog 22 #[.pointer (some ⟨E, 0, none⟩), .string ⟨s.toArray⟩] w (ConO (· < w0.heap.size) (findConT env s) w) := by
  have hok : ∀ g, g < w0.heap.size → g < w.heap.size := fun g hg => Nat.lt_of_lt_of_le hg hb.size
  obtain ⟨_, ⟨cb, cc, hc, kc⟩, _, _⟩ := hE
  unfold findConT
  rcases look PCon.name 8 53 54 ConAt (fun _ _ _ _ h => h.1) (fun _ _ h _ _ _ => ConAt.next h) first_con hb kc s cc with ⟨e1, h1⟩ | ⟨c, g, oo, e1, h1, h2⟩
  · rw [e1]
    exact fc_none E s w hok cb _ cc (keeps hb _ _ hc) h1
  · rw [e1]
    simp only
    have h1' := h1
    obtain ⟨_, _, _, _, _, _, ⟨eb, ec, he, _⟩, ⟨gb, gc, hg, _⟩, _⟩ := h1
    by_cases hg0 : 0 < c.given
    · rw [if_pos (.inl hg0)]
      exact fc_given E s w hok cb _ cc (keeps hb _ _ hc) g oo h2 gb eb _ gc _ ec (keeps hb _ _ hg) (keeps hb _ _ he) hg0
    · have hg1 : c.given = 0 := by omega
      rw [hg1] at hg
      by_cases he0 : 0 < c.eqs
      · rw [if_pos (.inr he0)]
        exact fc_eqs E s w hok cb _ cc (keeps hb _ _ hc) g oo h2 gb eb gc _ ec (keeps hb _ _ hg) (keeps hb _ _ he) he0
      · have he1 : c.eqs = 0 := by omega
        rw [he1] at he
        rw [if_neg (by omega)]
        exact fc_ok E s w hok cb _ cc (keeps hb _ _ hc) g oo h2 gb eb gc ec (keeps hb _ _ hg) (keeps hb _ _ he) (promT c) (fun W hW hlt => (hpr c (List.mem_of_find?_eq_some e1) g oo W h1' (hb.trans (hW.mono hb.size))).mono fun e w' ⟨v, h3, h4, h5⟩ => ⟨v, h3, h4.keep (fun x hx => by rcases hx with hx | hx; exact .inl hx; exact .inr (Nat.lt_of_lt_of_le hlt hx)) (fun _ _ _ hc => hc), h5⟩)

end Ty
end Go.Proofs.Ytfjgebdpbmnicaa
