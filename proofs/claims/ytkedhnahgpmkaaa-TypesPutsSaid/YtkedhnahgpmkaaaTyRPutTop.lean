/- What the reference's Put returns. Conditions: the types are well formed. -/
import Derived.Test.YtkedhnahgpmkaaaTyRPutN
namespace Go.Proofs.Ytkedhnahgpmkaaa
open Go.RowKit

namespace Ty
set_option maxHeartbeats 4000000 in
theorem rputtop_any (t : Ty) (hg : Good t) (hn : nodes t ≤ 1000000) (l : List Ty) (hla : l.length ≤ 600) (hgl : ∀ x ∈ l, Good x ∧ nodes x ≤ 1000000) (base : Option Addr) (cap : Nat) (v : Value) (w : World) (hv : V w t v) (hl : Sl w base l) : Calls Try.prog 31 #[v, .slice base l.length cap] w (RetF (putT l t) w) := by
  have hcall := fun (W : World) (hb : Below w.heap.size w W) => rput_any (base := base) (cap := cap) l hla hgl t hg v 0 W (hv.next hb) (hl.next hb) (by omega)
  rw [show ((0 : Nat) : Int) = 0 from rfl] at hcall
  unfold RetF at hcall ⊢
  unfold putT
  obtain ⟨b, c, ev, _, _⟩ := hv
  subst ev
  obtain ⟨ht3, ht6⟩ := two_boxes w (.int .i64 t.op) (.int .i64 t.n) (.string t.name) (.slice b t.args.length c) (.int .i64 0) (.int .i64 0) (.string ⟨#[]⟩) (.slice none 0 0)
  have hb2 : Below w.heap.size w ((w.alloc (Obj.cells #[.int .i64 t.op, .int .i64 t.n, .string t.name, .slice b t.args.length c] 24)).alloc (Obj.cells #[.int .i64 0, .int .i64 0, .string ⟨#[]⟩, .slice none 0 0] 24)) := below_two w _ _
  have HT3 := Lib.hid ht3
  have HT6 := Lib.hid ht6
  have HB2 := Lib.hid hb2
  clear ht3 ht6 hb2
  obtain ⟨r, hr⟩ : ∃ r, r = (reb (putF l) t 0 ()).1 := ⟨_, rfl⟩
  rw [← hr] at hcall ⊢
  clear hr
  have HC := Lib.hid hcall
  clear hcall
  generalize l.length = la at *
  go_enter Try.func31, Try.ntmps31
  go_upto_region 1 with fail
  obtain ⟨W2, hW2⟩ : ∃ W2, W2 = (w.alloc (Obj.cells #[.int .i64 t.op, .int .i64 t.n, .string t.name, .slice b t.args.length c] 24)).alloc (Obj.cells #[.int .i64 0, .int .i64 0, .string ⟨#[]⟩, .slice none 0 0] 24) := ⟨_, rfl⟩
  rw [← hW2] at HT3 HT6 HB2 ⊢
  have HSZ : Hid (W2.heap.size = w.heap.size + 2) := Lib.hid (by rw [hW2]; simp)
  clear hW2
  obtain ⟨c0, c1, c2, c3⟩ := HT3.out.cells
  go_wp2_with fail
  refine (HC.out W2 HB2.out).mono ?_
  rintro e w2 ⟨v3, rfl, ⟨b9, c9, rfl, hs9, hl9⟩, hb⟩
  have HV3 : Hid (VO (W2.heap.size ≤ ·) w2 r _) := Lib.hid ⟨b9, c9, rfl, hs9, hl9⟩
  have HR3 := Lib.hid (HT6.out.next hb)
  have HB3 := Lib.hid (HB2.out.trans (hb.mono HB2.out.size))
  clear hs9 hl9 hb c0 c1 c2 c3 HT3 HT6 HB2 HC
  obtain ⟨z0, z1, z2, z3⟩ := HR3.out.cells
  have f0 := HR3.out.frozen 0
  have f1 := HR3.out.frozen 1
  have f2 := HR3.out.frozen 2
  have f3 := HR3.out.frozen 3
  go_wp2_with fail
  refine bodyPost_ret (results_ty (a := 4) (by kernel_rfl) (B := w.heap.size + 1) (by rfl) (put4_cells HR3.out _ _ _ _).cells.1 (put4_cells HR3.out _ _ _ _).cells.2.1 (put4_cells HR3.out _ _ _ _).cells.2.2.1 (put4_cells HR3.out _ _ _ _).cells.2.2.2) rfl ?_
  have hsz := HSZ.out
  exact ⟨_, rfl, HV3.out.keep (fun g hg => by show w.heap.size ≤ g; have : W2.heap.size ≤ g := hg; omega) (fun p v hp hc => put4_keep _ _ _ _ p v hc (by have : W2.heap.size ≤ p.block := hp; omega)), below_put4 HB3.out (by omega) _ _ _ _⟩


end Ty
end Go.Proofs.Ytkedhnahgpmkaaa
