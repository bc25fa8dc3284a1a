/- The law KindMore from what its arguments hold. Conditions: not too much comes in. -/
import Derived.Test.YtfjgebdpbmnicaaJ50
import Derived.Test.YtfjgebdpbmnicaaJ51
import Derived.Test.YtfjgebdpbmnicaaJ52
namespace Go.Proofs.Ytfjgebdpbmnicaa
open Go.RowKit

namespace Ty
theorem awake_any (w : World) : Calls Try.prog 5 #[] w fun e w' => e = .returned (.bool true) ∧ Below w.heap.size w w' := awake_from (fun w => vec_any w) w
theorem top_more {env M : PEnv} {metas rigids ctx : List Ty} {t : Ty} (hf : ∀ f ∈ M.fams, (findT env f.name).1 = .bad 20) (hd : ∀ d ∈ M.data, (findT env d.name).1 = .bad 20) (k : Ty) (h : kindTopT env metas rigids ctx t = .ok k) : kindTopT (envApp env M) metas rigids ctx t = .ok k := by
  unfold kindTopT at *
  by_cases h1 : formedB ctx metas rigids = true
  · rw [if_pos h1] at h ⊢
    by_cases h2 : isProper t = true
    · rw [if_pos h2] at h ⊢
      cases hk : kindF ⟨env, metas, rigids⟩ 600 t ctx 0 with
      | bad c =>
        rw [hk] at h
        cases h
      | ok k' =>
        rw [hk] at h
        have := kindF_more (K := ⟨env, metas, rigids⟩) (M := M) hd hf 600 t ctx 0 k' hk
        rw [this]
        exact h
    · rw [if_neg h2] at h
      cases h
  · rw [if_neg h1] at h
    cases h
theorem small_app {env M : PEnv} (h1 : SmallE env) (h2 : SmallE M) : SmallE (envApp env M) := fun c hc => by
  rcases List.mem_append.1 (show c ∈ env.cons ++ M.cons from hc) with h | h
  · exact h1 c h
  · exact h2 c h
theorem law_more {w : World} {N1 N2 : Nat} {vs us : List Value} {env M : PEnv} (h1 : EnvIn w N1 vs env) (h2 : EnvIn w N2 us M) (hN : N1 + N2 ≤ 1048576) (metas rigids ctx : List Ty) (t : Ty) (mb rb xb : Option Addr) (mc rc xc : Nat) (v : Value)
    (hm : SlG 10 MetAt w mb metas) (hr : SlG 5 RigAt w rb rigids) (hc : Sl w xb ctx) (hcx : ctx.length ≤ xc) (ht : V w t v) :
    Calls Try.prog 3 #[.agg (vs ++ [Value.slice mb metas.length mc, Value.slice rb rigids.length rc, Value.slice xb ctx.length xc] : List Value).toArray, v, .agg us.toArray] w fun e w' => e = .returned (.bool true) ∧ Below w.heap.size w w' := by
  obtain ⟨b0, b1, b2, b3, b4, b5, c0, c1, c2, c3, c4, c5, n4, n5, u0, u1, u2, u3, rfl, hE, _, _, r0, r1, r2, r3, k0, k1, k2, k3, kc⟩ := h1.ex
  obtain ⟨m0, m1, m2, m3, m4, m5, e0, e1, e2, e3, e4, e5, q4, q5, z0, z1, z2, z3, rfl, hM, hFX, hDX, s0, s1, s2, s3, l0, l1, l2, l3, lc⟩ := h2.ex
  have ht2 := ht
  obtain ⟨tb, tc, rfl, _, _⟩ := ht2
  have hs1 : SmallE env := fun c hc => by have := kc c hc; omega
  have hs2 : SmallE M := fun c hc => by have := lc c hc; omega
  refine more_walk env M t (kindTopT env metas rigids ctx t) (kindTopT (envApp env M) metas rigids ctx t) b0 b1 b2 b3 b4 b5 m0 m1 m2 m3 m4 m5 xb mb rb tb _ _ _ _ n4 n5 c0 c1 c2 c3 c4 c5 _ _ _ _ q4 q5 e0 e1 e2 e3 e4 e5 _ _ _ xc mc rc tc u0 u1 u2 u3 z0 z1 z2 z3 w rfl rfl rfl rfl rfl rfl rfl rfl hE hM hFX hDX r0 r1 r2 r3 s0 s1 s2 s3 (by omega) (by omega) (by omega) (by omega) ht ?_ ?_ ?_ (fun hf hd k hk => top_more hf hd k hk) (fun W _ => awake_any W)
  · intro W hb s
    exact const_call b4 b5 c0 c1 c2 c3 c4 c5 n4 n5 W (hE.next hb) hs1 s
  · intro W hb
    exact kind_call b4 b5 c0 c1 c2 c3 c4 c5 n4 n5 ctx metas rigids t xb mb rb tb xc mc rc tc W (hE.next hb) hs1 (hc.next hb) hcx (SlG.next (R := MetAt) (fun _ _ h _ _ _ => MetAt.next h) hb hm) (SlG.next (R := RigAt) (fun _ _ h _ _ _ => RigAt.next h) hb hr) (ht.next hb)
  · intro a0 a1 a2 a3 g0 g1 g2 g3 W hb hEA
    have h := kind_call (env := envApp env M) b4 b5 g0 g1 g2 g3 c4 c5 n4 n5 ctx metas rigids t xb mb rb tb xc mc rc tc W hEA (small_app hs1 hs2) (hc.next hb) hcx (SlG.next (R := MetAt) (fun _ _ h _ _ _ => MetAt.next h) hb hm) (SlG.next (R := RigAt) (fun _ _ h _ _ _ => RigAt.next h) hb hr) (ht.next hb)
    rw [show (envApp env M).data.length = env.data.length + M.data.length from List.length_append .., show (envApp env M).cons.length = env.cons.length + M.cons.length from List.length_append .., show (envApp env M).fams.length = env.fams.length + M.fams.length from List.length_append .., show (envApp env M).clss.length = env.clss.length + M.clss.length from List.length_append ..] at h
    exact h
end Ty
end Go.Proofs.Ytfjgebdpbmnicaa
