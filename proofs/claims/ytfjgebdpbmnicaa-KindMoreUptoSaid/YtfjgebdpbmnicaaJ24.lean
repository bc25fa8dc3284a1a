/- The kinds of types, plainly. Conditions: none. No program stands in this text. -/
import Derived.Test.YtfjgebdpbmnicaaJ19
import Derived.Test.YtfjgebdpbmnicaaJ17
import Derived.Test.YtfjgebdpbmnicaaJ23
import Derived.Test.YtfjgebdpbmnicaaJ21
namespace Go.Proofs.Ytfjgebdpbmnicaa
open Go.RowKit

/-- what is declared, as far as kinds ask for it -/
structure PData where
  name : List UInt8
  kind : Ty
structure PFam where
  name : List UInt8
  kind : Ty
  arity : Int
structure PCls where
  name : List UInt8
  vars : List Ty
structure PCon where
  name : List UInt8
  data : List UInt8
  univ : List Ty
  exis : List Ty
  eqs : Nat
  given : Nat
  args : List Ty
structure PEnv where
  data : List PData
  cons : List PCon
  fams : List PFam
  clss : List PCls

namespace Ty
/-- a kind, or an error -/
inductive Res where
  | ok (k : Ty)
  | bad (e : Int)
def conT (s : List UInt8) : Ty := .mk 2 0 s []
def bType : List UInt8 := [84, 121, 112, 101]
def bConstraint : List UInt8 := [67, 111, 110, 115, 116, 114, 97, 105, 110, 116]
def bInt : List UInt8 := [73, 110, 116]
def bBool : List UInt8 := [66, 111, 111, 108]
def bUnit : List UInt8 := [85, 110, 105, 116]
def tType : Ty := conT bType
def tConstraint : Ty := conT bConstraint
/-- the kinds of constants that are built in -/
def builtinT (s : List UInt8) : Option Ty :=
  if s = bType ∨ s = bConstraint ∨ s = bInt ∨ s = bBool ∨ s = bUnit then some tType
  else if s = [45, 62] then some (arrow tType (arrow tType tType))
  else if s = [73, 79] ∨ s = [83, 84, 77] ∨ s = [84, 86, 97, 114] then some (arrow tType tType)
  else if s = 39 :: [70, 97, 108, 115, 101] ∨ s = 39 :: [84, 114, 117, 101] then some (conT bBool)
  else if s = 39 :: bUnit then some (conT bUnit)
  else none
/-- a declared kind is used if it is proper -/
def declT (k : Ty) (a : Int) : Res × Int := if isProper k = true then (.ok k, a) else (.bad 5, 0)
/-- a kind that is put together, or too large -/
def fullT (k : Ty) : Res := if isProper k = true then .ok k else .bad 5
/-- the type beside an error, too -/
def Res.val : Res → Ty
  | .ok k => k
  | .bad _ => zeroT
/-- a type and an error's number -/
def Res.is : Res → Ty → Int → Prop
  | .ok k, t, n => t = k ∧ n = 0
  | .bad c, t, n => t = zeroT ∧ n = c ∧ c ≠ 0
/-- what Fun returns, and Apply, Shift and Put -/
def funR (l : List Ty) (r : Ty) : Res := if isProper r = true ∧ propersT l = true then fullT (funT r l) else .bad 2
def appR (f : Ty) (l : List Ty) : Res := if isProper f = true ∧ propersT l = true then fullT (applyT f l) else .bad 2
def shiftR (k : Ty) (d : Int) : Res := if argB k d 0 = true then (if (shiftT d 0 k).2 = true then fullT (shiftT d 0 k).1 else .bad 6) else .bad 2
def putR (l : List Ty) (b : Ty) : Res := if isProper b = true ∧ propersT l = true then fullT (putT l b) else .bad 2
/-- the variables for the first kinds of n -/
def univT (n : Nat) (m : Nat) : List Ty := (List.range m).map fun (i : Nat) => .mk 1 ((n : Int) - 1 - (i : Int)) [] []
def allT (ks : List Ty) (k : Ty) : Ty := ks.foldr (fun x k => .mk 4 0 [] [x, k]) k
/-- the kind of a promoted constructor -/
def promT (c : PCon) : Ty := allT (c.univ ++ c.exis) (funR c.args (appR (conT c.data) (univT (c.univ.length + c.exis.length) c.univ.length)).val).val
def findConT (E : PEnv) (s : List UInt8) : Res × Int :=
  match E.cons.find? (fun c => decide (c.name = s)) with
  | none => (.bad 20, 0)
  | some c => if 0 < c.given ∨ 0 < c.eqs then (.bad 20, 0) else declT (promT c) 0
/-- the kind and the arity of a constant -/
def findT (E : PEnv) (s : List UInt8) : Res × Int :=
  match builtinT s with
  | some k => (.ok k, 0)
  | none =>
    if s = [126] then (.bad 20, 0)
    else match s with
      | 39 :: bare => findConT E bare
      | _ =>
        match E.data.find? (fun d => decide (d.name = s)) with
        | some d => declT d.kind 0
        | none =>
          match E.fams.find? (fun f => decide (f.name = s)) with
          | some f => declT f.kind f.arity
          | none =>
            match E.clss.find? (fun c => decide (c.name = s)) with
            | some c => declT (funR c.vars tConstraint).val 0
            | none => (.bad 20, 0)

/-- where kinds are looked for -/
structure KW where
  env : PEnv
  metas : List Ty
  rigids : List Ty
def constantT (E : PEnv) (s : List UInt8) (a : Nat) : Res :=
  if s = [126] then .bad 22
  else match findT E s with
    | (.bad e, _) => .bad e
    | (.ok k, ar) => if (a : Int) < ar then .bad 22 else .ok k
def varT (K : KW) (ctx : List Ty) (op n : Int) : Res :=
  if op = 1 ∧ n.toNat < ctx.length then (match ctx[ctx.length - 1 - n.toNat]? with | some k => shiftR k (n + 1) | none => .bad 6)
  else if op = 6 ∧ n.toNat < K.metas.length then (match K.metas[n.toNat]? with | some k => .ok k | none => .bad 6)
  else if op = 7 ∧ n.toNat < K.rigids.length then (match K.rigids[n.toNat]? with | some k => .ok k | none => .bad 6)
  else .bad 6
/-- a type must have a kind -/
def mustT (r : Res) (k : Ty) (next : Res) : Res := match r with | .bad e => .bad e | .ok k' => if same k' k = true then next else .bad 23
/-- something of a kind applied to an argument, of which the kind is given -/
def appliedT (f : Res) (x : Ty) (rx : Res) : Res :=
  match f with
  | .bad e => .bad e
  | .ok f => match wantT f with
    | none => .bad 23
    | some k => mustT rx k (if f.op = 4 then putR [x] (f.args[1]?.getD zeroT) else .ok (f.args[1]?.getD zeroT))
/-- the kind of a type before so many arguments -/
def kindF (K : KW) : Nat → Ty → List Ty → Nat → Res
  | 0, _, _, _ => .bad 2
  | m + 1, t, ctx, ar => match t.args with
    | [f, x] =>
      if t.op = 3 then
        (if ar = 0 ∧ isAppl t [126] = true then (match kindF K m ((f.args[1]?).getD zeroT) ctx 0 with | .bad e => .bad e | .ok k => mustT (kindF K m x ctx 0) k (.ok tConstraint))
         else appliedT (kindF K m f ctx (ar + 1)) x (kindF K m x ctx 0))
      else if t.op = 4 then mustT (kindF K m f ctx 0) tType (mustT (kindF K m x (ctx ++ [f]) 0) tType (.ok tType))
      else mustT (kindF K m f ctx 0) tConstraint (mustT (kindF K m x ctx 0) tType (.ok tType))
    | _ => if t.op = 2 then constantT K.env t.s ar else varT K ctx t.op t.n
end Ty
end Go.Proofs.Ytfjgebdpbmnicaa

/- An environment as it lies in memory, as far as kinds ask for it. Conditions: none. No program's function stands in this text. -/
namespace Go.Proofs.Ytfjgebdpbmnicaa
open Go.RowKit

namespace Ty
/-- the items of a list of structs, each at its place -/
def RowG {α : Type} (sz : Nat) (R : World → Nat → Nat → α → Prop) (w : World) (b o : Nat) (l : List α) : Prop := ∀ i (h : i < l.length), R w b (o + i * sz) (l[i]'h)
def SlG {α : Type} (sz : Nat) (R : World → Nat → Nat → α → Prop) (w : World) (base : Option Addr) (l : List α) : Prop := l.length ≤ maxLen ∧ (l = [] ∨ ∃ g o, base = some ⟨g, o, none⟩ ∧ RowG sz R w g o l)
def DataAt (w : World) (b o : Nat) (d : PData) : Prop := w.cell? ⟨b, o, none⟩ = some (.string ⟨d.name.toArray⟩) ∧ d.name.length ≤ maxLen ∧ At w b (o + 1) d.kind
def FamAt (w : World) (b o : Nat) (d : PFam) : Prop := w.cell? ⟨b, o, none⟩ = some (.string ⟨d.name.toArray⟩) ∧ d.name.length ≤ maxLen ∧ At w b (o + 1) d.kind ∧ w.cell? ⟨b, o + 5, none⟩ = some (.int .i64 d.arity)
def ClsAt (w : World) (b o : Nat) (d : PCls) : Prop := w.cell? ⟨b, o, none⟩ = some (.string ⟨d.name.toArray⟩) ∧ d.name.length ≤ maxLen ∧ ∃ vb vc, w.cell? ⟨b, o + 1, none⟩ = some (.slice vb d.vars.length vc) ∧ Sl w vb d.vars
def ConAt (w : World) (b o : Nat) (d : PCon) : Prop := w.cell? ⟨b, o, none⟩ = some (.string ⟨d.name.toArray⟩) ∧ d.name.length ≤ maxLen ∧ w.cell? ⟨b, o + 1, none⟩ = some (.string ⟨d.data.toArray⟩) ∧ d.data.length ≤ maxLen ∧
  (∃ ub uc, w.cell? ⟨b, o + 2, none⟩ = some (.slice ub d.univ.length uc) ∧ Sl w ub d.univ) ∧ (∃ xb xc, w.cell? ⟨b, o + 3, none⟩ = some (.slice xb d.exis.length xc) ∧ Sl w xb d.exis) ∧
  (∃ eb ec, w.cell? ⟨b, o + 4, none⟩ = some (.slice eb d.eqs ec) ∧ d.eqs ≤ maxLen) ∧ (∃ gb gc, w.cell? ⟨b, o + 5, none⟩ = some (.slice gb d.given gc) ∧ d.given ≤ maxLen) ∧ ∃ ab ac, w.cell? ⟨b, o + 6, none⟩ = some (.slice ab d.args.length ac) ∧ Sl w ab d.args
theorem DataAt.next {w w' : World} (hb : Below w.heap.size w w') {b o : Nat} {d : PData} (h : DataAt w b o d) : DataAt w' b o d := ⟨keeps hb _ _ h.1, h.2.1, h.2.2.next hb⟩
theorem FamAt.next {w w' : World} (hb : Below w.heap.size w w') {b o : Nat} {d : PFam} (h : FamAt w b o d) : FamAt w' b o d := ⟨keeps hb _ _ h.1, h.2.1, h.2.2.1.next hb, keeps hb _ _ h.2.2.2⟩
theorem ClsAt.next {w w' : World} (hb : Below w.heap.size w w') {b o : Nat} {d : PCls} (h : ClsAt w b o d) : ClsAt w' b o d := by
  obtain ⟨h1, h2, vb, vc, h3, h4⟩ := h
  exact ⟨keeps hb _ _ h1, h2, vb, vc, keeps hb _ _ h3, h4.next hb⟩
theorem ConAt.next {w w' : World} (hb : Below w.heap.size w w') {b o : Nat} {d : PCon} (h : ConAt w b o d) : ConAt w' b o d := by
  obtain ⟨h1, h2, h3, h4, ⟨ub, uc, h5, h6⟩, ⟨xb, xc, h7, h8⟩, ⟨eb, ec, h9, h10⟩, ⟨gb, gc, h11, h12⟩, ab, ac, h13, h14⟩ := h
  exact ⟨keeps hb _ _ h1, h2, keeps hb _ _ h3, h4, ⟨ub, uc, keeps hb _ _ h5, h6.next hb⟩, ⟨xb, xc, keeps hb _ _ h7, h8.next hb⟩, ⟨eb, ec, keeps hb _ _ h9, h10⟩, ⟨gb, gc, keeps hb _ _ h11, h12⟩, ab, ac, keeps hb _ _ h13, h14.next hb⟩
theorem SlG.next {α : Type} {sz : Nat} {R : World → Nat → Nat → α → Prop} (hR : ∀ (w w' : World), Below w.heap.size w w' → ∀ (b o : Nat) (d : α), R w b o d → R w' b o d) {w w' : World} (hb : Below w.heap.size w w') {base : Option Addr} {l : List α} (h : SlG sz R w base l) : SlG sz R w' base l := by
  obtain ⟨h1, h2 | ⟨g, o, e, h2⟩⟩ := h
  · exact ⟨h1, .inl h2⟩
  · exact ⟨h1, .inr ⟨g, o, e, fun i hi => hR _ _ hb _ _ _ (h2 i hi)⟩⟩
/-- an environment lies in a box -/
structure EnvAt (w : World) (E : Nat) (env : PEnv) : Prop where
  data : ∃ b c, w.cell? ⟨E, 0, none⟩ = some (.slice b env.data.length c) ∧ SlG 7 DataAt w b env.data
  cons : ∃ b c, w.cell? ⟨E, 1, none⟩ = some (.slice b env.cons.length c) ∧ SlG 8 ConAt w b env.cons
  fams : ∃ b c, w.cell? ⟨E, 2, none⟩ = some (.slice b env.fams.length c) ∧ SlG 7 FamAt w b env.fams
  clss : ∃ b c, w.cell? ⟨E, 3, none⟩ = some (.slice b env.clss.length c) ∧ SlG 5 ClsAt w b env.clss
theorem EnvAt.next {w w' : World} (hb : Below w.heap.size w w') {E : Nat} {env : PEnv} (h : EnvAt w E env) : EnvAt w' E env := by
  obtain ⟨⟨b1, c1, h1, k1⟩, ⟨b2, c2, h2, k2⟩, ⟨b3, c3, h3, k3⟩, b4, c4, h4, k4⟩ := h
  exact ⟨⟨b1, c1, keeps hb _ _ h1, SlG.next (R := DataAt) (fun _ _ h _ _ _ => DataAt.next h) hb k1⟩, ⟨b2, c2, keeps hb _ _ h2, SlG.next (R := ConAt) (fun _ _ h _ _ _ => ConAt.next h) hb k2⟩, ⟨b3, c3, keeps hb _ _ h3, SlG.next (R := FamAt) (fun _ _ h _ _ _ => FamAt.next h) hb k3⟩, b4, c4, keeps hb _ _ h4, SlG.next (R := ClsAt) (fun _ _ h _ _ _ => ClsAt.next h) hb k4⟩
/-- the first one with a name: its place -/
def idxB (l : List (List UInt8)) (q : List UInt8) : Option Nat := l.findIdx? (fun s => decide (s = q))
theorem find_idx {α : Type} (nm : α → List UInt8) (q : List UInt8) : ∀ (l : List α), (idxB (l.map nm) q = none ∧ l.find? (fun d => decide (nm d = q)) = none) ∨ ∃ i, ∃ h : i < l.length, idxB (l.map nm) q = some i ∧ l.find? (fun d => decide (nm d = q)) = some (l[i]'h)
  | [] => .inl ⟨rfl, rfl⟩
  | a :: l => by
    unfold idxB
    rw [List.map_cons, List.findIdx?_cons, List.find?_cons]
    by_cases h : nm a = q
    · exact .inr ⟨0, by simp, by simp [h], by simp [h]⟩
    · rcases find_idx nm q l with ⟨h1, h2⟩ | ⟨i, hi, h1, h2⟩
      · unfold idxB at h1
        exact .inl ⟨by simp [h, h1], by simp [h, h2]⟩
      · unfold idxB at h1
        exact .inr ⟨i + 1, by simpa using hi, by simp [h, h1], by simp [h, h2]⟩
end Ty
end Go.Proofs.Ytfjgebdpbmnicaa
