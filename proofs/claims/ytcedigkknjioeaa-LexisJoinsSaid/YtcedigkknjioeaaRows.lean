/-
  No cell of these rows narrows 'for every input' (looked for: loops, veiled, ifaces, maps, wideKeys, modest, calm, conditions, laid).
  DERIVED. THE GIVEN ROWS OF THIS SEAT. 6 by the template 'for every input the law returns true; each argument reads behind the call as it read before'; 0 by the template 'total and deterministic' (their statements: YtcedigkknjioeaaTotals.lean).
  GIVEN WITH THE SEED: the statements are not yours to turn. If you find one false, say at which input.
  Laid BY PROGRAM, IN A SANDBOX (cutbox-rows.mjs): the forced cells as the released guide's own fill.sh prints them over the translation b98eb656e4fcd24f… (all of the seat's roots in one cut). By AI agents, Wed Nov 11 2026. No macro, syntax, notation, axiom, sorry.
-/
import Derived.Test.YtcedigkknjioeaaChecked
import GoSem.Claim
import GoSem.ClaimJoined
import GoSem.ClaimMapViews
import Derived.JoinedTies
import Derived.KernelRfl
namespace Go.Proofs.Ytcedigkknjioeaa
/- THE CELL 'sum', in the pinned program and in every row, IS THE sha256 OF THE DUMP (.gsa) THAT YtcedigkknjioeaaProg.lean LOADS. Nothing in Lean hashes anything: it is a label: what it is worth is what the hold of that sum in a sandbox is worth. -/
noncomputable def Try.pinned : Pinned := { name := "ytcedigkknjioeaa", sum := "b98eb656e4fcd24f2ee94b8e72ad28a01e7cd794eed98108b27d7f60e7ef58e4", checked := Try.checked }
namespace Rows
def none {H : Type} : Left H := { results := [], args := [] }

/-- 'damasklaw01.LexisTokens': WHATEVER THE INPUT: true; the input reads as it did. -/
def lexisTokensSpec : ChangeSpec := { name := "lexisTokens", fn := fun _ => fun
  | [d] => { results := [.lit (.bool true)], args := [d] }
  | _ => none }
def lexisTokensRow : OpenClaim := { program := "ytcedigkknjioeaa", sum := "b98eb656e4fcd24f2ee94b8e72ad28a01e7cd794eed98108b27d7f60e7ef58e4", func := "damask/damasklaw01.LexisTokens", spec := "lexisTokens", inPlace := ["internal/bytealg.IndexByteString"], unfollowed := true, recurses := true, apart := false }
def LexisTokensSaid : Prop := lexisTokensRow.holds Try.pinned (OpenSpec.ofChange lexisTokensSpec)

/-- ITS FALSE NEIGHBOUR: 'it returns false'. Refute it at one input. -/
def lexisTokensWrong : ChangeSpec := { name := "lexisTokens", fn := fun _ => fun
  | [d] => { results := [.lit (.bool false)], args := [d] }
  | _ => none }
def LexisTokensWrongFalsely : Prop := lexisTokensRow.holds Try.pinned (OpenSpec.ofChange lexisTokensWrong)

/-- 'damasklaw01.LexisNames': WHATEVER THE INPUT: true; the input reads as it did. -/
def lexisNamesSpec : ChangeSpec := { name := "lexisNames", fn := fun _ => fun
  | [d] => { results := [.lit (.bool true)], args := [d] }
  | _ => none }
def lexisNamesRow : OpenClaim := { program := "ytcedigkknjioeaa", sum := "b98eb656e4fcd24f2ee94b8e72ad28a01e7cd794eed98108b27d7f60e7ef58e4", func := "damask/damasklaw01.LexisNames", spec := "lexisNames", inPlace := ["internal/bytealg.IndexByteString"], unfollowed := true, recurses := true, apart := false }
def LexisNamesSaid : Prop := lexisNamesRow.holds Try.pinned (OpenSpec.ofChange lexisNamesSpec)

/-- ITS FALSE NEIGHBOUR: 'it returns false'. Refute it at one input. -/
def lexisNamesWrong : ChangeSpec := { name := "lexisNames", fn := fun _ => fun
  | [d] => { results := [.lit (.bool false)], args := [d] }
  | _ => none }
def LexisNamesWrongFalsely : Prop := lexisNamesRow.holds Try.pinned (OpenSpec.ofChange lexisNamesWrong)

/-- 'damasklaw01.LexisPlaces': WHATEVER THE INPUT: true; the input reads as it did. -/
def lexisPlacesSpec : ChangeSpec := { name := "lexisPlaces", fn := fun _ => fun
  | [d1, d2] => { results := [.lit (.bool true)], args := [d1, d2] }
  | _ => none }
def lexisPlacesRow : OpenClaim := { program := "ytcedigkknjioeaa", sum := "b98eb656e4fcd24f2ee94b8e72ad28a01e7cd794eed98108b27d7f60e7ef58e4", func := "damask/damasklaw01.LexisPlaces", spec := "lexisPlaces", inPlace := ["internal/bytealg.CountString", "internal/bytealg.IndexByteString", "internal/bytealg.IndexString"], unfollowed := true, recurses := true, named := ["internal/bytealg.MaxLen"], apart := false }
def LexisPlacesSaid : Prop := lexisPlacesRow.holds Try.pinned (OpenSpec.ofChange lexisPlacesSpec)

/-- ITS FALSE NEIGHBOUR: 'it returns false'. Refute it at one input. -/
def lexisPlacesWrong : ChangeSpec := { name := "lexisPlaces", fn := fun _ => fun
  | [d1, d2] => { results := [.lit (.bool false)], args := [d1, d2] }
  | _ => none }
def LexisPlacesWrongFalsely : Prop := lexisPlacesRow.holds Try.pinned (OpenSpec.ofChange lexisPlacesWrong)

/-- 'damasklaw01.LexisJoins': WHATEVER THE INPUT: true; the input reads as it did. -/
def lexisJoinsSpec : ChangeSpec := { name := "lexisJoins", fn := fun _ => fun
  | [d] => { results := [.lit (.bool true)], args := [d] }
  | _ => none }
def lexisJoinsRow : OpenClaim := { program := "ytcedigkknjioeaa", sum := "b98eb656e4fcd24f2ee94b8e72ad28a01e7cd794eed98108b27d7f60e7ef58e4", func := "damask/damasklaw01.LexisJoins", spec := "lexisJoins", inPlace := ["internal/bytealg.IndexByteString", "internal/abi.NoEscape"], unfollowed := true, recurses := true, apart := false }
def LexisJoinsSaid : Prop := lexisJoinsRow.holds Try.pinned (OpenSpec.ofChange lexisJoinsSpec)

/-- ITS FALSE NEIGHBOUR: 'it returns false'. Refute it at one input. -/
def lexisJoinsWrong : ChangeSpec := { name := "lexisJoins", fn := fun _ => fun
  | [d] => { results := [.lit (.bool false)], args := [d] }
  | _ => none }
def LexisJoinsWrongFalsely : Prop := lexisJoinsRow.holds Try.pinned (OpenSpec.ofChange lexisJoinsWrong)

/-- 'damasklaw01.LexisBack': WHATEVER THE INPUT: true; the input reads as it did. -/
def lexisBackSpec : ChangeSpec := { name := "lexisBack", fn := fun _ => fun
  | [d] => { results := [.lit (.bool true)], args := [d] }
  | _ => none }
def lexisBackRow : OpenClaim := { program := "ytcedigkknjioeaa", sum := "b98eb656e4fcd24f2ee94b8e72ad28a01e7cd794eed98108b27d7f60e7ef58e4", func := "damask/damasklaw01.LexisBack", spec := "lexisBack", inPlace := ["internal/bytealg.IndexByteString", "internal/abi.NoEscape"], unfollowed := true, recurses := true, apart := false }
def LexisBackSaid : Prop := lexisBackRow.holds Try.pinned (OpenSpec.ofChange lexisBackSpec)

/-- ITS FALSE NEIGHBOUR: 'it returns false'. Refute it at one input. -/
def lexisBackWrong : ChangeSpec := { name := "lexisBack", fn := fun _ => fun
  | [d] => { results := [.lit (.bool false)], args := [d] }
  | _ => none }
def LexisBackWrongFalsely : Prop := lexisBackRow.holds Try.pinned (OpenSpec.ofChange lexisBackWrong)

/-- 'damasklaw01.LexisComment': WHATEVER THE INPUT: true; the input reads as it did. -/
def lexisCommentSpec : ChangeSpec := { name := "lexisComment", fn := fun _ => fun
  | [d1, d2, d3] => { results := [.lit (.bool true)], args := [d1, d2, d3] }
  | _ => none }
def lexisCommentRow : OpenClaim := { program := "ytcedigkknjioeaa", sum := "b98eb656e4fcd24f2ee94b8e72ad28a01e7cd794eed98108b27d7f60e7ef58e4", func := "damask/damasklaw01.LexisComment", spec := "lexisComment", inPlace := ["internal/bytealg.IndexByteString"], unfollowed := true, recurses := true, apart := false }
def LexisCommentSaid : Prop := lexisCommentRow.holds Try.pinned (OpenSpec.ofChange lexisCommentSpec)

/-- ITS FALSE NEIGHBOUR: 'it returns false'. Refute it at one input. -/
def lexisCommentWrong : ChangeSpec := { name := "lexisComment", fn := fun _ => fun
  | [d1, d2, d3] => { results := [.lit (.bool false)], args := [d1, d2, d3] }
  | _ => none }
def LexisCommentWrongFalsely : Prop := lexisCommentRow.holds Try.pinned (OpenSpec.ofChange lexisCommentWrong)

/- THE SECOND FORM. 'bulk': how many values and letters a reading holds, each counted each time it is reached (what is shared counts as often as it is met; a slice's spare places count too). A statement '..UptoSaid' is the law's where the arguments, and the package variables that the reading takes, are together of bulk at most 1048576: NARROWER than '..Said'. Prove '..Said' where nothing that the law and all that it calls make is longer than what came in: it says more and counts as full. Else prove '..UptoSaid'. A law counts once. -/
mutual
def uptoBulk {H : Type} : DataW H → Nat
  | .lit (.string bytes) => bytes.length + 1
  | .lit _ => 1
  | .nil => 1
  | .ptr d => uptoBulk d + 1
  | .slice elems spare => uptoBulkAll elems + uptoBulkAll spare + 1
  | .agg parts => uptoBulkAll parts + 1
  | .iface _ d => uptoBulk d + 1
  | .map entries => uptoBulkEntries entries + 1
  | .held _ => 1
def uptoBulkAll {H : Type} : List (DataW H) → Nat
  | [] => 0
  | d :: r => uptoBulk d + uptoBulkAll r
def uptoBulkEntries {H : Type} : List (Lit × DataW H) → Nat
  | [] => 0
  | x :: r => uptoBulkEntry x + uptoBulkEntries r
def uptoBulkEntry {H : Type} : Lit × DataW H → Nat
  | (.string bytes, d) => bytes.length + uptoBulk d + 1
  | (_, d) => uptoBulk d + 1
 end
def uptoSmall : (H : Type) → List (DataW H) → Bool := fun _ ds => decide (uptoBulkAll ds ≤ 1048576)
def OpenSpec.upto (s : _root_.Go.ChangeSpec) : _root_.Go.OpenSpec := { _root_.Go.OpenSpec.ofChange s with cond := some uptoSmall }

/-- 'damasklaw01.LexisTokens', WHERE WHAT IT READS IS OF BULK AT MOST 1048576: true; the input reads as it did. -/
def lexisTokensUptoRow : OpenClaim := { program := "ytcedigkknjioeaa", sum := "b98eb656e4fcd24f2ee94b8e72ad28a01e7cd794eed98108b27d7f60e7ef58e4", func := "damask/damasklaw01.LexisTokens", spec := "lexisTokens", inPlace := ["internal/bytealg.IndexByteString"], unfollowed := true, recurses := true, apart := false, narrowed := true }
def LexisTokensUptoSaid : Prop := lexisTokensUptoRow.holds Try.pinned (OpenSpec.upto lexisTokensSpec)

/-- 'damasklaw01.LexisNames', WHERE WHAT IT READS IS OF BULK AT MOST 1048576: true; the input reads as it did. -/
def lexisNamesUptoRow : OpenClaim := { program := "ytcedigkknjioeaa", sum := "b98eb656e4fcd24f2ee94b8e72ad28a01e7cd794eed98108b27d7f60e7ef58e4", func := "damask/damasklaw01.LexisNames", spec := "lexisNames", inPlace := ["internal/bytealg.IndexByteString"], unfollowed := true, recurses := true, apart := false, narrowed := true }
def LexisNamesUptoSaid : Prop := lexisNamesUptoRow.holds Try.pinned (OpenSpec.upto lexisNamesSpec)

/-- 'damasklaw01.LexisPlaces', WHERE WHAT IT READS IS OF BULK AT MOST 1048576: true; the input reads as it did. -/
def lexisPlacesUptoRow : OpenClaim := { program := "ytcedigkknjioeaa", sum := "b98eb656e4fcd24f2ee94b8e72ad28a01e7cd794eed98108b27d7f60e7ef58e4", func := "damask/damasklaw01.LexisPlaces", spec := "lexisPlaces", inPlace := ["internal/bytealg.CountString", "internal/bytealg.IndexByteString", "internal/bytealg.IndexString"], unfollowed := true, recurses := true, named := ["internal/bytealg.MaxLen"], apart := false, narrowed := true }
def LexisPlacesUptoSaid : Prop := lexisPlacesUptoRow.holds Try.pinned (OpenSpec.upto lexisPlacesSpec)

/-- 'damasklaw01.LexisJoins', WHERE WHAT IT READS IS OF BULK AT MOST 1048576: true; the input reads as it did. -/
def lexisJoinsUptoRow : OpenClaim := { program := "ytcedigkknjioeaa", sum := "b98eb656e4fcd24f2ee94b8e72ad28a01e7cd794eed98108b27d7f60e7ef58e4", func := "damask/damasklaw01.LexisJoins", spec := "lexisJoins", inPlace := ["internal/bytealg.IndexByteString", "internal/abi.NoEscape"], unfollowed := true, recurses := true, apart := false, narrowed := true }
def LexisJoinsUptoSaid : Prop := lexisJoinsUptoRow.holds Try.pinned (OpenSpec.upto lexisJoinsSpec)

/-- 'damasklaw01.LexisBack', WHERE WHAT IT READS IS OF BULK AT MOST 1048576: true; the input reads as it did. -/
def lexisBackUptoRow : OpenClaim := { program := "ytcedigkknjioeaa", sum := "b98eb656e4fcd24f2ee94b8e72ad28a01e7cd794eed98108b27d7f60e7ef58e4", func := "damask/damasklaw01.LexisBack", spec := "lexisBack", inPlace := ["internal/bytealg.IndexByteString", "internal/abi.NoEscape"], unfollowed := true, recurses := true, apart := false, narrowed := true }
def LexisBackUptoSaid : Prop := lexisBackUptoRow.holds Try.pinned (OpenSpec.upto lexisBackSpec)

/-- 'damasklaw01.LexisComment', WHERE WHAT IT READS IS OF BULK AT MOST 1048576: true; the input reads as it did. -/
def lexisCommentUptoRow : OpenClaim := { program := "ytcedigkknjioeaa", sum := "b98eb656e4fcd24f2ee94b8e72ad28a01e7cd794eed98108b27d7f60e7ef58e4", func := "damask/damasklaw01.LexisComment", spec := "lexisComment", inPlace := ["internal/bytealg.IndexByteString"], unfollowed := true, recurses := true, apart := false, narrowed := true }
def LexisCommentUptoSaid : Prop := lexisCommentUptoRow.holds Try.pinned (OpenSpec.upto lexisCommentSpec)

end Rows
end Go.Proofs.Ytcedigkknjioeaa
