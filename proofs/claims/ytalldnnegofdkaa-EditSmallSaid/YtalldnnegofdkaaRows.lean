/-
  No cell of these rows narrows 'for every input' (looked for: loops, veiled, ifaces, maps, wideKeys, modest, calm, conditions, laid).
  DERIVED. THE GIVEN ROWS OF THIS SEAT. 8 by the template 'for every input the law returns true; each argument reads behind the call as it read before'; 0 by the template 'total and deterministic' (their statements: YtalldnnegofdkaaTotals.lean).
  GIVEN WITH THE SEED: the statements are not yours to turn. If you find one false, say at which input.
  Laid BY PROGRAM, IN A SANDBOX (cutbox-rows.mjs): the forced cells as the released guide's own fill.sh prints them over the translation 631ab14f808a20f3… (all of the seat's roots in one cut). By AI agents, Wed Nov 11 2026. No macro, syntax, notation, axiom, sorry.
-/
import Derived.Test.YtalldnnegofdkaaChecked
import GoSem.Claim
import GoSem.ClaimJoined
import GoSem.ClaimMapViews
import Derived.JoinedTies
import Derived.KernelRfl
namespace Go.Proofs.Ytalldnnegofdkaa
/- THE CELL 'sum', in the pinned program and in every row, IS THE sha256 OF THE DUMP (.gsa) THAT YtalldnnegofdkaaProg.lean LOADS. Nothing in Lean hashes anything: it is a label: what it is worth is what the hold of that sum in a sandbox is worth. -/
noncomputable def Try.pinned : Pinned := { name := "ytalldnnegofdkaa", sum := "631ab14f808a20f3ca8a45517e76c97ca42b0bb21526247e0d237f08552e038a", checked := Try.checked }
namespace Rows
def none {H : Type} : Left H := { results := [], args := [] }

/-- 'letterbaglaw06.EditTells': WHATEVER THE INPUT: true; the input reads as it did. -/
def editTellsSpec : ChangeSpec := { name := "editTells", fn := fun _ => fun
  | [d1, d2, d3, d4] => { results := [.lit (.bool true)], args := [d1, d2, d3, d4] }
  | _ => none }
def editTellsRow : OpenClaim := { program := "ytalldnnegofdkaa", sum := "631ab14f808a20f3ca8a45517e76c97ca42b0bb21526247e0d237f08552e038a", func := "letterbag/letterbaglaw06.EditTells", spec := "editTells", inPlace := ["internal/abi.NoEscape"], unfollowed := true, recurses := true, apart := false }
def EditTellsSaid : Prop := editTellsRow.holds Try.pinned (OpenSpec.ofChange editTellsSpec)

/-- ITS FALSE NEIGHBOUR: 'it returns false'. Refute it at one input. -/
def editTellsWrong : ChangeSpec := { name := "editTells", fn := fun _ => fun
  | [d1, d2, d3, d4] => { results := [.lit (.bool false)], args := [d1, d2, d3, d4] }
  | _ => none }
def EditTellsWrongFalsely : Prop := editTellsRow.holds Try.pinned (OpenSpec.ofChange editTellsWrong)

/-- 'letterbaglaw06.EditApplies': WHATEVER THE INPUT: true; the input reads as it did. -/
def editAppliesSpec : ChangeSpec := { name := "editApplies", fn := fun _ => fun
  | [d1, d2, d3] => { results := [.lit (.bool true)], args := [d1, d2, d3] }
  | _ => none }
def editAppliesRow : OpenClaim := { program := "ytalldnnegofdkaa", sum := "631ab14f808a20f3ca8a45517e76c97ca42b0bb21526247e0d237f08552e038a", func := "letterbag/letterbaglaw06.EditApplies", spec := "editApplies", inPlace := ["internal/abi.NoEscape"], unfollowed := true, recurses := true, apart := false }
def EditAppliesSaid : Prop := editAppliesRow.holds Try.pinned (OpenSpec.ofChange editAppliesSpec)

/-- ITS FALSE NEIGHBOUR: 'it returns false'. Refute it at one input. -/
def editAppliesWrong : ChangeSpec := { name := "editApplies", fn := fun _ => fun
  | [d1, d2, d3] => { results := [.lit (.bool false)], args := [d1, d2, d3] }
  | _ => none }
def EditAppliesWrongFalsely : Prop := editAppliesRow.holds Try.pinned (OpenSpec.ofChange editAppliesWrong)

/-- 'letterbaglaw06.EditSmall': WHATEVER THE INPUT: true; the input reads as it did. -/
def editSmallSpec : ChangeSpec := { name := "editSmall", fn := fun _ => fun
  | [] => { results := [.lit (.bool true)], args := [] }
  | _ => none }
def editSmallRow : OpenClaim := { program := "ytalldnnegofdkaa", sum := "631ab14f808a20f3ca8a45517e76c97ca42b0bb21526247e0d237f08552e038a", func := "letterbag/letterbaglaw06.EditSmall", spec := "editSmall", inPlace := ["internal/abi.NoEscape"], unfollowed := true, recurses := true, apart := false }
def EditSmallSaid : Prop := editSmallRow.holds Try.pinned (OpenSpec.ofChange editSmallSpec)

/-- ITS FALSE NEIGHBOUR: 'it returns false'. Refute it at one input. -/
def editSmallWrong : ChangeSpec := { name := "editSmall", fn := fun _ => fun
  | [] => { results := [.lit (.bool false)], args := [] }
  | _ => none }
def EditSmallWrongFalsely : Prop := editSmallRow.holds Try.pinned (OpenSpec.ofChange editSmallWrong)

/-- 'letterbaglaw06.EditLeast': WHATEVER THE INPUT: true; the input reads as it did. -/
def editLeastSpec : ChangeSpec := { name := "editLeast", fn := fun _ => fun
  | [d1, d2, d3] => { results := [.lit (.bool true)], args := [d1, d2, d3] }
  | _ => none }
def editLeastRow : OpenClaim := { program := "ytalldnnegofdkaa", sum := "631ab14f808a20f3ca8a45517e76c97ca42b0bb21526247e0d237f08552e038a", func := "letterbag/letterbaglaw06.EditLeast", spec := "editLeast", inPlace := ["internal/abi.NoEscape"], unfollowed := true, recurses := true, apart := false }
def EditLeastSaid : Prop := editLeastRow.holds Try.pinned (OpenSpec.ofChange editLeastSpec)

/-- ITS FALSE NEIGHBOUR: 'it returns false'. Refute it at one input. -/
def editLeastWrong : ChangeSpec := { name := "editLeast", fn := fun _ => fun
  | [d1, d2, d3] => { results := [.lit (.bool false)], args := [d1, d2, d3] }
  | _ => none }
def EditLeastWrongFalsely : Prop := editLeastRow.holds Try.pinned (OpenSpec.ofChange editLeastWrong)

/-- 'letterbaglaw06.EditMirror': WHATEVER THE INPUT: true; the input reads as it did. -/
def editMirrorSpec : ChangeSpec := { name := "editMirror", fn := fun _ => fun
  | [d1, d2, d3] => { results := [.lit (.bool true)], args := [d1, d2, d3] }
  | _ => none }
def editMirrorRow : OpenClaim := { program := "ytalldnnegofdkaa", sum := "631ab14f808a20f3ca8a45517e76c97ca42b0bb21526247e0d237f08552e038a", func := "letterbag/letterbaglaw06.EditMirror", spec := "editMirror", inPlace := ["internal/abi.NoEscape"], unfollowed := true, recurses := true, apart := false }
def EditMirrorSaid : Prop := editMirrorRow.holds Try.pinned (OpenSpec.ofChange editMirrorSpec)

/-- ITS FALSE NEIGHBOUR: 'it returns false'. Refute it at one input. -/
def editMirrorWrong : ChangeSpec := { name := "editMirror", fn := fun _ => fun
  | [d1, d2, d3] => { results := [.lit (.bool false)], args := [d1, d2, d3] }
  | _ => none }
def EditMirrorWrongFalsely : Prop := editMirrorRow.holds Try.pinned (OpenSpec.ofChange editMirrorWrong)

/-- 'letterbaglaw06.EditJoined': WHATEVER THE INPUT: true; the input reads as it did. -/
def editJoinedSpec : ChangeSpec := { name := "editJoined", fn := fun _ => fun
  | [d1, d2, d3, d4, d5] => { results := [.lit (.bool true)], args := [d1, d2, d3, d4, d5] }
  | _ => none }
def editJoinedRow : OpenClaim := { program := "ytalldnnegofdkaa", sum := "631ab14f808a20f3ca8a45517e76c97ca42b0bb21526247e0d237f08552e038a", func := "letterbag/letterbaglaw06.EditJoined", spec := "editJoined", inPlace := ["internal/abi.NoEscape"], unfollowed := true, recurses := true, apart := false }
def EditJoinedSaid : Prop := editJoinedRow.holds Try.pinned (OpenSpec.ofChange editJoinedSpec)

/-- ITS FALSE NEIGHBOUR: 'it returns false'. Refute it at one input. -/
def editJoinedWrong : ChangeSpec := { name := "editJoined", fn := fun _ => fun
  | [d1, d2, d3, d4, d5] => { results := [.lit (.bool false)], args := [d1, d2, d3, d4, d5] }
  | _ => none }
def EditJoinedWrongFalsely : Prop := editJoinedRow.holds Try.pinned (OpenSpec.ofChange editJoinedWrong)

/-- 'letterbaglaw06.EditDearer': WHATEVER THE INPUT: true; the input reads as it did. -/
def editDearerSpec : ChangeSpec := { name := "editDearer", fn := fun _ => fun
  | [d1, d2, d3, d4, d5] => { results := [.lit (.bool true)], args := [d1, d2, d3, d4, d5] }
  | _ => none }
def editDearerRow : OpenClaim := { program := "ytalldnnegofdkaa", sum := "631ab14f808a20f3ca8a45517e76c97ca42b0bb21526247e0d237f08552e038a", func := "letterbag/letterbaglaw06.EditDearer", spec := "editDearer", inPlace := ["internal/abi.NoEscape"], unfollowed := true, recurses := true, apart := false }
def EditDearerSaid : Prop := editDearerRow.holds Try.pinned (OpenSpec.ofChange editDearerSpec)

/-- ITS FALSE NEIGHBOUR: 'it returns false'. Refute it at one input. -/
def editDearerWrong : ChangeSpec := { name := "editDearer", fn := fun _ => fun
  | [d1, d2, d3, d4, d5] => { results := [.lit (.bool false)], args := [d1, d2, d3, d4, d5] }
  | _ => none }
def EditDearerWrongFalsely : Prop := editDearerRow.holds Try.pinned (OpenSpec.ofChange editDearerWrong)

/-- 'letterbaglaw06.EditFew': WHATEVER THE INPUT: true; the input reads as it did. -/
def editFewSpec : ChangeSpec := { name := "editFew", fn := fun _ => fun
  | [d1, d2, d3] => { results := [.lit (.bool true)], args := [d1, d2, d3] }
  | _ => none }
def editFewRow : OpenClaim := { program := "ytalldnnegofdkaa", sum := "631ab14f808a20f3ca8a45517e76c97ca42b0bb21526247e0d237f08552e038a", func := "letterbag/letterbaglaw06.EditFew", spec := "editFew", inPlace := ["internal/abi.NoEscape"], unfollowed := true, recurses := true, apart := false }
def EditFewSaid : Prop := editFewRow.holds Try.pinned (OpenSpec.ofChange editFewSpec)

/-- ITS FALSE NEIGHBOUR: 'it returns false'. Refute it at one input. -/
def editFewWrong : ChangeSpec := { name := "editFew", fn := fun _ => fun
  | [d1, d2, d3] => { results := [.lit (.bool false)], args := [d1, d2, d3] }
  | _ => none }
def EditFewWrongFalsely : Prop := editFewRow.holds Try.pinned (OpenSpec.ofChange editFewWrong)

/- THE SECOND FORM. 'bulk': how many values and letters a reading holds, each counted each time it is reached (what is shared counts as often as it is met; a slice's spare places count too). A statement '..UptoSaid' is the law's where the arguments, and the package variables that the reading takes, are together of bulk at most 1048576: NARROWER than '..Said'. Prove '..Said' where nothing that the law and all that it calls make is longer than what came in: it says more and counts as full. Else prove '..UptoSaid'. A law counts once. -/
mutual
def uptoBulk {H : Type} : DataW H → Nat
  | .lit (.string bytes) => bytes.length + 1
  | .lit _ => 1
  | .nil => 1
  | .ptr d => uptoBulk d + 1
  | .slice elems spare => uptoBulkAll elems + uptoBulkAll spare + 1
  | .agg parts => uptoBulkAll parts + 1
  | .iface _ d => uptoBulk d + 1
  | .map entries => uptoBulkEntries entries + 1
  | .held _ => 1
def uptoBulkAll {H : Type} : List (DataW H) → Nat
  | [] => 0
  | d :: r => uptoBulk d + uptoBulkAll r
def uptoBulkEntries {H : Type} : List (Lit × DataW H) → Nat
  | [] => 0
  | x :: r => uptoBulkEntry x + uptoBulkEntries r
def uptoBulkEntry {H : Type} : Lit × DataW H → Nat
  | (.string bytes, d) => bytes.length + uptoBulk d + 1
  | (_, d) => uptoBulk d + 1
 end
def uptoSmall : (H : Type) → List (DataW H) → Bool := fun _ ds => decide (uptoBulkAll ds ≤ 1048576)
def OpenSpec.upto (s : _root_.Go.ChangeSpec) : _root_.Go.OpenSpec := { _root_.Go.OpenSpec.ofChange s with cond := some uptoSmall }

/-- 'letterbaglaw06.EditTells', WHERE WHAT IT READS IS OF BULK AT MOST 1048576: true; the input reads as it did. -/
def editTellsUptoRow : OpenClaim := { program := "ytalldnnegofdkaa", sum := "631ab14f808a20f3ca8a45517e76c97ca42b0bb21526247e0d237f08552e038a", func := "letterbag/letterbaglaw06.EditTells", spec := "editTells", inPlace := ["internal/abi.NoEscape"], unfollowed := true, recurses := true, apart := false, narrowed := true }
def EditTellsUptoSaid : Prop := editTellsUptoRow.holds Try.pinned (OpenSpec.upto editTellsSpec)

/-- 'letterbaglaw06.EditApplies', WHERE WHAT IT READS IS OF BULK AT MOST 1048576: true; the input reads as it did. -/
def editAppliesUptoRow : OpenClaim := { program := "ytalldnnegofdkaa", sum := "631ab14f808a20f3ca8a45517e76c97ca42b0bb21526247e0d237f08552e038a", func := "letterbag/letterbaglaw06.EditApplies", spec := "editApplies", inPlace := ["internal/abi.NoEscape"], unfollowed := true, recurses := true, apart := false, narrowed := true }
def EditAppliesUptoSaid : Prop := editAppliesUptoRow.holds Try.pinned (OpenSpec.upto editAppliesSpec)

/-- 'letterbaglaw06.EditSmall', WHERE WHAT IT READS IS OF BULK AT MOST 1048576: true; the input reads as it did. -/
def editSmallUptoRow : OpenClaim := { program := "ytalldnnegofdkaa", sum := "631ab14f808a20f3ca8a45517e76c97ca42b0bb21526247e0d237f08552e038a", func := "letterbag/letterbaglaw06.EditSmall", spec := "editSmall", inPlace := ["internal/abi.NoEscape"], unfollowed := true, recurses := true, apart := false, narrowed := true }
def EditSmallUptoSaid : Prop := editSmallUptoRow.holds Try.pinned (OpenSpec.upto editSmallSpec)

/-- 'letterbaglaw06.EditLeast', WHERE WHAT IT READS IS OF BULK AT MOST 1048576: true; the input reads as it did. -/
def editLeastUptoRow : OpenClaim := { program := "ytalldnnegofdkaa", sum := "631ab14f808a20f3ca8a45517e76c97ca42b0bb21526247e0d237f08552e038a", func := "letterbag/letterbaglaw06.EditLeast", spec := "editLeast", inPlace := ["internal/abi.NoEscape"], unfollowed := true, recurses := true, apart := false, narrowed := true }
def EditLeastUptoSaid : Prop := editLeastUptoRow.holds Try.pinned (OpenSpec.upto editLeastSpec)

/-- 'letterbaglaw06.EditMirror', WHERE WHAT IT READS IS OF BULK AT MOST 1048576: true; the input reads as it did. -/
def editMirrorUptoRow : OpenClaim := { program := "ytalldnnegofdkaa", sum := "631ab14f808a20f3ca8a45517e76c97ca42b0bb21526247e0d237f08552e038a", func := "letterbag/letterbaglaw06.EditMirror", spec := "editMirror", inPlace := ["internal/abi.NoEscape"], unfollowed := true, recurses := true, apart := false, narrowed := true }
def EditMirrorUptoSaid : Prop := editMirrorUptoRow.holds Try.pinned (OpenSpec.upto editMirrorSpec)

/-- 'letterbaglaw06.EditJoined', WHERE WHAT IT READS IS OF BULK AT MOST 1048576: true; the input reads as it did. -/
def editJoinedUptoRow : OpenClaim := { program := "ytalldnnegofdkaa", sum := "631ab14f808a20f3ca8a45517e76c97ca42b0bb21526247e0d237f08552e038a", func := "letterbag/letterbaglaw06.EditJoined", spec := "editJoined", inPlace := ["internal/abi.NoEscape"], unfollowed := true, recurses := true, apart := false, narrowed := true }
def EditJoinedUptoSaid : Prop := editJoinedUptoRow.holds Try.pinned (OpenSpec.upto editJoinedSpec)

/-- 'letterbaglaw06.EditDearer', WHERE WHAT IT READS IS OF BULK AT MOST 1048576: true; the input reads as it did. -/
def editDearerUptoRow : OpenClaim := { program := "ytalldnnegofdkaa", sum := "631ab14f808a20f3ca8a45517e76c97ca42b0bb21526247e0d237f08552e038a", func := "letterbag/letterbaglaw06.EditDearer", spec := "editDearer", inPlace := ["internal/abi.NoEscape"], unfollowed := true, recurses := true, apart := false, narrowed := true }
def EditDearerUptoSaid : Prop := editDearerUptoRow.holds Try.pinned (OpenSpec.upto editDearerSpec)

/-- 'letterbaglaw06.EditFew', WHERE WHAT IT READS IS OF BULK AT MOST 1048576: true; the input reads as it did. -/
def editFewUptoRow : OpenClaim := { program := "ytalldnnegofdkaa", sum := "631ab14f808a20f3ca8a45517e76c97ca42b0bb21526247e0d237f08552e038a", func := "letterbag/letterbaglaw06.EditFew", spec := "editFew", inPlace := ["internal/abi.NoEscape"], unfollowed := true, recurses := true, apart := false, narrowed := true }
def EditFewUptoSaid : Prop := editFewUptoRow.holds Try.pinned (OpenSpec.upto editFewSpec)

end Rows
end Go.Proofs.Ytalldnnegofdkaa
