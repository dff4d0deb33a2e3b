/-
  No cell of these rows narrows 'for every input' (looked for: loops, veiled, ifaces, maps, wideKeys, modest, calm, conditions, laid).
  DERIVED. THE GIVEN ROWS OF THIS SEAT. 12 by the template 'for every input the law returns true; each argument reads behind the call as it read before'; 0 by the template 'total and deterministic' (their statements: YthblobjemaooeaaTotals.lean).
  GIVEN WITH THE SEED: the statements are not yours to turn. If you find one false, say at which input.
  Laid BY PROGRAM, IN A SANDBOX (cutbox-rows.mjs): the forced cells as the released guide's own fill.sh prints them over the translation bb7a45df3261457d… (all of the seat's roots in one cut). By AI agents, Wed Nov 11 2026. No macro, syntax, notation, axiom, sorry.
-/
import Derived.Test.YthblobjemaooeaaChecked
import GoSem.Claim
import GoSem.ClaimJoined
import GoSem.ClaimMapViews
import Derived.JoinedTies
import Derived.KernelRfl
namespace Go.Proofs.Ythblobjemaooeaa
/- THE CELL 'sum', in the pinned program and in every row, IS THE sha256 OF THE DUMP (.gsa) THAT YthblobjemaooeaaProg.lean LOADS. Nothing in Lean hashes anything: it is a label: what it is worth is what the hold of that sum in a sandbox is worth. -/
noncomputable def Try.pinned : Pinned := { name := "ythblobjemaooeaa", sum := "bb7a45df3261457dec8e6139c442bb6590a4d1b160adbebf3540d2efe5c5736f", checked := Try.checked }
namespace Rows
def none {H : Type} : Left H := { results := [], args := [] }

/-- 'laws.FnPushBack': WHATEVER THE INPUT: true; the input reads as it did. -/
def fnPushBackSpec : ChangeSpec := { name := "fnPushBack", fn := fun _ => fun
  | [d] => { results := [.lit (.bool true)], args := [d] }
  | _ => none }
def fnPushBackRow : OpenClaim := { program := "ythblobjemaooeaa", sum := "bb7a45df3261457dec8e6139c442bb6590a4d1b160adbebf3540d2efe5c5736f", func := "loop.example/tallychains/laws.FnPushBack", spec := "fnPushBack", apart := false }
def FnPushBackSaid : Prop := fnPushBackRow.holds Try.pinned (OpenSpec.ofChange fnPushBackSpec)

/-- ITS FALSE NEIGHBOUR: 'it returns false'. Refute it at one input. -/
def fnPushBackWrong : ChangeSpec := { name := "fnPushBack", fn := fun _ => fun
  | [d] => { results := [.lit (.bool false)], args := [d] }
  | _ => none }
def FnPushBackWrongFalsely : Prop := fnPushBackRow.holds Try.pinned (OpenSpec.ofChange fnPushBackWrong)

/-- 'laws.FnPushFront': WHATEVER THE INPUT: true; the input reads as it did. -/
def fnPushFrontSpec : ChangeSpec := { name := "fnPushFront", fn := fun _ => fun
  | [d] => { results := [.lit (.bool true)], args := [d] }
  | _ => none }
def fnPushFrontRow : OpenClaim := { program := "ythblobjemaooeaa", sum := "bb7a45df3261457dec8e6139c442bb6590a4d1b160adbebf3540d2efe5c5736f", func := "loop.example/tallychains/laws.FnPushFront", spec := "fnPushFront", apart := false }
def FnPushFrontSaid : Prop := fnPushFrontRow.holds Try.pinned (OpenSpec.ofChange fnPushFrontSpec)

/-- ITS FALSE NEIGHBOUR: 'it returns false'. Refute it at one input. -/
def fnPushFrontWrong : ChangeSpec := { name := "fnPushFront", fn := fun _ => fun
  | [d] => { results := [.lit (.bool false)], args := [d] }
  | _ => none }
def FnPushFrontWrongFalsely : Prop := fnPushFrontRow.holds Try.pinned (OpenSpec.ofChange fnPushFrontWrong)

/-- 'laws.FnExtendBack': WHATEVER THE INPUT: true; the input reads as it did. -/
def fnExtendBackSpec : ChangeSpec := { name := "fnExtendBack", fn := fun _ => fun
  | [d] => { results := [.lit (.bool true)], args := [d] }
  | _ => none }
def fnExtendBackRow : OpenClaim := { program := "ythblobjemaooeaa", sum := "bb7a45df3261457dec8e6139c442bb6590a4d1b160adbebf3540d2efe5c5736f", func := "loop.example/tallychains/laws.FnExtendBack", spec := "fnExtendBack", apart := false }
def FnExtendBackSaid : Prop := fnExtendBackRow.holds Try.pinned (OpenSpec.ofChange fnExtendBackSpec)

/-- ITS FALSE NEIGHBOUR: 'it returns false'. Refute it at one input. -/
def fnExtendBackWrong : ChangeSpec := { name := "fnExtendBack", fn := fun _ => fun
  | [d] => { results := [.lit (.bool false)], args := [d] }
  | _ => none }
def FnExtendBackWrongFalsely : Prop := fnExtendBackRow.holds Try.pinned (OpenSpec.ofChange fnExtendBackWrong)

/-- 'laws.FnRotateDeque': WHATEVER THE INPUT: true; the input reads as it did. -/
def fnRotateDequeSpec : ChangeSpec := { name := "fnRotateDeque", fn := fun _ => fun
  | [d] => { results := [.lit (.bool true)], args := [d] }
  | _ => none }
def fnRotateDequeRow : OpenClaim := { program := "ythblobjemaooeaa", sum := "bb7a45df3261457dec8e6139c442bb6590a4d1b160adbebf3540d2efe5c5736f", func := "loop.example/tallychains/laws.FnRotateDeque", spec := "fnRotateDeque", apart := false }
def FnRotateDequeSaid : Prop := fnRotateDequeRow.holds Try.pinned (OpenSpec.ofChange fnRotateDequeSpec)

/-- ITS FALSE NEIGHBOUR: 'it returns false'. Refute it at one input. -/
def fnRotateDequeWrong : ChangeSpec := { name := "fnRotateDeque", fn := fun _ => fun
  | [d] => { results := [.lit (.bool false)], args := [d] }
  | _ => none }
def FnRotateDequeWrongFalsely : Prop := fnRotateDequeRow.holds Try.pinned (OpenSpec.ofChange fnRotateDequeWrong)

/-- 'laws.FnRotateDequeTurn': WHATEVER THE INPUT: true; the input reads as it did. -/
def fnRotateDequeTurnSpec : ChangeSpec := { name := "fnRotateDequeTurn", fn := fun _ => fun
  | [d] => { results := [.lit (.bool true)], args := [d] }
  | _ => none }
def fnRotateDequeTurnRow : OpenClaim := { program := "ythblobjemaooeaa", sum := "bb7a45df3261457dec8e6139c442bb6590a4d1b160adbebf3540d2efe5c5736f", func := "loop.example/tallychains/laws.FnRotateDequeTurn", spec := "fnRotateDequeTurn", apart := false }
def FnRotateDequeTurnSaid : Prop := fnRotateDequeTurnRow.holds Try.pinned (OpenSpec.ofChange fnRotateDequeTurnSpec)

/-- ITS FALSE NEIGHBOUR: 'it returns false'. Refute it at one input. -/
def fnRotateDequeTurnWrong : ChangeSpec := { name := "fnRotateDequeTurn", fn := fun _ => fun
  | [d] => { results := [.lit (.bool false)], args := [d] }
  | _ => none }
def FnRotateDequeTurnWrongFalsely : Prop := fnRotateDequeTurnRow.holds Try.pinned (OpenSpec.ofChange fnRotateDequeTurnWrong)

/-- 'laws.FnSetAt': WHATEVER THE INPUT: true; the input reads as it did. -/
def fnSetAtSpec : ChangeSpec := { name := "fnSetAt", fn := fun _ => fun
  | [d] => { results := [.lit (.bool true)], args := [d] }
  | _ => none }
def fnSetAtRow : OpenClaim := { program := "ythblobjemaooeaa", sum := "bb7a45df3261457dec8e6139c442bb6590a4d1b160adbebf3540d2efe5c5736f", func := "loop.example/tallychains/laws.FnSetAt", spec := "fnSetAt", apart := false }
def FnSetAtSaid : Prop := fnSetAtRow.holds Try.pinned (OpenSpec.ofChange fnSetAtSpec)

/-- ITS FALSE NEIGHBOUR: 'it returns false'. Refute it at one input. -/
def fnSetAtWrong : ChangeSpec := { name := "fnSetAt", fn := fun _ => fun
  | [d] => { results := [.lit (.bool false)], args := [d] }
  | _ => none }
def FnSetAtWrongFalsely : Prop := fnSetAtRow.holds Try.pinned (OpenSpec.ofChange fnSetAtWrong)

/-- 'laws.FnInsertAt': WHATEVER THE INPUT: true; the input reads as it did. -/
def fnInsertAtSpec : ChangeSpec := { name := "fnInsertAt", fn := fun _ => fun
  | [d] => { results := [.lit (.bool true)], args := [d] }
  | _ => none }
def fnInsertAtRow : OpenClaim := { program := "ythblobjemaooeaa", sum := "bb7a45df3261457dec8e6139c442bb6590a4d1b160adbebf3540d2efe5c5736f", func := "loop.example/tallychains/laws.FnInsertAt", spec := "fnInsertAt", apart := false }
def FnInsertAtSaid : Prop := fnInsertAtRow.holds Try.pinned (OpenSpec.ofChange fnInsertAtSpec)

/-- ITS FALSE NEIGHBOUR: 'it returns false'. Refute it at one input. -/
def fnInsertAtWrong : ChangeSpec := { name := "fnInsertAt", fn := fun _ => fun
  | [d] => { results := [.lit (.bool false)], args := [d] }
  | _ => none }
def FnInsertAtWrongFalsely : Prop := fnInsertAtRow.holds Try.pinned (OpenSpec.ofChange fnInsertAtWrong)

/-- 'laws.FnRemoveFirst': WHATEVER THE INPUT: true; the input reads as it did. -/
def fnRemoveFirstSpec : ChangeSpec := { name := "fnRemoveFirst", fn := fun _ => fun
  | [d] => { results := [.lit (.bool true)], args := [d] }
  | _ => none }
def fnRemoveFirstRow : OpenClaim := { program := "ythblobjemaooeaa", sum := "bb7a45df3261457dec8e6139c442bb6590a4d1b160adbebf3540d2efe5c5736f", func := "loop.example/tallychains/laws.FnRemoveFirst", spec := "fnRemoveFirst", apart := false }
def FnRemoveFirstSaid : Prop := fnRemoveFirstRow.holds Try.pinned (OpenSpec.ofChange fnRemoveFirstSpec)

/-- ITS FALSE NEIGHBOUR: 'it returns false'. Refute it at one input. -/
def fnRemoveFirstWrong : ChangeSpec := { name := "fnRemoveFirst", fn := fun _ => fun
  | [d] => { results := [.lit (.bool false)], args := [d] }
  | _ => none }
def FnRemoveFirstWrongFalsely : Prop := fnRemoveFirstRow.holds Try.pinned (OpenSpec.ofChange fnRemoveFirstWrong)

/-- 'laws.FnWithMost': WHATEVER THE INPUT: true; the input reads as it did. -/
def fnWithMostSpec : ChangeSpec := { name := "fnWithMost", fn := fun _ => fun
  | [d] => { results := [.lit (.bool true)], args := [d] }
  | _ => none }
def fnWithMostRow : OpenClaim := { program := "ythblobjemaooeaa", sum := "bb7a45df3261457dec8e6139c442bb6590a4d1b160adbebf3540d2efe5c5736f", func := "loop.example/tallychains/laws.FnWithMost", spec := "fnWithMost", apart := false }
def FnWithMostSaid : Prop := fnWithMostRow.holds Try.pinned (OpenSpec.ofChange fnWithMostSpec)

/-- ITS FALSE NEIGHBOUR: 'it returns false'. Refute it at one input. -/
def fnWithMostWrong : ChangeSpec := { name := "fnWithMost", fn := fun _ => fun
  | [d] => { results := [.lit (.bool false)], args := [d] }
  | _ => none }
def FnWithMostWrongFalsely : Prop := fnWithMostRow.holds Try.pinned (OpenSpec.ofChange fnWithMostWrong)

/-- 'laws.FnAddDeques': WHATEVER THE INPUT: true; the input reads as it did. -/
def fnAddDequesSpec : ChangeSpec := { name := "fnAddDeques", fn := fun _ => fun
  | [d] => { results := [.lit (.bool true)], args := [d] }
  | _ => none }
def fnAddDequesRow : OpenClaim := { program := "ythblobjemaooeaa", sum := "bb7a45df3261457dec8e6139c442bb6590a4d1b160adbebf3540d2efe5c5736f", func := "loop.example/tallychains/laws.FnAddDeques", spec := "fnAddDeques", apart := false }
def FnAddDequesSaid : Prop := fnAddDequesRow.holds Try.pinned (OpenSpec.ofChange fnAddDequesSpec)

/-- ITS FALSE NEIGHBOUR: 'it returns false'. Refute it at one input. -/
def fnAddDequesWrong : ChangeSpec := { name := "fnAddDeques", fn := fun _ => fun
  | [d] => { results := [.lit (.bool false)], args := [d] }
  | _ => none }
def FnAddDequesWrongFalsely : Prop := fnAddDequesRow.holds Try.pinned (OpenSpec.ofChange fnAddDequesWrong)

/-- 'laws.FnCompareDeques': WHATEVER THE INPUT: true; the input reads as it did. -/
def fnCompareDequesSpec : ChangeSpec := { name := "fnCompareDeques", fn := fun _ => fun
  | [d] => { results := [.lit (.bool true)], args := [d] }
  | _ => none }
def fnCompareDequesRow : OpenClaim := { program := "ythblobjemaooeaa", sum := "bb7a45df3261457dec8e6139c442bb6590a4d1b160adbebf3540d2efe5c5736f", func := "loop.example/tallychains/laws.FnCompareDeques", spec := "fnCompareDeques", apart := false }
def FnCompareDequesSaid : Prop := fnCompareDequesRow.holds Try.pinned (OpenSpec.ofChange fnCompareDequesSpec)

/-- ITS FALSE NEIGHBOUR: 'it returns false'. Refute it at one input. -/
def fnCompareDequesWrong : ChangeSpec := { name := "fnCompareDeques", fn := fun _ => fun
  | [d] => { results := [.lit (.bool false)], args := [d] }
  | _ => none }
def FnCompareDequesWrongFalsely : Prop := fnCompareDequesRow.holds Try.pinned (OpenSpec.ofChange fnCompareDequesWrong)

/-- 'laws.FnWindowSums': WHATEVER THE INPUT: true; the input reads as it did. -/
def fnWindowSumsSpec : ChangeSpec := { name := "fnWindowSums", fn := fun _ => fun
  | [d] => { results := [.lit (.bool true)], args := [d] }
  | _ => none }
def fnWindowSumsRow : OpenClaim := { program := "ythblobjemaooeaa", sum := "bb7a45df3261457dec8e6139c442bb6590a4d1b160adbebf3540d2efe5c5736f", func := "loop.example/tallychains/laws.FnWindowSums", spec := "fnWindowSums", apart := false }
def FnWindowSumsSaid : Prop := fnWindowSumsRow.holds Try.pinned (OpenSpec.ofChange fnWindowSumsSpec)

/-- ITS FALSE NEIGHBOUR: 'it returns false'. Refute it at one input. -/
def fnWindowSumsWrong : ChangeSpec := { name := "fnWindowSums", fn := fun _ => fun
  | [d] => { results := [.lit (.bool false)], args := [d] }
  | _ => none }
def FnWindowSumsWrongFalsely : Prop := fnWindowSumsRow.holds Try.pinned (OpenSpec.ofChange fnWindowSumsWrong)

/- THE SECOND FORM. 'bulk': how many values and letters a reading holds, each counted each time it is reached (what is shared counts as often as it is met; a slice's spare places count too). A statement '..UptoSaid' is the law's where the arguments, and the package variables that the reading takes, are together of bulk at most 1048576: NARROWER than '..Said'. Prove '..Said' where nothing that the law and all that it calls make is longer than what came in: it says more and counts as full. Else prove '..UptoSaid'. A law counts once. -/
mutual
def uptoBulk {H : Type} : DataW H → Nat
  | .lit (.string bytes) => bytes.length + 1
  | .lit _ => 1
  | .nil => 1
  | .ptr d => uptoBulk d + 1
  | .slice elems spare => uptoBulkAll elems + uptoBulkAll spare + 1
  | .agg parts => uptoBulkAll parts + 1
  | .iface _ d => uptoBulk d + 1
  | .map entries => uptoBulkEntries entries + 1
  | .held _ => 1
def uptoBulkAll {H : Type} : List (DataW H) → Nat
  | [] => 0
  | d :: r => uptoBulk d + uptoBulkAll r
def uptoBulkEntries {H : Type} : List (Lit × DataW H) → Nat
  | [] => 0
  | x :: r => uptoBulkEntry x + uptoBulkEntries r
def uptoBulkEntry {H : Type} : Lit × DataW H → Nat
  | (.string bytes, d) => bytes.length + uptoBulk d + 1
  | (_, d) => uptoBulk d + 1
 end
def uptoSmall : (H : Type) → List (DataW H) → Bool := fun _ ds => decide (uptoBulkAll ds ≤ 1048576)
def OpenSpec.upto (s : _root_.Go.ChangeSpec) : _root_.Go.OpenSpec := { _root_.Go.OpenSpec.ofChange s with cond := some uptoSmall }

/-- 'laws.FnPushBack', WHERE WHAT IT READS IS OF BULK AT MOST 1048576: true; the input reads as it did. -/
def fnPushBackUptoRow : OpenClaim := { program := "ythblobjemaooeaa", sum := "bb7a45df3261457dec8e6139c442bb6590a4d1b160adbebf3540d2efe5c5736f", func := "loop.example/tallychains/laws.FnPushBack", spec := "fnPushBack", apart := false, narrowed := true }
def FnPushBackUptoSaid : Prop := fnPushBackUptoRow.holds Try.pinned (OpenSpec.upto fnPushBackSpec)

/-- 'laws.FnPushFront', WHERE WHAT IT READS IS OF BULK AT MOST 1048576: true; the input reads as it did. -/
def fnPushFrontUptoRow : OpenClaim := { program := "ythblobjemaooeaa", sum := "bb7a45df3261457dec8e6139c442bb6590a4d1b160adbebf3540d2efe5c5736f", func := "loop.example/tallychains/laws.FnPushFront", spec := "fnPushFront", apart := false, narrowed := true }
def FnPushFrontUptoSaid : Prop := fnPushFrontUptoRow.holds Try.pinned (OpenSpec.upto fnPushFrontSpec)

/-- 'laws.FnExtendBack', WHERE WHAT IT READS IS OF BULK AT MOST 1048576: true; the input reads as it did. -/
def fnExtendBackUptoRow : OpenClaim := { program := "ythblobjemaooeaa", sum := "bb7a45df3261457dec8e6139c442bb6590a4d1b160adbebf3540d2efe5c5736f", func := "loop.example/tallychains/laws.FnExtendBack", spec := "fnExtendBack", apart := false, narrowed := true }
def FnExtendBackUptoSaid : Prop := fnExtendBackUptoRow.holds Try.pinned (OpenSpec.upto fnExtendBackSpec)

/-- 'laws.FnRotateDeque', WHERE WHAT IT READS IS OF BULK AT MOST 1048576: true; the input reads as it did. -/
def fnRotateDequeUptoRow : OpenClaim := { program := "ythblobjemaooeaa", sum := "bb7a45df3261457dec8e6139c442bb6590a4d1b160adbebf3540d2efe5c5736f", func := "loop.example/tallychains/laws.FnRotateDeque", spec := "fnRotateDeque", apart := false, narrowed := true }
def FnRotateDequeUptoSaid : Prop := fnRotateDequeUptoRow.holds Try.pinned (OpenSpec.upto fnRotateDequeSpec)

/-- 'laws.FnRotateDequeTurn', WHERE WHAT IT READS IS OF BULK AT MOST 1048576: true; the input reads as it did. -/
def fnRotateDequeTurnUptoRow : OpenClaim := { program := "ythblobjemaooeaa", sum := "bb7a45df3261457dec8e6139c442bb6590a4d1b160adbebf3540d2efe5c5736f", func := "loop.example/tallychains/laws.FnRotateDequeTurn", spec := "fnRotateDequeTurn", apart := false, narrowed := true }
def FnRotateDequeTurnUptoSaid : Prop := fnRotateDequeTurnUptoRow.holds Try.pinned (OpenSpec.upto fnRotateDequeTurnSpec)

/-- 'laws.FnSetAt', WHERE WHAT IT READS IS OF BULK AT MOST 1048576: true; the input reads as it did. -/
def fnSetAtUptoRow : OpenClaim := { program := "ythblobjemaooeaa", sum := "bb7a45df3261457dec8e6139c442bb6590a4d1b160adbebf3540d2efe5c5736f", func := "loop.example/tallychains/laws.FnSetAt", spec := "fnSetAt", apart := false, narrowed := true }
def FnSetAtUptoSaid : Prop := fnSetAtUptoRow.holds Try.pinned (OpenSpec.upto fnSetAtSpec)

/-- 'laws.FnInsertAt', WHERE WHAT IT READS IS OF BULK AT MOST 1048576: true; the input reads as it did. -/
def fnInsertAtUptoRow : OpenClaim := { program := "ythblobjemaooeaa", sum := "bb7a45df3261457dec8e6139c442bb6590a4d1b160adbebf3540d2efe5c5736f", func := "loop.example/tallychains/laws.FnInsertAt", spec := "fnInsertAt", apart := false, narrowed := true }
def FnInsertAtUptoSaid : Prop := fnInsertAtUptoRow.holds Try.pinned (OpenSpec.upto fnInsertAtSpec)

/-- 'laws.FnRemoveFirst', WHERE WHAT IT READS IS OF BULK AT MOST 1048576: true; the input reads as it did. -/
def fnRemoveFirstUptoRow : OpenClaim := { program := "ythblobjemaooeaa", sum := "bb7a45df3261457dec8e6139c442bb6590a4d1b160adbebf3540d2efe5c5736f", func := "loop.example/tallychains/laws.FnRemoveFirst", spec := "fnRemoveFirst", apart := false, narrowed := true }
def FnRemoveFirstUptoSaid : Prop := fnRemoveFirstUptoRow.holds Try.pinned (OpenSpec.upto fnRemoveFirstSpec)

/-- 'laws.FnWithMost', WHERE WHAT IT READS IS OF BULK AT MOST 1048576: true; the input reads as it did. -/
def fnWithMostUptoRow : OpenClaim := { program := "ythblobjemaooeaa", sum := "bb7a45df3261457dec8e6139c442bb6590a4d1b160adbebf3540d2efe5c5736f", func := "loop.example/tallychains/laws.FnWithMost", spec := "fnWithMost", apart := false, narrowed := true }
def FnWithMostUptoSaid : Prop := fnWithMostUptoRow.holds Try.pinned (OpenSpec.upto fnWithMostSpec)

/-- 'laws.FnAddDeques', WHERE WHAT IT READS IS OF BULK AT MOST 1048576: true; the input reads as it did. -/
def fnAddDequesUptoRow : OpenClaim := { program := "ythblobjemaooeaa", sum := "bb7a45df3261457dec8e6139c442bb6590a4d1b160adbebf3540d2efe5c5736f", func := "loop.example/tallychains/laws.FnAddDeques", spec := "fnAddDeques", apart := false, narrowed := true }
def FnAddDequesUptoSaid : Prop := fnAddDequesUptoRow.holds Try.pinned (OpenSpec.upto fnAddDequesSpec)

/-- 'laws.FnCompareDeques', WHERE WHAT IT READS IS OF BULK AT MOST 1048576: true; the input reads as it did. -/
def fnCompareDequesUptoRow : OpenClaim := { program := "ythblobjemaooeaa", sum := "bb7a45df3261457dec8e6139c442bb6590a4d1b160adbebf3540d2efe5c5736f", func := "loop.example/tallychains/laws.FnCompareDeques", spec := "fnCompareDeques", apart := false, narrowed := true }
def FnCompareDequesUptoSaid : Prop := fnCompareDequesUptoRow.holds Try.pinned (OpenSpec.upto fnCompareDequesSpec)

/-- 'laws.FnWindowSums', WHERE WHAT IT READS IS OF BULK AT MOST 1048576: true; the input reads as it did. -/
def fnWindowSumsUptoRow : OpenClaim := { program := "ythblobjemaooeaa", sum := "bb7a45df3261457dec8e6139c442bb6590a4d1b160adbebf3540d2efe5c5736f", func := "loop.example/tallychains/laws.FnWindowSums", spec := "fnWindowSums", apart := false, narrowed := true }
def FnWindowSumsUptoSaid : Prop := fnWindowSumsUptoRow.holds Try.pinned (OpenSpec.upto fnWindowSumsSpec)

end Rows
end Go.Proofs.Ythblobjemaooeaa
