/-
  No cell of these rows narrows 'for every input' (looked for: loops, veiled, ifaces, maps, wideKeys, modest, calm, conditions, laid).
  DERIVED. THE GIVEN ROWS OF THIS SEAT. 12 by the template 'for every input the law returns true; each argument reads behind the call as it read before'; 0 by the template 'total and deterministic' (their statements: YtfooiijfminlnaaTotals.lean).
  GIVEN WITH THE SEED: the statements are not yours to turn. If you find one false, say at which input.
  Laid BY PROGRAM, IN A SANDBOX (cutbox-rows.mjs): the forced cells as the released guide's own fill.sh prints them over the translation ba16c49eac6e19ff… (all of the seat's roots in one cut). By AI agents, Wed Nov 11 2026. No macro, syntax, notation, axiom, sorry.
-/
import Derived.Test.YtfooiijfminlnaaChecked
import GoSem.Claim
import GoSem.ClaimJoined
import GoSem.ClaimMapViews
import Derived.JoinedTies
import Derived.KernelRfl
namespace Go.Proofs.Ytfooiijfminlnaa
/- THE CELL 'sum', in the pinned program and in every row, IS THE sha256 OF THE DUMP (.gsa) THAT YtfooiijfminlnaaProg.lean LOADS. Nothing in Lean hashes anything: it is a label: what it is worth is what the hold of that sum in a sandbox is worth. -/
noncomputable def Try.pinned : Pinned := { name := "ytfooiijfminlnaa", sum := "ba16c49eac6e19ff04e2ab235e5a717590941379f58c897bb5294c832e3fa248", checked := Try.checked }
namespace Rows
def none {H : Type} : Left H := { results := [], args := [] }

/-- 'laws.FnTurnDeque': WHATEVER THE INPUT: true; the input reads as it did. -/
def fnTurnDequeSpec : ChangeSpec := { name := "fnTurnDeque", fn := fun _ => fun
  | [d] => { results := [.lit (.bool true)], args := [d] }
  | _ => none }
def fnTurnDequeRow : OpenClaim := { program := "ytfooiijfminlnaa", sum := "ba16c49eac6e19ff04e2ab235e5a717590941379f58c897bb5294c832e3fa248", func := "loop.example/tallychains/laws.FnTurnDeque", spec := "fnTurnDeque", apart := false }
def FnTurnDequeSaid : Prop := fnTurnDequeRow.holds Try.pinned (OpenSpec.ofChange fnTurnDequeSpec)

/-- ITS FALSE NEIGHBOUR: 'it returns false'. Refute it at one input. -/
def fnTurnDequeWrong : ChangeSpec := { name := "fnTurnDeque", fn := fun _ => fun
  | [d] => { results := [.lit (.bool false)], args := [d] }
  | _ => none }
def FnTurnDequeWrongFalsely : Prop := fnTurnDequeRow.holds Try.pinned (OpenSpec.ofChange fnTurnDequeWrong)

/-- 'laws.FnGetAt': WHATEVER THE INPUT: true; the input reads as it did. -/
def fnGetAtSpec : ChangeSpec := { name := "fnGetAt", fn := fun _ => fun
  | [d] => { results := [.lit (.bool true)], args := [d] }
  | _ => none }
def fnGetAtRow : OpenClaim := { program := "ytfooiijfminlnaa", sum := "ba16c49eac6e19ff04e2ab235e5a717590941379f58c897bb5294c832e3fa248", func := "loop.example/tallychains/laws.FnGetAt", spec := "fnGetAt", apart := false }
def FnGetAtSaid : Prop := fnGetAtRow.holds Try.pinned (OpenSpec.ofChange fnGetAtSpec)

/-- ITS FALSE NEIGHBOUR: 'it returns false'. Refute it at one input. -/
def fnGetAtWrong : ChangeSpec := { name := "fnGetAt", fn := fun _ => fun
  | [d] => { results := [.lit (.bool false)], args := [d] }
  | _ => none }
def FnGetAtWrongFalsely : Prop := fnGetAtRow.holds Try.pinned (OpenSpec.ofChange fnGetAtWrong)

/-- 'laws.FnPopBack': WHATEVER THE INPUT: true; the input reads as it did. -/
def fnPopBackSpec : ChangeSpec := { name := "fnPopBack", fn := fun _ => fun
  | [d] => { results := [.lit (.bool true)], args := [d] }
  | _ => none }
def fnPopBackRow : OpenClaim := { program := "ytfooiijfminlnaa", sum := "ba16c49eac6e19ff04e2ab235e5a717590941379f58c897bb5294c832e3fa248", func := "loop.example/tallychains/laws.FnPopBack", spec := "fnPopBack", apart := false }
def FnPopBackSaid : Prop := fnPopBackRow.holds Try.pinned (OpenSpec.ofChange fnPopBackSpec)

/-- ITS FALSE NEIGHBOUR: 'it returns false'. Refute it at one input. -/
def fnPopBackWrong : ChangeSpec := { name := "fnPopBack", fn := fun _ => fun
  | [d] => { results := [.lit (.bool false)], args := [d] }
  | _ => none }
def FnPopBackWrongFalsely : Prop := fnPopBackRow.holds Try.pinned (OpenSpec.ofChange fnPopBackWrong)

/-- 'laws.FnPopFront': WHATEVER THE INPUT: true; the input reads as it did. -/
def fnPopFrontSpec : ChangeSpec := { name := "fnPopFront", fn := fun _ => fun
  | [d] => { results := [.lit (.bool true)], args := [d] }
  | _ => none }
def fnPopFrontRow : OpenClaim := { program := "ytfooiijfminlnaa", sum := "ba16c49eac6e19ff04e2ab235e5a717590941379f58c897bb5294c832e3fa248", func := "loop.example/tallychains/laws.FnPopFront", spec := "fnPopFront", apart := false }
def FnPopFrontSaid : Prop := fnPopFrontRow.holds Try.pinned (OpenSpec.ofChange fnPopFrontSpec)

/-- ITS FALSE NEIGHBOUR: 'it returns false'. Refute it at one input. -/
def fnPopFrontWrong : ChangeSpec := { name := "fnPopFront", fn := fun _ => fun
  | [d] => { results := [.lit (.bool false)], args := [d] }
  | _ => none }
def FnPopFrontWrongFalsely : Prop := fnPopFrontRow.holds Try.pinned (OpenSpec.ofChange fnPopFrontWrong)

/-- 'laws.FnPushBack': WHATEVER THE INPUT: true; the input reads as it did. -/
def fnPushBackSpec : ChangeSpec := { name := "fnPushBack", fn := fun _ => fun
  | [d] => { results := [.lit (.bool true)], args := [d] }
  | _ => none }
def fnPushBackRow : OpenClaim := { program := "ytfooiijfminlnaa", sum := "ba16c49eac6e19ff04e2ab235e5a717590941379f58c897bb5294c832e3fa248", func := "loop.example/tallychains/laws.FnPushBack", spec := "fnPushBack", apart := false }
def FnPushBackSaid : Prop := fnPushBackRow.holds Try.pinned (OpenSpec.ofChange fnPushBackSpec)

/-- ITS FALSE NEIGHBOUR: 'it returns false'. Refute it at one input. -/
def fnPushBackWrong : ChangeSpec := { name := "fnPushBack", fn := fun _ => fun
  | [d] => { results := [.lit (.bool false)], args := [d] }
  | _ => none }
def FnPushBackWrongFalsely : Prop := fnPushBackRow.holds Try.pinned (OpenSpec.ofChange fnPushBackWrong)

/-- 'laws.FnPushFront': WHATEVER THE INPUT: true; the input reads as it did. -/
def fnPushFrontSpec : ChangeSpec := { name := "fnPushFront", fn := fun _ => fun
  | [d] => { results := [.lit (.bool true)], args := [d] }
  | _ => none }
def fnPushFrontRow : OpenClaim := { program := "ytfooiijfminlnaa", sum := "ba16c49eac6e19ff04e2ab235e5a717590941379f58c897bb5294c832e3fa248", func := "loop.example/tallychains/laws.FnPushFront", spec := "fnPushFront", apart := false }
def FnPushFrontSaid : Prop := fnPushFrontRow.holds Try.pinned (OpenSpec.ofChange fnPushFrontSpec)

/-- ITS FALSE NEIGHBOUR: 'it returns false'. Refute it at one input. -/
def fnPushFrontWrong : ChangeSpec := { name := "fnPushFront", fn := fun _ => fun
  | [d] => { results := [.lit (.bool false)], args := [d] }
  | _ => none }
def FnPushFrontWrongFalsely : Prop := fnPushFrontRow.holds Try.pinned (OpenSpec.ofChange fnPushFrontWrong)

/-- 'laws.FnValidDeque': WHATEVER THE INPUT: true; the input reads as it did. -/
def fnValidDequeSpec : ChangeSpec := { name := "fnValidDeque", fn := fun _ => fun
  | [d] => { results := [.lit (.bool true)], args := [d] }
  | _ => none }
def fnValidDequeRow : OpenClaim := { program := "ytfooiijfminlnaa", sum := "ba16c49eac6e19ff04e2ab235e5a717590941379f58c897bb5294c832e3fa248", func := "loop.example/tallychains/laws.FnValidDeque", spec := "fnValidDeque", apart := false }
def FnValidDequeSaid : Prop := fnValidDequeRow.holds Try.pinned (OpenSpec.ofChange fnValidDequeSpec)

/-- ITS FALSE NEIGHBOUR: 'it returns false'. Refute it at one input. -/
def fnValidDequeWrong : ChangeSpec := { name := "fnValidDeque", fn := fun _ => fun
  | [d] => { results := [.lit (.bool false)], args := [d] }
  | _ => none }
def FnValidDequeWrongFalsely : Prop := fnValidDequeRow.holds Try.pinned (OpenSpec.ofChange fnValidDequeWrong)

/-- 'laws.FnRotateDeque': WHATEVER THE INPUT: true; the input reads as it did. -/
def fnRotateDequeSpec : ChangeSpec := { name := "fnRotateDeque", fn := fun _ => fun
  | [d] => { results := [.lit (.bool true)], args := [d] }
  | _ => none }
def fnRotateDequeRow : OpenClaim := { program := "ytfooiijfminlnaa", sum := "ba16c49eac6e19ff04e2ab235e5a717590941379f58c897bb5294c832e3fa248", func := "loop.example/tallychains/laws.FnRotateDeque", spec := "fnRotateDeque", apart := false }
def FnRotateDequeSaid : Prop := fnRotateDequeRow.holds Try.pinned (OpenSpec.ofChange fnRotateDequeSpec)

/-- ITS FALSE NEIGHBOUR: 'it returns false'. Refute it at one input. -/
def fnRotateDequeWrong : ChangeSpec := { name := "fnRotateDeque", fn := fun _ => fun
  | [d] => { results := [.lit (.bool false)], args := [d] }
  | _ => none }
def FnRotateDequeWrongFalsely : Prop := fnRotateDequeRow.holds Try.pinned (OpenSpec.ofChange fnRotateDequeWrong)

/-- 'laws.FnRotateDequeTurn': WHATEVER THE INPUT: true; the input reads as it did. -/
def fnRotateDequeTurnSpec : ChangeSpec := { name := "fnRotateDequeTurn", fn := fun _ => fun
  | [d] => { results := [.lit (.bool true)], args := [d] }
  | _ => none }
def fnRotateDequeTurnRow : OpenClaim := { program := "ytfooiijfminlnaa", sum := "ba16c49eac6e19ff04e2ab235e5a717590941379f58c897bb5294c832e3fa248", func := "loop.example/tallychains/laws.FnRotateDequeTurn", spec := "fnRotateDequeTurn", apart := false }
def FnRotateDequeTurnSaid : Prop := fnRotateDequeTurnRow.holds Try.pinned (OpenSpec.ofChange fnRotateDequeTurnSpec)

/-- ITS FALSE NEIGHBOUR: 'it returns false'. Refute it at one input. -/
def fnRotateDequeTurnWrong : ChangeSpec := { name := "fnRotateDequeTurn", fn := fun _ => fun
  | [d] => { results := [.lit (.bool false)], args := [d] }
  | _ => none }
def FnRotateDequeTurnWrongFalsely : Prop := fnRotateDequeTurnRow.holds Try.pinned (OpenSpec.ofChange fnRotateDequeTurnWrong)

/-- 'laws.FnWithMost': WHATEVER THE INPUT: true; the input reads as it did. -/
def fnWithMostSpec : ChangeSpec := { name := "fnWithMost", fn := fun _ => fun
  | [d] => { results := [.lit (.bool true)], args := [d] }
  | _ => none }
def fnWithMostRow : OpenClaim := { program := "ytfooiijfminlnaa", sum := "ba16c49eac6e19ff04e2ab235e5a717590941379f58c897bb5294c832e3fa248", func := "loop.example/tallychains/laws.FnWithMost", spec := "fnWithMost", apart := false }
def FnWithMostSaid : Prop := fnWithMostRow.holds Try.pinned (OpenSpec.ofChange fnWithMostSpec)

/-- ITS FALSE NEIGHBOUR: 'it returns false'. Refute it at one input. -/
def fnWithMostWrong : ChangeSpec := { name := "fnWithMost", fn := fun _ => fun
  | [d] => { results := [.lit (.bool false)], args := [d] }
  | _ => none }
def FnWithMostWrongFalsely : Prop := fnWithMostRow.holds Try.pinned (OpenSpec.ofChange fnWithMostWrong)

/-- 'laws.FnRemoveFirst': WHATEVER THE INPUT: true; the input reads as it did. -/
def fnRemoveFirstSpec : ChangeSpec := { name := "fnRemoveFirst", fn := fun _ => fun
  | [d] => { results := [.lit (.bool true)], args := [d] }
  | _ => none }
def fnRemoveFirstRow : OpenClaim := { program := "ytfooiijfminlnaa", sum := "ba16c49eac6e19ff04e2ab235e5a717590941379f58c897bb5294c832e3fa248", func := "loop.example/tallychains/laws.FnRemoveFirst", spec := "fnRemoveFirst", apart := false }
def FnRemoveFirstSaid : Prop := fnRemoveFirstRow.holds Try.pinned (OpenSpec.ofChange fnRemoveFirstSpec)

/-- ITS FALSE NEIGHBOUR: 'it returns false'. Refute it at one input. -/
def fnRemoveFirstWrong : ChangeSpec := { name := "fnRemoveFirst", fn := fun _ => fun
  | [d] => { results := [.lit (.bool false)], args := [d] }
  | _ => none }
def FnRemoveFirstWrongFalsely : Prop := fnRemoveFirstRow.holds Try.pinned (OpenSpec.ofChange fnRemoveFirstWrong)

/-- 'laws.FnIndexIn': WHATEVER THE INPUT: true; the input reads as it did. -/
def fnIndexInSpec : ChangeSpec := { name := "fnIndexIn", fn := fun _ => fun
  | [d] => { results := [.lit (.bool true)], args := [d] }
  | _ => none }
def fnIndexInRow : OpenClaim := { program := "ytfooiijfminlnaa", sum := "ba16c49eac6e19ff04e2ab235e5a717590941379f58c897bb5294c832e3fa248", func := "loop.example/tallychains/laws.FnIndexIn", spec := "fnIndexIn", apart := false }
def FnIndexInSaid : Prop := fnIndexInRow.holds Try.pinned (OpenSpec.ofChange fnIndexInSpec)

/-- ITS FALSE NEIGHBOUR: 'it returns false'. Refute it at one input. -/
def fnIndexInWrong : ChangeSpec := { name := "fnIndexIn", fn := fun _ => fun
  | [d] => { results := [.lit (.bool false)], args := [d] }
  | _ => none }
def FnIndexInWrongFalsely : Prop := fnIndexInRow.holds Try.pinned (OpenSpec.ofChange fnIndexInWrong)

/- THE SECOND FORM. 'bulk': how many values and letters a reading holds, each counted each time it is reached (what is shared counts as often as it is met; a slice's spare places count too). A statement '..UptoSaid' is the law's where the arguments, and the package variables that the reading takes, are together of bulk at most 1048576: NARROWER than '..Said'. Prove '..Said' where nothing that the law and all that it calls make is longer than what came in: it says more and counts as full. Else prove '..UptoSaid'. A law counts once. -/
mutual
def uptoBulk {H : Type} : DataW H → Nat
  | .lit (.string bytes) => bytes.length + 1
  | .lit _ => 1
  | .nil => 1
  | .ptr d => uptoBulk d + 1
  | .slice elems spare => uptoBulkAll elems + uptoBulkAll spare + 1
  | .agg parts => uptoBulkAll parts + 1
  | .iface _ d => uptoBulk d + 1
  | .map entries => uptoBulkEntries entries + 1
  | .held _ => 1
def uptoBulkAll {H : Type} : List (DataW H) → Nat
  | [] => 0
  | d :: r => uptoBulk d + uptoBulkAll r
def uptoBulkEntries {H : Type} : List (Lit × DataW H) → Nat
  | [] => 0
  | x :: r => uptoBulkEntry x + uptoBulkEntries r
def uptoBulkEntry {H : Type} : Lit × DataW H → Nat
  | (.string bytes, d) => bytes.length + uptoBulk d + 1
  | (_, d) => uptoBulk d + 1
 end
def uptoSmall : (H : Type) → List (DataW H) → Bool := fun _ ds => decide (uptoBulkAll ds ≤ 1048576)
def OpenSpec.upto (s : _root_.Go.ChangeSpec) : _root_.Go.OpenSpec := { _root_.Go.OpenSpec.ofChange s with cond := some uptoSmall }

/-- 'laws.FnTurnDeque', WHERE WHAT IT READS IS OF BULK AT MOST 1048576: true; the input reads as it did. -/
def fnTurnDequeUptoRow : OpenClaim := { program := "ytfooiijfminlnaa", sum := "ba16c49eac6e19ff04e2ab235e5a717590941379f58c897bb5294c832e3fa248", func := "loop.example/tallychains/laws.FnTurnDeque", spec := "fnTurnDeque", apart := false, narrowed := true }
def FnTurnDequeUptoSaid : Prop := fnTurnDequeUptoRow.holds Try.pinned (OpenSpec.upto fnTurnDequeSpec)

/-- 'laws.FnGetAt', WHERE WHAT IT READS IS OF BULK AT MOST 1048576: true; the input reads as it did. -/
def fnGetAtUptoRow : OpenClaim := { program := "ytfooiijfminlnaa", sum := "ba16c49eac6e19ff04e2ab235e5a717590941379f58c897bb5294c832e3fa248", func := "loop.example/tallychains/laws.FnGetAt", spec := "fnGetAt", apart := false, narrowed := true }
def FnGetAtUptoSaid : Prop := fnGetAtUptoRow.holds Try.pinned (OpenSpec.upto fnGetAtSpec)

/-- 'laws.FnPopBack', WHERE WHAT IT READS IS OF BULK AT MOST 1048576: true; the input reads as it did. -/
def fnPopBackUptoRow : OpenClaim := { program := "ytfooiijfminlnaa", sum := "ba16c49eac6e19ff04e2ab235e5a717590941379f58c897bb5294c832e3fa248", func := "loop.example/tallychains/laws.FnPopBack", spec := "fnPopBack", apart := false, narrowed := true }
def FnPopBackUptoSaid : Prop := fnPopBackUptoRow.holds Try.pinned (OpenSpec.upto fnPopBackSpec)

/-- 'laws.FnPopFront', WHERE WHAT IT READS IS OF BULK AT MOST 1048576: true; the input reads as it did. -/
def fnPopFrontUptoRow : OpenClaim := { program := "ytfooiijfminlnaa", sum := "ba16c49eac6e19ff04e2ab235e5a717590941379f58c897bb5294c832e3fa248", func := "loop.example/tallychains/laws.FnPopFront", spec := "fnPopFront", apart := false, narrowed := true }
def FnPopFrontUptoSaid : Prop := fnPopFrontUptoRow.holds Try.pinned (OpenSpec.upto fnPopFrontSpec)

/-- 'laws.FnPushBack', WHERE WHAT IT READS IS OF BULK AT MOST 1048576: true; the input reads as it did. -/
def fnPushBackUptoRow : OpenClaim := { program := "ytfooiijfminlnaa", sum := "ba16c49eac6e19ff04e2ab235e5a717590941379f58c897bb5294c832e3fa248", func := "loop.example/tallychains/laws.FnPushBack", spec := "fnPushBack", apart := false, narrowed := true }
def FnPushBackUptoSaid : Prop := fnPushBackUptoRow.holds Try.pinned (OpenSpec.upto fnPushBackSpec)

/-- 'laws.FnPushFront', WHERE WHAT IT READS IS OF BULK AT MOST 1048576: true; the input reads as it did. -/
def fnPushFrontUptoRow : OpenClaim := { program := "ytfooiijfminlnaa", sum := "ba16c49eac6e19ff04e2ab235e5a717590941379f58c897bb5294c832e3fa248", func := "loop.example/tallychains/laws.FnPushFront", spec := "fnPushFront", apart := false, narrowed := true }
def FnPushFrontUptoSaid : Prop := fnPushFrontUptoRow.holds Try.pinned (OpenSpec.upto fnPushFrontSpec)

/-- 'laws.FnValidDeque', WHERE WHAT IT READS IS OF BULK AT MOST 1048576: true; the input reads as it did. -/
def fnValidDequeUptoRow : OpenClaim := { program := "ytfooiijfminlnaa", sum := "ba16c49eac6e19ff04e2ab235e5a717590941379f58c897bb5294c832e3fa248", func := "loop.example/tallychains/laws.FnValidDeque", spec := "fnValidDeque", apart := false, narrowed := true }
def FnValidDequeUptoSaid : Prop := fnValidDequeUptoRow.holds Try.pinned (OpenSpec.upto fnValidDequeSpec)

/-- 'laws.FnRotateDeque', WHERE WHAT IT READS IS OF BULK AT MOST 1048576: true; the input reads as it did. -/
def fnRotateDequeUptoRow : OpenClaim := { program := "ytfooiijfminlnaa", sum := "ba16c49eac6e19ff04e2ab235e5a717590941379f58c897bb5294c832e3fa248", func := "loop.example/tallychains/laws.FnRotateDeque", spec := "fnRotateDeque", apart := false, narrowed := true }
def FnRotateDequeUptoSaid : Prop := fnRotateDequeUptoRow.holds Try.pinned (OpenSpec.upto fnRotateDequeSpec)

/-- 'laws.FnRotateDequeTurn', WHERE WHAT IT READS IS OF BULK AT MOST 1048576: true; the input reads as it did. -/
def fnRotateDequeTurnUptoRow : OpenClaim := { program := "ytfooiijfminlnaa", sum := "ba16c49eac6e19ff04e2ab235e5a717590941379f58c897bb5294c832e3fa248", func := "loop.example/tallychains/laws.FnRotateDequeTurn", spec := "fnRotateDequeTurn", apart := false, narrowed := true }
def FnRotateDequeTurnUptoSaid : Prop := fnRotateDequeTurnUptoRow.holds Try.pinned (OpenSpec.upto fnRotateDequeTurnSpec)

/-- 'laws.FnWithMost', WHERE WHAT IT READS IS OF BULK AT MOST 1048576: true; the input reads as it did. -/
def fnWithMostUptoRow : OpenClaim := { program := "ytfooiijfminlnaa", sum := "ba16c49eac6e19ff04e2ab235e5a717590941379f58c897bb5294c832e3fa248", func := "loop.example/tallychains/laws.FnWithMost", spec := "fnWithMost", apart := false, narrowed := true }
def FnWithMostUptoSaid : Prop := fnWithMostUptoRow.holds Try.pinned (OpenSpec.upto fnWithMostSpec)

/-- 'laws.FnRemoveFirst', WHERE WHAT IT READS IS OF BULK AT MOST 1048576: true; the input reads as it did. -/
def fnRemoveFirstUptoRow : OpenClaim := { program := "ytfooiijfminlnaa", sum := "ba16c49eac6e19ff04e2ab235e5a717590941379f58c897bb5294c832e3fa248", func := "loop.example/tallychains/laws.FnRemoveFirst", spec := "fnRemoveFirst", apart := false, narrowed := true }
def FnRemoveFirstUptoSaid : Prop := fnRemoveFirstUptoRow.holds Try.pinned (OpenSpec.upto fnRemoveFirstSpec)

/-- 'laws.FnIndexIn', WHERE WHAT IT READS IS OF BULK AT MOST 1048576: true; the input reads as it did. -/
def fnIndexInUptoRow : OpenClaim := { program := "ytfooiijfminlnaa", sum := "ba16c49eac6e19ff04e2ab235e5a717590941379f58c897bb5294c832e3fa248", func := "loop.example/tallychains/laws.FnIndexIn", spec := "fnIndexIn", apart := false, narrowed := true }
def FnIndexInUptoSaid : Prop := fnIndexInUptoRow.holds Try.pinned (OpenSpec.upto fnIndexInSpec)

end Rows
end Go.Proofs.Ytfooiijfminlnaa
