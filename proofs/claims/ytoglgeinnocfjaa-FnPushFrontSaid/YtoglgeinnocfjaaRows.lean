/-
  No cell of these rows narrows 'for every input' (looked for: loops, veiled, ifaces, maps, wideKeys, modest, calm, conditions, laid).
  DERIVED. THE GIVEN ROWS OF THIS SEAT. 12 by the template 'for every input the law returns true; each argument reads behind the call as it read before'; 0 by the template 'total and deterministic' (their statements: YtoglgeinnocfjaaTotals.lean).
  GIVEN WITH THE SEED: the statements are not yours to turn. If you find one false, say at which input.
  Laid BY PROGRAM, IN A SANDBOX (cutbox-rows.mjs): the forced cells as the released guide's own fill.sh prints them over the translation c9dd6d0933b0d7b6… (all of the seat's roots in one cut). By AI agents, Wed Nov 11 2026. No macro, syntax, notation, axiom, sorry.
-/
import Derived.Test.YtoglgeinnocfjaaChecked
import GoSem.Claim
import GoSem.ClaimJoined
import GoSem.ClaimMapViews
import Derived.JoinedTies
import Derived.KernelRfl
namespace Go.Proofs.Ytoglgeinnocfjaa
/- THE CELL 'sum', in the pinned program and in every row, IS THE sha256 OF THE DUMP (.gsa) THAT YtoglgeinnocfjaaProg.lean LOADS. Nothing in Lean hashes anything: it is a label: what it is worth is what the hold of that sum in a sandbox is worth. -/
noncomputable def Try.pinned : Pinned := { name := "ytoglgeinnocfjaa", sum := "c9dd6d0933b0d7b60247630238d7d144507ca15d1b3df4764b3bde5ca0449ca8", checked := Try.checked }
namespace Rows
def none {H : Type} : Left H := { results := [], args := [] }

/-- 'laws.FnPushFront': WHATEVER THE INPUT: true; the input reads as it did. -/
def fnPushFrontSpec : ChangeSpec := { name := "fnPushFront", fn := fun _ => fun
  | [d] => { results := [.lit (.bool true)], args := [d] }
  | _ => none }
def fnPushFrontRow : OpenClaim := { program := "ytoglgeinnocfjaa", sum := "c9dd6d0933b0d7b60247630238d7d144507ca15d1b3df4764b3bde5ca0449ca8", func := "loop.example/tallychains/laws.FnPushFront", spec := "fnPushFront", apart := false }
def FnPushFrontSaid : Prop := fnPushFrontRow.holds Try.pinned (OpenSpec.ofChange fnPushFrontSpec)

/-- ITS FALSE NEIGHBOUR: 'it returns false'. Refute it at one input. -/
def fnPushFrontWrong : ChangeSpec := { name := "fnPushFront", fn := fun _ => fun
  | [d] => { results := [.lit (.bool false)], args := [d] }
  | _ => none }
def FnPushFrontWrongFalsely : Prop := fnPushFrontRow.holds Try.pinned (OpenSpec.ofChange fnPushFrontWrong)

/-- 'laws.FnExtendBack': WHATEVER THE INPUT: true; the input reads as it did. -/
def fnExtendBackSpec : ChangeSpec := { name := "fnExtendBack", fn := fun _ => fun
  | [d] => { results := [.lit (.bool true)], args := [d] }
  | _ => none }
def fnExtendBackRow : OpenClaim := { program := "ytoglgeinnocfjaa", sum := "c9dd6d0933b0d7b60247630238d7d144507ca15d1b3df4764b3bde5ca0449ca8", func := "loop.example/tallychains/laws.FnExtendBack", spec := "fnExtendBack", apart := false }
def FnExtendBackSaid : Prop := fnExtendBackRow.holds Try.pinned (OpenSpec.ofChange fnExtendBackSpec)

/-- ITS FALSE NEIGHBOUR: 'it returns false'. Refute it at one input. -/
def fnExtendBackWrong : ChangeSpec := { name := "fnExtendBack", fn := fun _ => fun
  | [d] => { results := [.lit (.bool false)], args := [d] }
  | _ => none }
def FnExtendBackWrongFalsely : Prop := fnExtendBackRow.holds Try.pinned (OpenSpec.ofChange fnExtendBackWrong)

/-- 'laws.FnInsertAt': WHATEVER THE INPUT: true; the input reads as it did. -/
def fnInsertAtSpec : ChangeSpec := { name := "fnInsertAt", fn := fun _ => fun
  | [d] => { results := [.lit (.bool true)], args := [d] }
  | _ => none }
def fnInsertAtRow : OpenClaim := { program := "ytoglgeinnocfjaa", sum := "c9dd6d0933b0d7b60247630238d7d144507ca15d1b3df4764b3bde5ca0449ca8", func := "loop.example/tallychains/laws.FnInsertAt", spec := "fnInsertAt", apart := false }
def FnInsertAtSaid : Prop := fnInsertAtRow.holds Try.pinned (OpenSpec.ofChange fnInsertAtSpec)

/-- ITS FALSE NEIGHBOUR: 'it returns false'. Refute it at one input. -/
def fnInsertAtWrong : ChangeSpec := { name := "fnInsertAt", fn := fun _ => fun
  | [d] => { results := [.lit (.bool false)], args := [d] }
  | _ => none }
def FnInsertAtWrongFalsely : Prop := fnInsertAtRow.holds Try.pinned (OpenSpec.ofChange fnInsertAtWrong)

/-- 'laws.FnAddDeques': WHATEVER THE INPUT: true; the input reads as it did. -/
def fnAddDequesSpec : ChangeSpec := { name := "fnAddDeques", fn := fun _ => fun
  | [d] => { results := [.lit (.bool true)], args := [d] }
  | _ => none }
def fnAddDequesRow : OpenClaim := { program := "ytoglgeinnocfjaa", sum := "c9dd6d0933b0d7b60247630238d7d144507ca15d1b3df4764b3bde5ca0449ca8", func := "loop.example/tallychains/laws.FnAddDeques", spec := "fnAddDeques", apart := false }
def FnAddDequesSaid : Prop := fnAddDequesRow.holds Try.pinned (OpenSpec.ofChange fnAddDequesSpec)

/-- ITS FALSE NEIGHBOUR: 'it returns false'. Refute it at one input. -/
def fnAddDequesWrong : ChangeSpec := { name := "fnAddDeques", fn := fun _ => fun
  | [d] => { results := [.lit (.bool false)], args := [d] }
  | _ => none }
def FnAddDequesWrongFalsely : Prop := fnAddDequesRow.holds Try.pinned (OpenSpec.ofChange fnAddDequesWrong)

/-- 'laws.FnCompareDeques': WHATEVER THE INPUT: true; the input reads as it did. -/
def fnCompareDequesSpec : ChangeSpec := { name := "fnCompareDeques", fn := fun _ => fun
  | [d] => { results := [.lit (.bool true)], args := [d] }
  | _ => none }
def fnCompareDequesRow : OpenClaim := { program := "ytoglgeinnocfjaa", sum := "c9dd6d0933b0d7b60247630238d7d144507ca15d1b3df4764b3bde5ca0449ca8", func := "loop.example/tallychains/laws.FnCompareDeques", spec := "fnCompareDeques", apart := false }
def FnCompareDequesSaid : Prop := fnCompareDequesRow.holds Try.pinned (OpenSpec.ofChange fnCompareDequesSpec)

/-- ITS FALSE NEIGHBOUR: 'it returns false'. Refute it at one input. -/
def fnCompareDequesWrong : ChangeSpec := { name := "fnCompareDeques", fn := fun _ => fun
  | [d] => { results := [.lit (.bool false)], args := [d] }
  | _ => none }
def FnCompareDequesWrongFalsely : Prop := fnCompareDequesRow.holds Try.pinned (OpenSpec.ofChange fnCompareDequesWrong)

/-- 'laws.FnWindowSums': WHATEVER THE INPUT: true; the input reads as it did. -/
def fnWindowSumsSpec : ChangeSpec := { name := "fnWindowSums", fn := fun _ => fun
  | [d] => { results := [.lit (.bool true)], args := [d] }
  | _ => none }
def fnWindowSumsRow : OpenClaim := { program := "ytoglgeinnocfjaa", sum := "c9dd6d0933b0d7b60247630238d7d144507ca15d1b3df4764b3bde5ca0449ca8", func := "loop.example/tallychains/laws.FnWindowSums", spec := "fnWindowSums", apart := false }
def FnWindowSumsSaid : Prop := fnWindowSumsRow.holds Try.pinned (OpenSpec.ofChange fnWindowSumsSpec)

/-- ITS FALSE NEIGHBOUR: 'it returns false'. Refute it at one input. -/
def fnWindowSumsWrong : ChangeSpec := { name := "fnWindowSums", fn := fun _ => fun
  | [d] => { results := [.lit (.bool false)], args := [d] }
  | _ => none }
def FnWindowSumsWrongFalsely : Prop := fnWindowSumsRow.holds Try.pinned (OpenSpec.ofChange fnWindowSumsWrong)

/-- 'laws.FnValidChain': WHATEVER THE INPUT: true; the input reads as it did. -/
def fnValidChainSpec : ChangeSpec := { name := "fnValidChain", fn := fun _ => fun
  | [d] => { results := [.lit (.bool true)], args := [d] }
  | _ => none }
def fnValidChainRow : OpenClaim := { program := "ytoglgeinnocfjaa", sum := "c9dd6d0933b0d7b60247630238d7d144507ca15d1b3df4764b3bde5ca0449ca8", func := "loop.example/tallychains/laws.FnValidChain", spec := "fnValidChain", apart := false }
def FnValidChainSaid : Prop := fnValidChainRow.holds Try.pinned (OpenSpec.ofChange fnValidChainSpec)

/-- ITS FALSE NEIGHBOUR: 'it returns false'. Refute it at one input. -/
def fnValidChainWrong : ChangeSpec := { name := "fnValidChain", fn := fun _ => fun
  | [d] => { results := [.lit (.bool false)], args := [d] }
  | _ => none }
def FnValidChainWrongFalsely : Prop := fnValidChainRow.holds Try.pinned (OpenSpec.ofChange fnValidChainWrong)

/-- 'laws.FnWhereIs': WHATEVER THE INPUT: true; the input reads as it did. -/
def fnWhereIsSpec : ChangeSpec := { name := "fnWhereIs", fn := fun _ => fun
  | [d] => { results := [.lit (.bool true)], args := [d] }
  | _ => none }
def fnWhereIsRow : OpenClaim := { program := "ytoglgeinnocfjaa", sum := "c9dd6d0933b0d7b60247630238d7d144507ca15d1b3df4764b3bde5ca0449ca8", func := "loop.example/tallychains/laws.FnWhereIs", spec := "fnWhereIs", unfollowed := true, recurses := true, apart := false }
def FnWhereIsSaid : Prop := fnWhereIsRow.holds Try.pinned (OpenSpec.ofChange fnWhereIsSpec)

/-- ITS FALSE NEIGHBOUR: 'it returns false'. Refute it at one input. -/
def fnWhereIsWrong : ChangeSpec := { name := "fnWhereIs", fn := fun _ => fun
  | [d] => { results := [.lit (.bool false)], args := [d] }
  | _ => none }
def FnWhereIsWrongFalsely : Prop := fnWhereIsRow.holds Try.pinned (OpenSpec.ofChange fnWhereIsWrong)

/-- 'laws.FnChainPut': WHATEVER THE INPUT: true; the input reads as it did. -/
def fnChainPutSpec : ChangeSpec := { name := "fnChainPut", fn := fun _ => fun
  | [d] => { results := [.lit (.bool true)], args := [d] }
  | _ => none }
def fnChainPutRow : OpenClaim := { program := "ytoglgeinnocfjaa", sum := "c9dd6d0933b0d7b60247630238d7d144507ca15d1b3df4764b3bde5ca0449ca8", func := "loop.example/tallychains/laws.FnChainPut", spec := "fnChainPut", unfollowed := true, recurses := true, apart := false }
def FnChainPutSaid : Prop := fnChainPutRow.holds Try.pinned (OpenSpec.ofChange fnChainPutSpec)

/-- ITS FALSE NEIGHBOUR: 'it returns false'. Refute it at one input. -/
def fnChainPutWrong : ChangeSpec := { name := "fnChainPut", fn := fun _ => fun
  | [d] => { results := [.lit (.bool false)], args := [d] }
  | _ => none }
def FnChainPutWrongFalsely : Prop := fnChainPutRow.holds Try.pinned (OpenSpec.ofChange fnChainPutWrong)

/-- 'laws.FnDeepDrop': WHATEVER THE INPUT: true; the input reads as it did. -/
def fnDeepDropSpec : ChangeSpec := { name := "fnDeepDrop", fn := fun _ => fun
  | [d] => { results := [.lit (.bool true)], args := [d] }
  | _ => none }
def fnDeepDropRow : OpenClaim := { program := "ytoglgeinnocfjaa", sum := "c9dd6d0933b0d7b60247630238d7d144507ca15d1b3df4764b3bde5ca0449ca8", func := "loop.example/tallychains/laws.FnDeepDrop", spec := "fnDeepDrop", unfollowed := true, recurses := true, apart := false }
def FnDeepDropSaid : Prop := fnDeepDropRow.holds Try.pinned (OpenSpec.ofChange fnDeepDropSpec)

/-- ITS FALSE NEIGHBOUR: 'it returns false'. Refute it at one input. -/
def fnDeepDropWrong : ChangeSpec := { name := "fnDeepDrop", fn := fun _ => fun
  | [d] => { results := [.lit (.bool false)], args := [d] }
  | _ => none }
def FnDeepDropWrongFalsely : Prop := fnDeepDropRow.holds Try.pinned (OpenSpec.ofChange fnDeepDropWrong)

/-- 'laws.FnHowOften': WHATEVER THE INPUT: true; the input reads as it did. -/
def fnHowOftenSpec : ChangeSpec := { name := "fnHowOften", fn := fun _ => fun
  | [d] => { results := [.lit (.bool true)], args := [d] }
  | _ => none }
def fnHowOftenRow : OpenClaim := { program := "ytoglgeinnocfjaa", sum := "c9dd6d0933b0d7b60247630238d7d144507ca15d1b3df4764b3bde5ca0449ca8", func := "loop.example/tallychains/laws.FnHowOften", spec := "fnHowOften", unfollowed := true, recurses := true, apart := false }
def FnHowOftenSaid : Prop := fnHowOftenRow.holds Try.pinned (OpenSpec.ofChange fnHowOftenSpec)

/-- ITS FALSE NEIGHBOUR: 'it returns false'. Refute it at one input. -/
def fnHowOftenWrong : ChangeSpec := { name := "fnHowOften", fn := fun _ => fun
  | [d] => { results := [.lit (.bool false)], args := [d] }
  | _ => none }
def FnHowOftenWrongFalsely : Prop := fnHowOftenRow.holds Try.pinned (OpenSpec.ofChange fnHowOftenWrong)

/-- 'laws.FnHiddenIn': WHATEVER THE INPUT: true; the input reads as it did. -/
def fnHiddenInSpec : ChangeSpec := { name := "fnHiddenIn", fn := fun _ => fun
  | [d] => { results := [.lit (.bool true)], args := [d] }
  | _ => none }
def fnHiddenInRow : OpenClaim := { program := "ytoglgeinnocfjaa", sum := "c9dd6d0933b0d7b60247630238d7d144507ca15d1b3df4764b3bde5ca0449ca8", func := "loop.example/tallychains/laws.FnHiddenIn", spec := "fnHiddenIn", unfollowed := true, recurses := true, apart := false }
def FnHiddenInSaid : Prop := fnHiddenInRow.holds Try.pinned (OpenSpec.ofChange fnHiddenInSpec)

/-- ITS FALSE NEIGHBOUR: 'it returns false'. Refute it at one input. -/
def fnHiddenInWrong : ChangeSpec := { name := "fnHiddenIn", fn := fun _ => fun
  | [d] => { results := [.lit (.bool false)], args := [d] }
  | _ => none }
def FnHiddenInWrongFalsely : Prop := fnHiddenInRow.holds Try.pinned (OpenSpec.ofChange fnHiddenInWrong)

/- THE SECOND FORM. 'bulk': how many values and letters a reading holds, each counted each time it is reached (what is shared counts as often as it is met; a slice's spare places count too). A statement '..UptoSaid' is the law's where the arguments, and the package variables that the reading takes, are together of bulk at most 1048576: NARROWER than '..Said'. Prove '..Said' where nothing that the law and all that it calls make is longer than what came in: it says more and counts as full. Else prove '..UptoSaid'. A law counts once. -/
mutual
def uptoBulk {H : Type} : DataW H → Nat
  | .lit (.string bytes) => bytes.length + 1
  | .lit _ => 1
  | .nil => 1
  | .ptr d => uptoBulk d + 1
  | .slice elems spare => uptoBulkAll elems + uptoBulkAll spare + 1
  | .agg parts => uptoBulkAll parts + 1
  | .iface _ d => uptoBulk d + 1
  | .map entries => uptoBulkEntries entries + 1
  | .held _ => 1
def uptoBulkAll {H : Type} : List (DataW H) → Nat
  | [] => 0
  | d :: r => uptoBulk d + uptoBulkAll r
def uptoBulkEntries {H : Type} : List (Lit × DataW H) → Nat
  | [] => 0
  | x :: r => uptoBulkEntry x + uptoBulkEntries r
def uptoBulkEntry {H : Type} : Lit × DataW H → Nat
  | (.string bytes, d) => bytes.length + uptoBulk d + 1
  | (_, d) => uptoBulk d + 1
 end
def uptoSmall : (H : Type) → List (DataW H) → Bool := fun _ ds => decide (uptoBulkAll ds ≤ 1048576)
def OpenSpec.upto (s : _root_.Go.ChangeSpec) : _root_.Go.OpenSpec := { _root_.Go.OpenSpec.ofChange s with cond := some uptoSmall }

/-- 'laws.FnPushFront', WHERE WHAT IT READS IS OF BULK AT MOST 1048576: true; the input reads as it did. -/
def fnPushFrontUptoRow : OpenClaim := { program := "ytoglgeinnocfjaa", sum := "c9dd6d0933b0d7b60247630238d7d144507ca15d1b3df4764b3bde5ca0449ca8", func := "loop.example/tallychains/laws.FnPushFront", spec := "fnPushFront", apart := false, narrowed := true }
def FnPushFrontUptoSaid : Prop := fnPushFrontUptoRow.holds Try.pinned (OpenSpec.upto fnPushFrontSpec)

/-- 'laws.FnExtendBack', WHERE WHAT IT READS IS OF BULK AT MOST 1048576: true; the input reads as it did. -/
def fnExtendBackUptoRow : OpenClaim := { program := "ytoglgeinnocfjaa", sum := "c9dd6d0933b0d7b60247630238d7d144507ca15d1b3df4764b3bde5ca0449ca8", func := "loop.example/tallychains/laws.FnExtendBack", spec := "fnExtendBack", apart := false, narrowed := true }
def FnExtendBackUptoSaid : Prop := fnExtendBackUptoRow.holds Try.pinned (OpenSpec.upto fnExtendBackSpec)

/-- 'laws.FnInsertAt', WHERE WHAT IT READS IS OF BULK AT MOST 1048576: true; the input reads as it did. -/
def fnInsertAtUptoRow : OpenClaim := { program := "ytoglgeinnocfjaa", sum := "c9dd6d0933b0d7b60247630238d7d144507ca15d1b3df4764b3bde5ca0449ca8", func := "loop.example/tallychains/laws.FnInsertAt", spec := "fnInsertAt", apart := false, narrowed := true }
def FnInsertAtUptoSaid : Prop := fnInsertAtUptoRow.holds Try.pinned (OpenSpec.upto fnInsertAtSpec)

/-- 'laws.FnAddDeques', WHERE WHAT IT READS IS OF BULK AT MOST 1048576: true; the input reads as it did. -/
def fnAddDequesUptoRow : OpenClaim := { program := "ytoglgeinnocfjaa", sum := "c9dd6d0933b0d7b60247630238d7d144507ca15d1b3df4764b3bde5ca0449ca8", func := "loop.example/tallychains/laws.FnAddDeques", spec := "fnAddDeques", apart := false, narrowed := true }
def FnAddDequesUptoSaid : Prop := fnAddDequesUptoRow.holds Try.pinned (OpenSpec.upto fnAddDequesSpec)

/-- 'laws.FnCompareDeques', WHERE WHAT IT READS IS OF BULK AT MOST 1048576: true; the input reads as it did. -/
def fnCompareDequesUptoRow : OpenClaim := { program := "ytoglgeinnocfjaa", sum := "c9dd6d0933b0d7b60247630238d7d144507ca15d1b3df4764b3bde5ca0449ca8", func := "loop.example/tallychains/laws.FnCompareDeques", spec := "fnCompareDeques", apart := false, narrowed := true }
def FnCompareDequesUptoSaid : Prop := fnCompareDequesUptoRow.holds Try.pinned (OpenSpec.upto fnCompareDequesSpec)

/-- 'laws.FnWindowSums', WHERE WHAT IT READS IS OF BULK AT MOST 1048576: true; the input reads as it did. -/
def fnWindowSumsUptoRow : OpenClaim := { program := "ytoglgeinnocfjaa", sum := "c9dd6d0933b0d7b60247630238d7d144507ca15d1b3df4764b3bde5ca0449ca8", func := "loop.example/tallychains/laws.FnWindowSums", spec := "fnWindowSums", apart := false, narrowed := true }
def FnWindowSumsUptoSaid : Prop := fnWindowSumsUptoRow.holds Try.pinned (OpenSpec.upto fnWindowSumsSpec)

/-- 'laws.FnValidChain', WHERE WHAT IT READS IS OF BULK AT MOST 1048576: true; the input reads as it did. -/
def fnValidChainUptoRow : OpenClaim := { program := "ytoglgeinnocfjaa", sum := "c9dd6d0933b0d7b60247630238d7d144507ca15d1b3df4764b3bde5ca0449ca8", func := "loop.example/tallychains/laws.FnValidChain", spec := "fnValidChain", apart := false, narrowed := true }
def FnValidChainUptoSaid : Prop := fnValidChainUptoRow.holds Try.pinned (OpenSpec.upto fnValidChainSpec)

/-- 'laws.FnWhereIs', WHERE WHAT IT READS IS OF BULK AT MOST 1048576: true; the input reads as it did. -/
def fnWhereIsUptoRow : OpenClaim := { program := "ytoglgeinnocfjaa", sum := "c9dd6d0933b0d7b60247630238d7d144507ca15d1b3df4764b3bde5ca0449ca8", func := "loop.example/tallychains/laws.FnWhereIs", spec := "fnWhereIs", unfollowed := true, recurses := true, apart := false, narrowed := true }
def FnWhereIsUptoSaid : Prop := fnWhereIsUptoRow.holds Try.pinned (OpenSpec.upto fnWhereIsSpec)

/-- 'laws.FnChainPut', WHERE WHAT IT READS IS OF BULK AT MOST 1048576: true; the input reads as it did. -/
def fnChainPutUptoRow : OpenClaim := { program := "ytoglgeinnocfjaa", sum := "c9dd6d0933b0d7b60247630238d7d144507ca15d1b3df4764b3bde5ca0449ca8", func := "loop.example/tallychains/laws.FnChainPut", spec := "fnChainPut", unfollowed := true, recurses := true, apart := false, narrowed := true }
def FnChainPutUptoSaid : Prop := fnChainPutUptoRow.holds Try.pinned (OpenSpec.upto fnChainPutSpec)

/-- 'laws.FnDeepDrop', WHERE WHAT IT READS IS OF BULK AT MOST 1048576: true; the input reads as it did. -/
def fnDeepDropUptoRow : OpenClaim := { program := "ytoglgeinnocfjaa", sum := "c9dd6d0933b0d7b60247630238d7d144507ca15d1b3df4764b3bde5ca0449ca8", func := "loop.example/tallychains/laws.FnDeepDrop", spec := "fnDeepDrop", unfollowed := true, recurses := true, apart := false, narrowed := true }
def FnDeepDropUptoSaid : Prop := fnDeepDropUptoRow.holds Try.pinned (OpenSpec.upto fnDeepDropSpec)

/-- 'laws.FnHowOften', WHERE WHAT IT READS IS OF BULK AT MOST 1048576: true; the input reads as it did. -/
def fnHowOftenUptoRow : OpenClaim := { program := "ytoglgeinnocfjaa", sum := "c9dd6d0933b0d7b60247630238d7d144507ca15d1b3df4764b3bde5ca0449ca8", func := "loop.example/tallychains/laws.FnHowOften", spec := "fnHowOften", unfollowed := true, recurses := true, apart := false, narrowed := true }
def FnHowOftenUptoSaid : Prop := fnHowOftenUptoRow.holds Try.pinned (OpenSpec.upto fnHowOftenSpec)

/-- 'laws.FnHiddenIn', WHERE WHAT IT READS IS OF BULK AT MOST 1048576: true; the input reads as it did. -/
def fnHiddenInUptoRow : OpenClaim := { program := "ytoglgeinnocfjaa", sum := "c9dd6d0933b0d7b60247630238d7d144507ca15d1b3df4764b3bde5ca0449ca8", func := "loop.example/tallychains/laws.FnHiddenIn", spec := "fnHiddenIn", unfollowed := true, recurses := true, apart := false, narrowed := true }
def FnHiddenInUptoSaid : Prop := fnHiddenInUptoRow.holds Try.pinned (OpenSpec.upto fnHiddenInSpec)

end Rows
end Go.Proofs.Ytoglgeinnocfjaa
