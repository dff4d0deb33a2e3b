/-
  No cell of these rows narrows 'for every input' (looked for: loops, veiled, ifaces, maps, wideKeys, modest, calm, conditions, laid).
  DERIVED. THE GIVEN ROWS OF THIS SEAT. 22 by the template 'for every input the law returns true; each argument reads behind the call as it read before'; 0 by the template 'total and deterministic' (their statements: YtbiflkekhabpoaaTotals.lean).
  GIVEN WITH THE SEED: the statements are not yours to turn. If you find one false, say at which input.
  Laid BY PROGRAM, IN A SANDBOX (cutbox-rows.mjs): the forced cells as the released guide's own fill.sh prints them over the translation a4eee3553be2e4fb… (all of the seat's roots in one cut). By AI agents, Wed Nov 11 2026. No macro, syntax, notation, axiom, sorry.
-/
import Derived.Test.YtbiflkekhabpoaaChecked
import GoSem.Claim
import GoSem.ClaimJoined
import GoSem.ClaimMapViews
import Derived.JoinedTies
import Derived.KernelRfl
namespace Go.Proofs.Ytbiflkekhabpoaa
/- THE CELL 'sum', in the pinned program and in every row, IS THE sha256 OF THE DUMP (.gsa) THAT YtbiflkekhabpoaaProg.lean LOADS. Nothing in Lean hashes anything: it is a label: what it is worth is what the hold of that sum in a sandbox is worth. -/
noncomputable def Try.pinned : Pinned := { name := "ytbiflkekhabpoaa", sum := "a4eee3553be2e4fb36fed18d2e1b55be27be55dbc9963c205696b4d45412ce17", checked := Try.checked }
namespace Rows
def none {H : Type} : Left H := { results := [], args := [] }

/-- 'laws.FnExactValidItems': WHATEVER THE INPUT: true; the input reads as it did. -/
def fnExactValidItemsSpec : ChangeSpec := { name := "fnExactValidItems", fn := fun _ => fun
  | [d] => { results := [.lit (.bool true)], args := [d] }
  | _ => none }
def fnExactValidItemsRow : OpenClaim := { program := "ytbiflkekhabpoaa", sum := "a4eee3553be2e4fb36fed18d2e1b55be27be55dbc9963c205696b4d45412ce17", func := "loop.example/tallychains/laws.FnExactValidItems", spec := "fnExactValidItems", apart := false }
def FnExactValidItemsSaid : Prop := fnExactValidItemsRow.holds Try.pinned (OpenSpec.ofChange fnExactValidItemsSpec)

/-- ITS FALSE NEIGHBOUR: 'it returns false'. Refute it at one input. -/
def fnExactValidItemsWrong : ChangeSpec := { name := "fnExactValidItems", fn := fun _ => fun
  | [d] => { results := [.lit (.bool false)], args := [d] }
  | _ => none }
def FnExactValidItemsWrongFalsely : Prop := fnExactValidItemsRow.holds Try.pinned (OpenSpec.ofChange fnExactValidItemsWrong)

/-- 'laws.FnExactCountOf': WHATEVER THE INPUT: true; the input reads as it did. -/
def fnExactCountOfSpec : ChangeSpec := { name := "fnExactCountOf", fn := fun _ => fun
  | [d1, d2] => { results := [.lit (.bool true)], args := [d1, d2] }
  | _ => none }
def fnExactCountOfRow : OpenClaim := { program := "ytbiflkekhabpoaa", sum := "a4eee3553be2e4fb36fed18d2e1b55be27be55dbc9963c205696b4d45412ce17", func := "loop.example/tallychains/laws.FnExactCountOf", spec := "fnExactCountOf", apart := false }
def FnExactCountOfSaid : Prop := fnExactCountOfRow.holds Try.pinned (OpenSpec.ofChange fnExactCountOfSpec)

/-- ITS FALSE NEIGHBOUR: 'it returns false'. Refute it at one input. -/
def fnExactCountOfWrong : ChangeSpec := { name := "fnExactCountOf", fn := fun _ => fun
  | [d1, d2] => { results := [.lit (.bool false)], args := [d1, d2] }
  | _ => none }
def FnExactCountOfWrongFalsely : Prop := fnExactCountOfRow.holds Try.pinned (OpenSpec.ofChange fnExactCountOfWrong)

/-- 'laws.FnExactCountTexts': WHATEVER THE INPUT: true; the input reads as it did. -/
def fnExactCountTextsSpec : ChangeSpec := { name := "fnExactCountTexts", fn := fun _ => fun
  | [d] => { results := [.lit (.bool true)], args := [d] }
  | _ => none }
def fnExactCountTextsRow : OpenClaim := { program := "ytbiflkekhabpoaa", sum := "a4eee3553be2e4fb36fed18d2e1b55be27be55dbc9963c205696b4d45412ce17", func := "loop.example/tallychains/laws.FnExactCountTexts", spec := "fnExactCountTexts", apart := false }
def FnExactCountTextsSaid : Prop := fnExactCountTextsRow.holds Try.pinned (OpenSpec.ofChange fnExactCountTextsSpec)

/-- ITS FALSE NEIGHBOUR: 'it returns false'. Refute it at one input. -/
def fnExactCountTextsWrong : ChangeSpec := { name := "fnExactCountTexts", fn := fun _ => fun
  | [d] => { results := [.lit (.bool false)], args := [d] }
  | _ => none }
def FnExactCountTextsWrongFalsely : Prop := fnExactCountTextsRow.holds Try.pinned (OpenSpec.ofChange fnExactCountTextsWrong)

/-- 'laws.FnExactUpdateCounts': WHATEVER THE INPUT: true; the input reads as it did. -/
def fnExactUpdateCountsSpec : ChangeSpec := { name := "fnExactUpdateCounts", fn := fun _ => fun
  | [d1, d2] => { results := [.lit (.bool true)], args := [d1, d2] }
  | _ => none }
def fnExactUpdateCountsRow : OpenClaim := { program := "ytbiflkekhabpoaa", sum := "a4eee3553be2e4fb36fed18d2e1b55be27be55dbc9963c205696b4d45412ce17", func := "loop.example/tallychains/laws.FnExactUpdateCounts", spec := "fnExactUpdateCounts", apart := false }
def FnExactUpdateCountsSaid : Prop := fnExactUpdateCountsRow.holds Try.pinned (OpenSpec.ofChange fnExactUpdateCountsSpec)

/-- ITS FALSE NEIGHBOUR: 'it returns false'. Refute it at one input. -/
def fnExactUpdateCountsWrong : ChangeSpec := { name := "fnExactUpdateCounts", fn := fun _ => fun
  | [d1, d2] => { results := [.lit (.bool false)], args := [d1, d2] }
  | _ => none }
def FnExactUpdateCountsWrongFalsely : Prop := fnExactUpdateCountsRow.holds Try.pinned (OpenSpec.ofChange fnExactUpdateCountsWrong)

/-- 'laws.FnExactSubtractCounts': WHATEVER THE INPUT: true; the input reads as it did. -/
def fnExactSubtractCountsSpec : ChangeSpec := { name := "fnExactSubtractCounts", fn := fun _ => fun
  | [d1, d2] => { results := [.lit (.bool true)], args := [d1, d2] }
  | _ => none }
def fnExactSubtractCountsRow : OpenClaim := { program := "ytbiflkekhabpoaa", sum := "a4eee3553be2e4fb36fed18d2e1b55be27be55dbc9963c205696b4d45412ce17", func := "loop.example/tallychains/laws.FnExactSubtractCounts", spec := "fnExactSubtractCounts", apart := false }
def FnExactSubtractCountsSaid : Prop := fnExactSubtractCountsRow.holds Try.pinned (OpenSpec.ofChange fnExactSubtractCountsSpec)

/-- ITS FALSE NEIGHBOUR: 'it returns false'. Refute it at one input. -/
def fnExactSubtractCountsWrong : ChangeSpec := { name := "fnExactSubtractCounts", fn := fun _ => fun
  | [d1, d2] => { results := [.lit (.bool false)], args := [d1, d2] }
  | _ => none }
def FnExactSubtractCountsWrongFalsely : Prop := fnExactSubtractCountsRow.holds Try.pinned (OpenSpec.ofChange fnExactSubtractCountsWrong)

/-- 'laws.FnExactAddCounts': WHATEVER THE INPUT: true; the input reads as it did. -/
def fnExactAddCountsSpec : ChangeSpec := { name := "fnExactAddCounts", fn := fun _ => fun
  | [d1, d2] => { results := [.lit (.bool true)], args := [d1, d2] }
  | _ => none }
def fnExactAddCountsRow : OpenClaim := { program := "ytbiflkekhabpoaa", sum := "a4eee3553be2e4fb36fed18d2e1b55be27be55dbc9963c205696b4d45412ce17", func := "loop.example/tallychains/laws.FnExactAddCounts", spec := "fnExactAddCounts", unfollowed := true, recurses := true, apart := false }
def FnExactAddCountsSaid : Prop := fnExactAddCountsRow.holds Try.pinned (OpenSpec.ofChange fnExactAddCountsSpec)

/-- ITS FALSE NEIGHBOUR: 'it returns false'. Refute it at one input. -/
def fnExactAddCountsWrong : ChangeSpec := { name := "fnExactAddCounts", fn := fun _ => fun
  | [d1, d2] => { results := [.lit (.bool false)], args := [d1, d2] }
  | _ => none }
def FnExactAddCountsWrongFalsely : Prop := fnExactAddCountsRow.holds Try.pinned (OpenSpec.ofChange fnExactAddCountsWrong)

/-- 'laws.FnExactLessCounts': WHATEVER THE INPUT: true; the input reads as it did. -/
def fnExactLessCountsSpec : ChangeSpec := { name := "fnExactLessCounts", fn := fun _ => fun
  | [d1, d2] => { results := [.lit (.bool true)], args := [d1, d2] }
  | _ => none }
def fnExactLessCountsRow : OpenClaim := { program := "ytbiflkekhabpoaa", sum := "a4eee3553be2e4fb36fed18d2e1b55be27be55dbc9963c205696b4d45412ce17", func := "loop.example/tallychains/laws.FnExactLessCounts", spec := "fnExactLessCounts", unfollowed := true, recurses := true, apart := false }
def FnExactLessCountsSaid : Prop := fnExactLessCountsRow.holds Try.pinned (OpenSpec.ofChange fnExactLessCountsSpec)

/-- ITS FALSE NEIGHBOUR: 'it returns false'. Refute it at one input. -/
def fnExactLessCountsWrong : ChangeSpec := { name := "fnExactLessCounts", fn := fun _ => fun
  | [d1, d2] => { results := [.lit (.bool false)], args := [d1, d2] }
  | _ => none }
def FnExactLessCountsWrongFalsely : Prop := fnExactLessCountsRow.holds Try.pinned (OpenSpec.ofChange fnExactLessCountsWrong)

/-- 'laws.FnExactMeetCounts': WHATEVER THE INPUT: true; the input reads as it did. -/
def fnExactMeetCountsSpec : ChangeSpec := { name := "fnExactMeetCounts", fn := fun _ => fun
  | [d1, d2] => { results := [.lit (.bool true)], args := [d1, d2] }
  | _ => none }
def fnExactMeetCountsRow : OpenClaim := { program := "ytbiflkekhabpoaa", sum := "a4eee3553be2e4fb36fed18d2e1b55be27be55dbc9963c205696b4d45412ce17", func := "loop.example/tallychains/laws.FnExactMeetCounts", spec := "fnExactMeetCounts", unfollowed := true, recurses := true, apart := false }
def FnExactMeetCountsSaid : Prop := fnExactMeetCountsRow.holds Try.pinned (OpenSpec.ofChange fnExactMeetCountsSpec)

/-- ITS FALSE NEIGHBOUR: 'it returns false'. Refute it at one input. -/
def fnExactMeetCountsWrong : ChangeSpec := { name := "fnExactMeetCounts", fn := fun _ => fun
  | [d1, d2] => { results := [.lit (.bool false)], args := [d1, d2] }
  | _ => none }
def FnExactMeetCountsWrongFalsely : Prop := fnExactMeetCountsRow.holds Try.pinned (OpenSpec.ofChange fnExactMeetCountsWrong)

/-- 'laws.FnExactJoinCounts': WHATEVER THE INPUT: true; the input reads as it did. -/
def fnExactJoinCountsSpec : ChangeSpec := { name := "fnExactJoinCounts", fn := fun _ => fun
  | [d1, d2] => { results := [.lit (.bool true)], args := [d1, d2] }
  | _ => none }
def fnExactJoinCountsRow : OpenClaim := { program := "ytbiflkekhabpoaa", sum := "a4eee3553be2e4fb36fed18d2e1b55be27be55dbc9963c205696b4d45412ce17", func := "loop.example/tallychains/laws.FnExactJoinCounts", spec := "fnExactJoinCounts", unfollowed := true, recurses := true, apart := false }
def FnExactJoinCountsSaid : Prop := fnExactJoinCountsRow.holds Try.pinned (OpenSpec.ofChange fnExactJoinCountsSpec)

/-- ITS FALSE NEIGHBOUR: 'it returns false'. Refute it at one input. -/
def fnExactJoinCountsWrong : ChangeSpec := { name := "fnExactJoinCounts", fn := fun _ => fun
  | [d1, d2] => { results := [.lit (.bool false)], args := [d1, d2] }
  | _ => none }
def FnExactJoinCountsWrongFalsely : Prop := fnExactJoinCountsRow.holds Try.pinned (OpenSpec.ofChange fnExactJoinCountsWrong)

/-- 'laws.FnExactKeepCounts': WHATEVER THE INPUT: true; the input reads as it did. -/
def fnExactKeepCountsSpec : ChangeSpec := { name := "fnExactKeepCounts", fn := fun _ => fun
  | [d] => { results := [.lit (.bool true)], args := [d] }
  | _ => none }
def fnExactKeepCountsRow : OpenClaim := { program := "ytbiflkekhabpoaa", sum := "a4eee3553be2e4fb36fed18d2e1b55be27be55dbc9963c205696b4d45412ce17", func := "loop.example/tallychains/laws.FnExactKeepCounts", spec := "fnExactKeepCounts", unfollowed := true, recurses := true, apart := false }
def FnExactKeepCountsSaid : Prop := fnExactKeepCountsRow.holds Try.pinned (OpenSpec.ofChange fnExactKeepCountsSpec)

/-- ITS FALSE NEIGHBOUR: 'it returns false'. Refute it at one input. -/
def fnExactKeepCountsWrong : ChangeSpec := { name := "fnExactKeepCounts", fn := fun _ => fun
  | [d] => { results := [.lit (.bool false)], args := [d] }
  | _ => none }
def FnExactKeepCountsWrongFalsely : Prop := fnExactKeepCountsRow.holds Try.pinned (OpenSpec.ofChange fnExactKeepCountsWrong)

/-- 'laws.FnExactTurnCounts': WHATEVER THE INPUT: true; the input reads as it did. -/
def fnExactTurnCountsSpec : ChangeSpec := { name := "fnExactTurnCounts", fn := fun _ => fun
  | [d] => { results := [.lit (.bool true)], args := [d] }
  | _ => none }
def fnExactTurnCountsRow : OpenClaim := { program := "ytbiflkekhabpoaa", sum := "a4eee3553be2e4fb36fed18d2e1b55be27be55dbc9963c205696b4d45412ce17", func := "loop.example/tallychains/laws.FnExactTurnCounts", spec := "fnExactTurnCounts", unfollowed := true, recurses := true, apart := false }
def FnExactTurnCountsSaid : Prop := fnExactTurnCountsRow.holds Try.pinned (OpenSpec.ofChange fnExactTurnCountsSpec)

/-- ITS FALSE NEIGHBOUR: 'it returns false'. Refute it at one input. -/
def fnExactTurnCountsWrong : ChangeSpec := { name := "fnExactTurnCounts", fn := fun _ => fun
  | [d] => { results := [.lit (.bool false)], args := [d] }
  | _ => none }
def FnExactTurnCountsWrongFalsely : Prop := fnExactTurnCountsRow.holds Try.pinned (OpenSpec.ofChange fnExactTurnCountsWrong)

/-- 'laws.FnExactDropZero': WHATEVER THE INPUT: true; the input reads as it did. -/
def fnExactDropZeroSpec : ChangeSpec := { name := "fnExactDropZero", fn := fun _ => fun
  | [d] => { results := [.lit (.bool true)], args := [d] }
  | _ => none }
def fnExactDropZeroRow : OpenClaim := { program := "ytbiflkekhabpoaa", sum := "a4eee3553be2e4fb36fed18d2e1b55be27be55dbc9963c205696b4d45412ce17", func := "loop.example/tallychains/laws.FnExactDropZero", spec := "fnExactDropZero", unfollowed := true, recurses := true, apart := false }
def FnExactDropZeroSaid : Prop := fnExactDropZeroRow.holds Try.pinned (OpenSpec.ofChange fnExactDropZeroSpec)

/-- ITS FALSE NEIGHBOUR: 'it returns false'. Refute it at one input. -/
def fnExactDropZeroWrong : ChangeSpec := { name := "fnExactDropZero", fn := fun _ => fun
  | [d] => { results := [.lit (.bool false)], args := [d] }
  | _ => none }
def FnExactDropZeroWrongFalsely : Prop := fnExactDropZeroRow.holds Try.pinned (OpenSpec.ofChange fnExactDropZeroWrong)

/-- 'laws.FnExactScaleCounts': WHATEVER THE INPUT: true; the input reads as it did. -/
def fnExactScaleCountsSpec : ChangeSpec := { name := "fnExactScaleCounts", fn := fun _ => fun
  | [d1, d2] => { results := [.lit (.bool true)], args := [d1, d2] }
  | _ => none }
def fnExactScaleCountsRow : OpenClaim := { program := "ytbiflkekhabpoaa", sum := "a4eee3553be2e4fb36fed18d2e1b55be27be55dbc9963c205696b4d45412ce17", func := "loop.example/tallychains/laws.FnExactScaleCounts", spec := "fnExactScaleCounts", apart := false }
def FnExactScaleCountsSaid : Prop := fnExactScaleCountsRow.holds Try.pinned (OpenSpec.ofChange fnExactScaleCountsSpec)

/-- ITS FALSE NEIGHBOUR: 'it returns false'. Refute it at one input. -/
def fnExactScaleCountsWrong : ChangeSpec := { name := "fnExactScaleCounts", fn := fun _ => fun
  | [d1, d2] => { results := [.lit (.bool false)], args := [d1, d2] }
  | _ => none }
def FnExactScaleCountsWrongFalsely : Prop := fnExactScaleCountsRow.holds Try.pinned (OpenSpec.ofChange fnExactScaleCountsWrong)

/-- 'laws.FnExactTotalCount': WHATEVER THE INPUT: true; the input reads as it did. -/
def fnExactTotalCountSpec : ChangeSpec := { name := "fnExactTotalCount", fn := fun _ => fun
  | [d] => { results := [.lit (.bool true)], args := [d] }
  | _ => none }
def fnExactTotalCountRow : OpenClaim := { program := "ytbiflkekhabpoaa", sum := "a4eee3553be2e4fb36fed18d2e1b55be27be55dbc9963c205696b4d45412ce17", func := "loop.example/tallychains/laws.FnExactTotalCount", spec := "fnExactTotalCount", apart := false }
def FnExactTotalCountSaid : Prop := fnExactTotalCountRow.holds Try.pinned (OpenSpec.ofChange fnExactTotalCountSpec)

/-- ITS FALSE NEIGHBOUR: 'it returns false'. Refute it at one input. -/
def fnExactTotalCountWrong : ChangeSpec := { name := "fnExactTotalCount", fn := fun _ => fun
  | [d] => { results := [.lit (.bool false)], args := [d] }
  | _ => none }
def FnExactTotalCountWrongFalsely : Prop := fnExactTotalCountRow.holds Try.pinned (OpenSpec.ofChange fnExactTotalCountWrong)

/-- 'laws.FnExactElements': WHATEVER THE INPUT: true; the input reads as it did. -/
def fnExactElementsSpec : ChangeSpec := { name := "fnExactElements", fn := fun _ => fun
  | [d] => { results := [.lit (.bool true)], args := [d] }
  | _ => none }
def fnExactElementsRow : OpenClaim := { program := "ytbiflkekhabpoaa", sum := "a4eee3553be2e4fb36fed18d2e1b55be27be55dbc9963c205696b4d45412ce17", func := "loop.example/tallychains/laws.FnExactElements", spec := "fnExactElements", apart := false }
def FnExactElementsSaid : Prop := fnExactElementsRow.holds Try.pinned (OpenSpec.ofChange fnExactElementsSpec)

/-- ITS FALSE NEIGHBOUR: 'it returns false'. Refute it at one input. -/
def fnExactElementsWrong : ChangeSpec := { name := "fnExactElements", fn := fun _ => fun
  | [d] => { results := [.lit (.bool false)], args := [d] }
  | _ => none }
def FnExactElementsWrongFalsely : Prop := fnExactElementsRow.holds Try.pinned (OpenSpec.ofChange fnExactElementsWrong)

/-- 'laws.FnExactWithinCounts': WHATEVER THE INPUT: true; the input reads as it did. -/
def fnExactWithinCountsSpec : ChangeSpec := { name := "fnExactWithinCounts", fn := fun _ => fun
  | [d1, d2] => { results := [.lit (.bool true)], args := [d1, d2] }
  | _ => none }
def fnExactWithinCountsRow : OpenClaim := { program := "ytbiflkekhabpoaa", sum := "a4eee3553be2e4fb36fed18d2e1b55be27be55dbc9963c205696b4d45412ce17", func := "loop.example/tallychains/laws.FnExactWithinCounts", spec := "fnExactWithinCounts", unfollowed := true, recurses := true, apart := false }
def FnExactWithinCountsSaid : Prop := fnExactWithinCountsRow.holds Try.pinned (OpenSpec.ofChange fnExactWithinCountsSpec)

/-- ITS FALSE NEIGHBOUR: 'it returns false'. Refute it at one input. -/
def fnExactWithinCountsWrong : ChangeSpec := { name := "fnExactWithinCounts", fn := fun _ => fun
  | [d1, d2] => { results := [.lit (.bool false)], args := [d1, d2] }
  | _ => none }
def FnExactWithinCountsWrongFalsely : Prop := fnExactWithinCountsRow.holds Try.pinned (OpenSpec.ofChange fnExactWithinCountsWrong)

/-- 'laws.FnExactSameCounts': WHATEVER THE INPUT: true; the input reads as it did. -/
def fnExactSameCountsSpec : ChangeSpec := { name := "fnExactSameCounts", fn := fun _ => fun
  | [d1, d2] => { results := [.lit (.bool true)], args := [d1, d2] }
  | _ => none }
def fnExactSameCountsRow : OpenClaim := { program := "ytbiflkekhabpoaa", sum := "a4eee3553be2e4fb36fed18d2e1b55be27be55dbc9963c205696b4d45412ce17", func := "loop.example/tallychains/laws.FnExactSameCounts", spec := "fnExactSameCounts", unfollowed := true, recurses := true, apart := false }
def FnExactSameCountsSaid : Prop := fnExactSameCountsRow.holds Try.pinned (OpenSpec.ofChange fnExactSameCountsSpec)

/-- ITS FALSE NEIGHBOUR: 'it returns false'. Refute it at one input. -/
def fnExactSameCountsWrong : ChangeSpec := { name := "fnExactSameCounts", fn := fun _ => fun
  | [d1, d2] => { results := [.lit (.bool false)], args := [d1, d2] }
  | _ => none }
def FnExactSameCountsWrongFalsely : Prop := fnExactSameCountsRow.holds Try.pinned (OpenSpec.ofChange fnExactSameCountsWrong)

/-- 'laws.FnCountTexts': WHATEVER THE INPUT: true; the input reads as it did. -/
def fnCountTextsSpec : ChangeSpec := { name := "fnCountTexts", fn := fun _ => fun
  | [d] => { results := [.lit (.bool true)], args := [d] }
  | _ => none }
def fnCountTextsRow : OpenClaim := { program := "ytbiflkekhabpoaa", sum := "a4eee3553be2e4fb36fed18d2e1b55be27be55dbc9963c205696b4d45412ce17", func := "loop.example/tallychains/laws.FnCountTexts", spec := "fnCountTexts", apart := false }
def FnCountTextsSaid : Prop := fnCountTextsRow.holds Try.pinned (OpenSpec.ofChange fnCountTextsSpec)

/-- ITS FALSE NEIGHBOUR: 'it returns false'. Refute it at one input. -/
def fnCountTextsWrong : ChangeSpec := { name := "fnCountTexts", fn := fun _ => fun
  | [d] => { results := [.lit (.bool false)], args := [d] }
  | _ => none }
def FnCountTextsWrongFalsely : Prop := fnCountTextsRow.holds Try.pinned (OpenSpec.ofChange fnCountTextsWrong)

/-- 'laws.FnAddCounts': WHATEVER THE INPUT: true; the input reads as it did. -/
def fnAddCountsSpec : ChangeSpec := { name := "fnAddCounts", fn := fun _ => fun
  | [d] => { results := [.lit (.bool true)], args := [d] }
  | _ => none }
def fnAddCountsRow : OpenClaim := { program := "ytbiflkekhabpoaa", sum := "a4eee3553be2e4fb36fed18d2e1b55be27be55dbc9963c205696b4d45412ce17", func := "loop.example/tallychains/laws.FnAddCounts", spec := "fnAddCounts", unfollowed := true, recurses := true, apart := false }
def FnAddCountsSaid : Prop := fnAddCountsRow.holds Try.pinned (OpenSpec.ofChange fnAddCountsSpec)

/-- ITS FALSE NEIGHBOUR: 'it returns false'. Refute it at one input. -/
def fnAddCountsWrong : ChangeSpec := { name := "fnAddCounts", fn := fun _ => fun
  | [d] => { results := [.lit (.bool false)], args := [d] }
  | _ => none }
def FnAddCountsWrongFalsely : Prop := fnAddCountsRow.holds Try.pinned (OpenSpec.ofChange fnAddCountsWrong)

/-- 'laws.FnAddCountsChain': WHATEVER THE INPUT: true; the input reads as it did. -/
def fnAddCountsChainSpec : ChangeSpec := { name := "fnAddCountsChain", fn := fun _ => fun
  | [d] => { results := [.lit (.bool true)], args := [d] }
  | _ => none }
def fnAddCountsChainRow : OpenClaim := { program := "ytbiflkekhabpoaa", sum := "a4eee3553be2e4fb36fed18d2e1b55be27be55dbc9963c205696b4d45412ce17", func := "loop.example/tallychains/laws.FnAddCountsChain", spec := "fnAddCountsChain", unfollowed := true, recurses := true, apart := false }
def FnAddCountsChainSaid : Prop := fnAddCountsChainRow.holds Try.pinned (OpenSpec.ofChange fnAddCountsChainSpec)

/-- ITS FALSE NEIGHBOUR: 'it returns false'. Refute it at one input. -/
def fnAddCountsChainWrong : ChangeSpec := { name := "fnAddCountsChain", fn := fun _ => fun
  | [d] => { results := [.lit (.bool false)], args := [d] }
  | _ => none }
def FnAddCountsChainWrongFalsely : Prop := fnAddCountsChainRow.holds Try.pinned (OpenSpec.ofChange fnAddCountsChainWrong)

/-- 'laws.FnScaleCounts': WHATEVER THE INPUT: true; the input reads as it did. -/
def fnScaleCountsSpec : ChangeSpec := { name := "fnScaleCounts", fn := fun _ => fun
  | [d] => { results := [.lit (.bool true)], args := [d] }
  | _ => none }
def fnScaleCountsRow : OpenClaim := { program := "ytbiflkekhabpoaa", sum := "a4eee3553be2e4fb36fed18d2e1b55be27be55dbc9963c205696b4d45412ce17", func := "loop.example/tallychains/laws.FnScaleCounts", spec := "fnScaleCounts", apart := false }
def FnScaleCountsSaid : Prop := fnScaleCountsRow.holds Try.pinned (OpenSpec.ofChange fnScaleCountsSpec)

/-- ITS FALSE NEIGHBOUR: 'it returns false'. Refute it at one input. -/
def fnScaleCountsWrong : ChangeSpec := { name := "fnScaleCounts", fn := fun _ => fun
  | [d] => { results := [.lit (.bool false)], args := [d] }
  | _ => none }
def FnScaleCountsWrongFalsely : Prop := fnScaleCountsRow.holds Try.pinned (OpenSpec.ofChange fnScaleCountsWrong)

/-- 'laws.FnElements': WHATEVER THE INPUT: true; the input reads as it did. -/
def fnElementsSpec : ChangeSpec := { name := "fnElements", fn := fun _ => fun
  | [d] => { results := [.lit (.bool true)], args := [d] }
  | _ => none }
def fnElementsRow : OpenClaim := { program := "ytbiflkekhabpoaa", sum := "a4eee3553be2e4fb36fed18d2e1b55be27be55dbc9963c205696b4d45412ce17", func := "loop.example/tallychains/laws.FnElements", spec := "fnElements", unfollowed := true, recurses := true, apart := false }
def FnElementsSaid : Prop := fnElementsRow.holds Try.pinned (OpenSpec.ofChange fnElementsSpec)

/-- ITS FALSE NEIGHBOUR: 'it returns false'. Refute it at one input. -/
def fnElementsWrong : ChangeSpec := { name := "fnElements", fn := fun _ => fun
  | [d] => { results := [.lit (.bool false)], args := [d] }
  | _ => none }
def FnElementsWrongFalsely : Prop := fnElementsRow.holds Try.pinned (OpenSpec.ofChange fnElementsWrong)

/- THE SECOND FORM. 'bulk': how many values and letters a reading holds, each counted each time it is reached (what is shared counts as often as it is met; a slice's spare places count too). A statement '..UptoSaid' is the law's where the arguments, and the package variables that the reading takes, are together of bulk at most 1048576: NARROWER than '..Said'. Prove '..Said' where nothing that the law and all that it calls make is longer than what came in: it says more and counts as full. Else prove '..UptoSaid'. A law counts once. -/
mutual
def uptoBulk {H : Type} : DataW H → Nat
  | .lit (.string bytes) => bytes.length + 1
  | .lit _ => 1
  | .nil => 1
  | .ptr d => uptoBulk d + 1
  | .slice elems spare => uptoBulkAll elems + uptoBulkAll spare + 1
  | .agg parts => uptoBulkAll parts + 1
  | .iface _ d => uptoBulk d + 1
  | .map entries => uptoBulkEntries entries + 1
  | .held _ => 1
def uptoBulkAll {H : Type} : List (DataW H) → Nat
  | [] => 0
  | d :: r => uptoBulk d + uptoBulkAll r
def uptoBulkEntries {H : Type} : List (Lit × DataW H) → Nat
  | [] => 0
  | x :: r => uptoBulkEntry x + uptoBulkEntries r
def uptoBulkEntry {H : Type} : Lit × DataW H → Nat
  | (.string bytes, d) => bytes.length + uptoBulk d + 1
  | (_, d) => uptoBulk d + 1
 end
def uptoSmall : (H : Type) → List (DataW H) → Bool := fun _ ds => decide (uptoBulkAll ds ≤ 1048576)
def OpenSpec.upto (s : _root_.Go.ChangeSpec) : _root_.Go.OpenSpec := { _root_.Go.OpenSpec.ofChange s with cond := some uptoSmall }

/-- 'laws.FnExactValidItems', WHERE WHAT IT READS IS OF BULK AT MOST 1048576: true; the input reads as it did. -/
def fnExactValidItemsUptoRow : OpenClaim := { program := "ytbiflkekhabpoaa", sum := "a4eee3553be2e4fb36fed18d2e1b55be27be55dbc9963c205696b4d45412ce17", func := "loop.example/tallychains/laws.FnExactValidItems", spec := "fnExactValidItems", apart := false, narrowed := true }
def FnExactValidItemsUptoSaid : Prop := fnExactValidItemsUptoRow.holds Try.pinned (OpenSpec.upto fnExactValidItemsSpec)

/-- 'laws.FnExactCountOf', WHERE WHAT IT READS IS OF BULK AT MOST 1048576: true; the input reads as it did. -/
def fnExactCountOfUptoRow : OpenClaim := { program := "ytbiflkekhabpoaa", sum := "a4eee3553be2e4fb36fed18d2e1b55be27be55dbc9963c205696b4d45412ce17", func := "loop.example/tallychains/laws.FnExactCountOf", spec := "fnExactCountOf", apart := false, narrowed := true }
def FnExactCountOfUptoSaid : Prop := fnExactCountOfUptoRow.holds Try.pinned (OpenSpec.upto fnExactCountOfSpec)

/-- 'laws.FnExactCountTexts', WHERE WHAT IT READS IS OF BULK AT MOST 1048576: true; the input reads as it did. -/
def fnExactCountTextsUptoRow : OpenClaim := { program := "ytbiflkekhabpoaa", sum := "a4eee3553be2e4fb36fed18d2e1b55be27be55dbc9963c205696b4d45412ce17", func := "loop.example/tallychains/laws.FnExactCountTexts", spec := "fnExactCountTexts", apart := false, narrowed := true }
def FnExactCountTextsUptoSaid : Prop := fnExactCountTextsUptoRow.holds Try.pinned (OpenSpec.upto fnExactCountTextsSpec)

/-- 'laws.FnExactUpdateCounts', WHERE WHAT IT READS IS OF BULK AT MOST 1048576: true; the input reads as it did. -/
def fnExactUpdateCountsUptoRow : OpenClaim := { program := "ytbiflkekhabpoaa", sum := "a4eee3553be2e4fb36fed18d2e1b55be27be55dbc9963c205696b4d45412ce17", func := "loop.example/tallychains/laws.FnExactUpdateCounts", spec := "fnExactUpdateCounts", apart := false, narrowed := true }
def FnExactUpdateCountsUptoSaid : Prop := fnExactUpdateCountsUptoRow.holds Try.pinned (OpenSpec.upto fnExactUpdateCountsSpec)

/-- 'laws.FnExactSubtractCounts', WHERE WHAT IT READS IS OF BULK AT MOST 1048576: true; the input reads as it did. -/
def fnExactSubtractCountsUptoRow : OpenClaim := { program := "ytbiflkekhabpoaa", sum := "a4eee3553be2e4fb36fed18d2e1b55be27be55dbc9963c205696b4d45412ce17", func := "loop.example/tallychains/laws.FnExactSubtractCounts", spec := "fnExactSubtractCounts", apart := false, narrowed := true }
def FnExactSubtractCountsUptoSaid : Prop := fnExactSubtractCountsUptoRow.holds Try.pinned (OpenSpec.upto fnExactSubtractCountsSpec)

/-- 'laws.FnExactAddCounts', WHERE WHAT IT READS IS OF BULK AT MOST 1048576: true; the input reads as it did. -/
def fnExactAddCountsUptoRow : OpenClaim := { program := "ytbiflkekhabpoaa", sum := "a4eee3553be2e4fb36fed18d2e1b55be27be55dbc9963c205696b4d45412ce17", func := "loop.example/tallychains/laws.FnExactAddCounts", spec := "fnExactAddCounts", unfollowed := true, recurses := true, apart := false, narrowed := true }
def FnExactAddCountsUptoSaid : Prop := fnExactAddCountsUptoRow.holds Try.pinned (OpenSpec.upto fnExactAddCountsSpec)

/-- 'laws.FnExactLessCounts', WHERE WHAT IT READS IS OF BULK AT MOST 1048576: true; the input reads as it did. -/
def fnExactLessCountsUptoRow : OpenClaim := { program := "ytbiflkekhabpoaa", sum := "a4eee3553be2e4fb36fed18d2e1b55be27be55dbc9963c205696b4d45412ce17", func := "loop.example/tallychains/laws.FnExactLessCounts", spec := "fnExactLessCounts", unfollowed := true, recurses := true, apart := false, narrowed := true }
def FnExactLessCountsUptoSaid : Prop := fnExactLessCountsUptoRow.holds Try.pinned (OpenSpec.upto fnExactLessCountsSpec)

/-- 'laws.FnExactMeetCounts', WHERE WHAT IT READS IS OF BULK AT MOST 1048576: true; the input reads as it did. -/
def fnExactMeetCountsUptoRow : OpenClaim := { program := "ytbiflkekhabpoaa", sum := "a4eee3553be2e4fb36fed18d2e1b55be27be55dbc9963c205696b4d45412ce17", func := "loop.example/tallychains/laws.FnExactMeetCounts", spec := "fnExactMeetCounts", unfollowed := true, recurses := true, apart := false, narrowed := true }
def FnExactMeetCountsUptoSaid : Prop := fnExactMeetCountsUptoRow.holds Try.pinned (OpenSpec.upto fnExactMeetCountsSpec)

/-- 'laws.FnExactJoinCounts', WHERE WHAT IT READS IS OF BULK AT MOST 1048576: true; the input reads as it did. -/
def fnExactJoinCountsUptoRow : OpenClaim := { program := "ytbiflkekhabpoaa", sum := "a4eee3553be2e4fb36fed18d2e1b55be27be55dbc9963c205696b4d45412ce17", func := "loop.example/tallychains/laws.FnExactJoinCounts", spec := "fnExactJoinCounts", unfollowed := true, recurses := true, apart := false, narrowed := true }
def FnExactJoinCountsUptoSaid : Prop := fnExactJoinCountsUptoRow.holds Try.pinned (OpenSpec.upto fnExactJoinCountsSpec)

/-- 'laws.FnExactKeepCounts', WHERE WHAT IT READS IS OF BULK AT MOST 1048576: true; the input reads as it did. -/
def fnExactKeepCountsUptoRow : OpenClaim := { program := "ytbiflkekhabpoaa", sum := "a4eee3553be2e4fb36fed18d2e1b55be27be55dbc9963c205696b4d45412ce17", func := "loop.example/tallychains/laws.FnExactKeepCounts", spec := "fnExactKeepCounts", unfollowed := true, recurses := true, apart := false, narrowed := true }
def FnExactKeepCountsUptoSaid : Prop := fnExactKeepCountsUptoRow.holds Try.pinned (OpenSpec.upto fnExactKeepCountsSpec)

/-- 'laws.FnExactTurnCounts', WHERE WHAT IT READS IS OF BULK AT MOST 1048576: true; the input reads as it did. -/
def fnExactTurnCountsUptoRow : OpenClaim := { program := "ytbiflkekhabpoaa", sum := "a4eee3553be2e4fb36fed18d2e1b55be27be55dbc9963c205696b4d45412ce17", func := "loop.example/tallychains/laws.FnExactTurnCounts", spec := "fnExactTurnCounts", unfollowed := true, recurses := true, apart := false, narrowed := true }
def FnExactTurnCountsUptoSaid : Prop := fnExactTurnCountsUptoRow.holds Try.pinned (OpenSpec.upto fnExactTurnCountsSpec)

/-- 'laws.FnExactDropZero', WHERE WHAT IT READS IS OF BULK AT MOST 1048576: true; the input reads as it did. -/
def fnExactDropZeroUptoRow : OpenClaim := { program := "ytbiflkekhabpoaa", sum := "a4eee3553be2e4fb36fed18d2e1b55be27be55dbc9963c205696b4d45412ce17", func := "loop.example/tallychains/laws.FnExactDropZero", spec := "fnExactDropZero", unfollowed := true, recurses := true, apart := false, narrowed := true }
def FnExactDropZeroUptoSaid : Prop := fnExactDropZeroUptoRow.holds Try.pinned (OpenSpec.upto fnExactDropZeroSpec)

/-- 'laws.FnExactScaleCounts', WHERE WHAT IT READS IS OF BULK AT MOST 1048576: true; the input reads as it did. -/
def fnExactScaleCountsUptoRow : OpenClaim := { program := "ytbiflkekhabpoaa", sum := "a4eee3553be2e4fb36fed18d2e1b55be27be55dbc9963c205696b4d45412ce17", func := "loop.example/tallychains/laws.FnExactScaleCounts", spec := "fnExactScaleCounts", apart := false, narrowed := true }
def FnExactScaleCountsUptoSaid : Prop := fnExactScaleCountsUptoRow.holds Try.pinned (OpenSpec.upto fnExactScaleCountsSpec)

/-- 'laws.FnExactTotalCount', WHERE WHAT IT READS IS OF BULK AT MOST 1048576: true; the input reads as it did. -/
def fnExactTotalCountUptoRow : OpenClaim := { program := "ytbiflkekhabpoaa", sum := "a4eee3553be2e4fb36fed18d2e1b55be27be55dbc9963c205696b4d45412ce17", func := "loop.example/tallychains/laws.FnExactTotalCount", spec := "fnExactTotalCount", apart := false, narrowed := true }
def FnExactTotalCountUptoSaid : Prop := fnExactTotalCountUptoRow.holds Try.pinned (OpenSpec.upto fnExactTotalCountSpec)

/-- 'laws.FnExactElements', WHERE WHAT IT READS IS OF BULK AT MOST 1048576: true; the input reads as it did. -/
def fnExactElementsUptoRow : OpenClaim := { program := "ytbiflkekhabpoaa", sum := "a4eee3553be2e4fb36fed18d2e1b55be27be55dbc9963c205696b4d45412ce17", func := "loop.example/tallychains/laws.FnExactElements", spec := "fnExactElements", apart := false, narrowed := true }
def FnExactElementsUptoSaid : Prop := fnExactElementsUptoRow.holds Try.pinned (OpenSpec.upto fnExactElementsSpec)

/-- 'laws.FnExactWithinCounts', WHERE WHAT IT READS IS OF BULK AT MOST 1048576: true; the input reads as it did. -/
def fnExactWithinCountsUptoRow : OpenClaim := { program := "ytbiflkekhabpoaa", sum := "a4eee3553be2e4fb36fed18d2e1b55be27be55dbc9963c205696b4d45412ce17", func := "loop.example/tallychains/laws.FnExactWithinCounts", spec := "fnExactWithinCounts", unfollowed := true, recurses := true, apart := false, narrowed := true }
def FnExactWithinCountsUptoSaid : Prop := fnExactWithinCountsUptoRow.holds Try.pinned (OpenSpec.upto fnExactWithinCountsSpec)

/-- 'laws.FnExactSameCounts', WHERE WHAT IT READS IS OF BULK AT MOST 1048576: true; the input reads as it did. -/
def fnExactSameCountsUptoRow : OpenClaim := { program := "ytbiflkekhabpoaa", sum := "a4eee3553be2e4fb36fed18d2e1b55be27be55dbc9963c205696b4d45412ce17", func := "loop.example/tallychains/laws.FnExactSameCounts", spec := "fnExactSameCounts", unfollowed := true, recurses := true, apart := false, narrowed := true }
def FnExactSameCountsUptoSaid : Prop := fnExactSameCountsUptoRow.holds Try.pinned (OpenSpec.upto fnExactSameCountsSpec)

/-- 'laws.FnCountTexts', WHERE WHAT IT READS IS OF BULK AT MOST 1048576: true; the input reads as it did. -/
def fnCountTextsUptoRow : OpenClaim := { program := "ytbiflkekhabpoaa", sum := "a4eee3553be2e4fb36fed18d2e1b55be27be55dbc9963c205696b4d45412ce17", func := "loop.example/tallychains/laws.FnCountTexts", spec := "fnCountTexts", apart := false, narrowed := true }
def FnCountTextsUptoSaid : Prop := fnCountTextsUptoRow.holds Try.pinned (OpenSpec.upto fnCountTextsSpec)

/-- 'laws.FnAddCounts', WHERE WHAT IT READS IS OF BULK AT MOST 1048576: true; the input reads as it did. -/
def fnAddCountsUptoRow : OpenClaim := { program := "ytbiflkekhabpoaa", sum := "a4eee3553be2e4fb36fed18d2e1b55be27be55dbc9963c205696b4d45412ce17", func := "loop.example/tallychains/laws.FnAddCounts", spec := "fnAddCounts", unfollowed := true, recurses := true, apart := false, narrowed := true }
def FnAddCountsUptoSaid : Prop := fnAddCountsUptoRow.holds Try.pinned (OpenSpec.upto fnAddCountsSpec)

/-- 'laws.FnAddCountsChain', WHERE WHAT IT READS IS OF BULK AT MOST 1048576: true; the input reads as it did. -/
def fnAddCountsChainUptoRow : OpenClaim := { program := "ytbiflkekhabpoaa", sum := "a4eee3553be2e4fb36fed18d2e1b55be27be55dbc9963c205696b4d45412ce17", func := "loop.example/tallychains/laws.FnAddCountsChain", spec := "fnAddCountsChain", unfollowed := true, recurses := true, apart := false, narrowed := true }
def FnAddCountsChainUptoSaid : Prop := fnAddCountsChainUptoRow.holds Try.pinned (OpenSpec.upto fnAddCountsChainSpec)

/-- 'laws.FnScaleCounts', WHERE WHAT IT READS IS OF BULK AT MOST 1048576: true; the input reads as it did. -/
def fnScaleCountsUptoRow : OpenClaim := { program := "ytbiflkekhabpoaa", sum := "a4eee3553be2e4fb36fed18d2e1b55be27be55dbc9963c205696b4d45412ce17", func := "loop.example/tallychains/laws.FnScaleCounts", spec := "fnScaleCounts", apart := false, narrowed := true }
def FnScaleCountsUptoSaid : Prop := fnScaleCountsUptoRow.holds Try.pinned (OpenSpec.upto fnScaleCountsSpec)

/-- 'laws.FnElements', WHERE WHAT IT READS IS OF BULK AT MOST 1048576: true; the input reads as it did. -/
def fnElementsUptoRow : OpenClaim := { program := "ytbiflkekhabpoaa", sum := "a4eee3553be2e4fb36fed18d2e1b55be27be55dbc9963c205696b4d45412ce17", func := "loop.example/tallychains/laws.FnElements", spec := "fnElements", unfollowed := true, recurses := true, apart := false, narrowed := true }
def FnElementsUptoSaid : Prop := fnElementsUptoRow.holds Try.pinned (OpenSpec.upto fnElementsSpec)

end Rows
end Go.Proofs.Ytbiflkekhabpoaa
