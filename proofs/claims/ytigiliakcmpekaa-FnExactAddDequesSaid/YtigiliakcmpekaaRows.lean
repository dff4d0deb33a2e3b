/-
  No cell of these rows narrows 'for every input' (looked for: loops, veiled, ifaces, maps, wideKeys, modest, calm, conditions, laid).
  DERIVED. THE GIVEN ROWS OF THIS SEAT. 22 by the template 'for every input the law returns true; each argument reads behind the call as it read before'; 0 by the template 'total and deterministic' (their statements: YtigiliakcmpekaaTotals.lean).
  GIVEN WITH THE SEED: the statements are not yours to turn. If you find one false, say at which input.
  Laid BY PROGRAM, IN A SANDBOX (cutbox-rows.mjs): the forced cells as the released guide's own fill.sh prints them over the translation 720b720d95d722b7… (all of the seat's roots in one cut). By AI agents, Wed Nov 11 2026. No macro, syntax, notation, axiom, sorry.
-/
import Derived.Test.YtigiliakcmpekaaChecked
import GoSem.Claim
import GoSem.ClaimJoined
import GoSem.ClaimMapViews
import Derived.JoinedTies
import Derived.KernelRfl
namespace Go.Proofs.Ytigiliakcmpekaa
/- THE CELL 'sum', in the pinned program and in every row, IS THE sha256 OF THE DUMP (.gsa) THAT YtigiliakcmpekaaProg.lean LOADS. Nothing in Lean hashes anything: it is a label: what it is worth is what the hold of that sum in a sandbox is worth. -/
noncomputable def Try.pinned : Pinned := { name := "ytigiliakcmpekaa", sum := "720b720d95d722b734b4739f95ee52c3f677978bdbb086b13aa9217497165435", checked := Try.checked }
namespace Rows
def none {H : Type} : Left H := { results := [], args := [] }

/-- 'laws.FnExactValidSteps': WHATEVER THE INPUT: true; the input reads as it did. -/
def fnExactValidStepsSpec : ChangeSpec := { name := "fnExactValidSteps", fn := fun _ => fun
  | [d] => { results := [.lit (.bool true)], args := [d] }
  | _ => none }
def fnExactValidStepsRow : OpenClaim := { program := "ytigiliakcmpekaa", sum := "720b720d95d722b734b4739f95ee52c3f677978bdbb086b13aa9217497165435", func := "loop.example/tallychains/laws.FnExactValidSteps", spec := "fnExactValidSteps", apart := false }
def FnExactValidStepsSaid : Prop := fnExactValidStepsRow.holds Try.pinned (OpenSpec.ofChange fnExactValidStepsSpec)

/-- ITS FALSE NEIGHBOUR: 'it returns false'. Refute it at one input. -/
def fnExactValidStepsWrong : ChangeSpec := { name := "fnExactValidSteps", fn := fun _ => fun
  | [d] => { results := [.lit (.bool false)], args := [d] }
  | _ => none }
def FnExactValidStepsWrongFalsely : Prop := fnExactValidStepsRow.holds Try.pinned (OpenSpec.ofChange fnExactValidStepsWrong)

/-- 'laws.FnExactWalkItems': WHATEVER THE INPUT: true; the input reads as it did. -/
def fnExactWalkItemsSpec : ChangeSpec := { name := "fnExactWalkItems", fn := fun _ => fun
  | [d1, d2] => { results := [.lit (.bool true)], args := [d1, d2] }
  | _ => none }
def fnExactWalkItemsRow : OpenClaim := { program := "ytigiliakcmpekaa", sum := "720b720d95d722b734b4739f95ee52c3f677978bdbb086b13aa9217497165435", func := "loop.example/tallychains/laws.FnExactWalkItems", spec := "fnExactWalkItems", unfollowed := true, recurses := true, apart := false }
def FnExactWalkItemsSaid : Prop := fnExactWalkItemsRow.holds Try.pinned (OpenSpec.ofChange fnExactWalkItemsSpec)

/-- ITS FALSE NEIGHBOUR: 'it returns false'. Refute it at one input. -/
def fnExactWalkItemsWrong : ChangeSpec := { name := "fnExactWalkItems", fn := fun _ => fun
  | [d1, d2] => { results := [.lit (.bool false)], args := [d1, d2] }
  | _ => none }
def FnExactWalkItemsWrongFalsely : Prop := fnExactWalkItemsRow.holds Try.pinned (OpenSpec.ofChange fnExactWalkItemsWrong)

/-- 'laws.FnExactWalkOrder': WHATEVER THE INPUT: true; the input reads as it did. -/
def fnExactWalkOrderSpec : ChangeSpec := { name := "fnExactWalkOrder", fn := fun _ => fun
  | [d1, d2] => { results := [.lit (.bool true)], args := [d1, d2] }
  | _ => none }
def fnExactWalkOrderRow : OpenClaim := { program := "ytigiliakcmpekaa", sum := "720b720d95d722b734b4739f95ee52c3f677978bdbb086b13aa9217497165435", func := "loop.example/tallychains/laws.FnExactWalkOrder", spec := "fnExactWalkOrder", unfollowed := true, recurses := true, apart := false }
def FnExactWalkOrderSaid : Prop := fnExactWalkOrderRow.holds Try.pinned (OpenSpec.ofChange fnExactWalkOrderSpec)

/-- ITS FALSE NEIGHBOUR: 'it returns false'. Refute it at one input. -/
def fnExactWalkOrderWrong : ChangeSpec := { name := "fnExactWalkOrder", fn := fun _ => fun
  | [d1, d2] => { results := [.lit (.bool false)], args := [d1, d2] }
  | _ => none }
def FnExactWalkOrderWrongFalsely : Prop := fnExactWalkOrderRow.holds Try.pinned (OpenSpec.ofChange fnExactWalkOrderWrong)

/-- 'laws.FnExactWalkDeque': WHATEVER THE INPUT: true; the input reads as it did. -/
def fnExactWalkDequeSpec : ChangeSpec := { name := "fnExactWalkDeque", fn := fun _ => fun
  | [d1, d2] => { results := [.lit (.bool true)], args := [d1, d2] }
  | _ => none }
def fnExactWalkDequeRow : OpenClaim := { program := "ytigiliakcmpekaa", sum := "720b720d95d722b734b4739f95ee52c3f677978bdbb086b13aa9217497165435", func := "loop.example/tallychains/laws.FnExactWalkDeque", spec := "fnExactWalkDeque", unfollowed := true, recurses := true, apart := false }
def FnExactWalkDequeSaid : Prop := fnExactWalkDequeRow.holds Try.pinned (OpenSpec.ofChange fnExactWalkDequeSpec)

/-- ITS FALSE NEIGHBOUR: 'it returns false'. Refute it at one input. -/
def fnExactWalkDequeWrong : ChangeSpec := { name := "fnExactWalkDeque", fn := fun _ => fun
  | [d1, d2] => { results := [.lit (.bool false)], args := [d1, d2] }
  | _ => none }
def FnExactWalkDequeWrongFalsely : Prop := fnExactWalkDequeRow.holds Try.pinned (OpenSpec.ofChange fnExactWalkDequeWrong)

/-- 'laws.FnExactWalkList': WHATEVER THE INPUT: true; the input reads as it did. -/
def fnExactWalkListSpec : ChangeSpec := { name := "fnExactWalkList", fn := fun _ => fun
  | [d1, d2] => { results := [.lit (.bool true)], args := [d1, d2] }
  | _ => none }
def fnExactWalkListRow : OpenClaim := { program := "ytigiliakcmpekaa", sum := "720b720d95d722b734b4739f95ee52c3f677978bdbb086b13aa9217497165435", func := "loop.example/tallychains/laws.FnExactWalkList", spec := "fnExactWalkList", unfollowed := true, recurses := true, apart := false }
def FnExactWalkListSaid : Prop := fnExactWalkListRow.holds Try.pinned (OpenSpec.ofChange fnExactWalkListSpec)

/-- ITS FALSE NEIGHBOUR: 'it returns false'. Refute it at one input. -/
def fnExactWalkListWrong : ChangeSpec := { name := "fnExactWalkList", fn := fun _ => fun
  | [d1, d2] => { results := [.lit (.bool false)], args := [d1, d2] }
  | _ => none }
def FnExactWalkListWrongFalsely : Prop := fnExactWalkListRow.holds Try.pinned (OpenSpec.ofChange fnExactWalkListWrong)

/-- 'laws.FnExactMeetKeys': WHATEVER THE INPUT: true; the input reads as it did. -/
def fnExactMeetKeysSpec : ChangeSpec := { name := "fnExactMeetKeys", fn := fun _ => fun
  | [d1, d2] => { results := [.lit (.bool true)], args := [d1, d2] }
  | _ => none }
def fnExactMeetKeysRow : OpenClaim := { program := "ytigiliakcmpekaa", sum := "720b720d95d722b734b4739f95ee52c3f677978bdbb086b13aa9217497165435", func := "loop.example/tallychains/laws.FnExactMeetKeys", spec := "fnExactMeetKeys", unfollowed := true, recurses := true, apart := false }
def FnExactMeetKeysSaid : Prop := fnExactMeetKeysRow.holds Try.pinned (OpenSpec.ofChange fnExactMeetKeysSpec)

/-- ITS FALSE NEIGHBOUR: 'it returns false'. Refute it at one input. -/
def fnExactMeetKeysWrong : ChangeSpec := { name := "fnExactMeetKeys", fn := fun _ => fun
  | [d1, d2] => { results := [.lit (.bool false)], args := [d1, d2] }
  | _ => none }
def FnExactMeetKeysWrongFalsely : Prop := fnExactMeetKeysRow.holds Try.pinned (OpenSpec.ofChange fnExactMeetKeysWrong)

/-- 'laws.FnExactJoinKeys': WHATEVER THE INPUT: true; the input reads as it did. -/
def fnExactJoinKeysSpec : ChangeSpec := { name := "fnExactJoinKeys", fn := fun _ => fun
  | [d1, d2] => { results := [.lit (.bool true)], args := [d1, d2] }
  | _ => none }
def fnExactJoinKeysRow : OpenClaim := { program := "ytigiliakcmpekaa", sum := "720b720d95d722b734b4739f95ee52c3f677978bdbb086b13aa9217497165435", func := "loop.example/tallychains/laws.FnExactJoinKeys", spec := "fnExactJoinKeys", unfollowed := true, recurses := true, apart := false }
def FnExactJoinKeysSaid : Prop := fnExactJoinKeysRow.holds Try.pinned (OpenSpec.ofChange fnExactJoinKeysSpec)

/-- ITS FALSE NEIGHBOUR: 'it returns false'. Refute it at one input. -/
def fnExactJoinKeysWrong : ChangeSpec := { name := "fnExactJoinKeys", fn := fun _ => fun
  | [d1, d2] => { results := [.lit (.bool false)], args := [d1, d2] }
  | _ => none }
def FnExactJoinKeysWrongFalsely : Prop := fnExactJoinKeysRow.holds Try.pinned (OpenSpec.ofChange fnExactJoinKeysWrong)

/-- 'laws.FnExactLessKeys': WHATEVER THE INPUT: true; the input reads as it did. -/
def fnExactLessKeysSpec : ChangeSpec := { name := "fnExactLessKeys", fn := fun _ => fun
  | [d1, d2] => { results := [.lit (.bool true)], args := [d1, d2] }
  | _ => none }
def fnExactLessKeysRow : OpenClaim := { program := "ytigiliakcmpekaa", sum := "720b720d95d722b734b4739f95ee52c3f677978bdbb086b13aa9217497165435", func := "loop.example/tallychains/laws.FnExactLessKeys", spec := "fnExactLessKeys", unfollowed := true, recurses := true, apart := false }
def FnExactLessKeysSaid : Prop := fnExactLessKeysRow.holds Try.pinned (OpenSpec.ofChange fnExactLessKeysSpec)

/-- ITS FALSE NEIGHBOUR: 'it returns false'. Refute it at one input. -/
def fnExactLessKeysWrong : ChangeSpec := { name := "fnExactLessKeys", fn := fun _ => fun
  | [d1, d2] => { results := [.lit (.bool false)], args := [d1, d2] }
  | _ => none }
def FnExactLessKeysWrongFalsely : Prop := fnExactLessKeysRow.holds Try.pinned (OpenSpec.ofChange fnExactLessKeysWrong)

/-- 'laws.FnExactOddKeys': WHATEVER THE INPUT: true; the input reads as it did. -/
def fnExactOddKeysSpec : ChangeSpec := { name := "fnExactOddKeys", fn := fun _ => fun
  | [d1, d2] => { results := [.lit (.bool true)], args := [d1, d2] }
  | _ => none }
def fnExactOddKeysRow : OpenClaim := { program := "ytigiliakcmpekaa", sum := "720b720d95d722b734b4739f95ee52c3f677978bdbb086b13aa9217497165435", func := "loop.example/tallychains/laws.FnExactOddKeys", spec := "fnExactOddKeys", unfollowed := true, recurses := true, apart := false }
def FnExactOddKeysSaid : Prop := fnExactOddKeysRow.holds Try.pinned (OpenSpec.ofChange fnExactOddKeysSpec)

/-- ITS FALSE NEIGHBOUR: 'it returns false'. Refute it at one input. -/
def fnExactOddKeysWrong : ChangeSpec := { name := "fnExactOddKeys", fn := fun _ => fun
  | [d1, d2] => { results := [.lit (.bool false)], args := [d1, d2] }
  | _ => none }
def FnExactOddKeysWrongFalsely : Prop := fnExactOddKeysRow.holds Try.pinned (OpenSpec.ofChange fnExactOddKeysWrong)

/-- 'laws.FnExactApartKeys': WHATEVER THE INPUT: true; the input reads as it did. -/
def fnExactApartKeysSpec : ChangeSpec := { name := "fnExactApartKeys", fn := fun _ => fun
  | [d1, d2] => { results := [.lit (.bool true)], args := [d1, d2] }
  | _ => none }
def fnExactApartKeysRow : OpenClaim := { program := "ytigiliakcmpekaa", sum := "720b720d95d722b734b4739f95ee52c3f677978bdbb086b13aa9217497165435", func := "loop.example/tallychains/laws.FnExactApartKeys", spec := "fnExactApartKeys", unfollowed := true, recurses := true, apart := false }
def FnExactApartKeysSaid : Prop := fnExactApartKeysRow.holds Try.pinned (OpenSpec.ofChange fnExactApartKeysSpec)

/-- ITS FALSE NEIGHBOUR: 'it returns false'. Refute it at one input. -/
def fnExactApartKeysWrong : ChangeSpec := { name := "fnExactApartKeys", fn := fun _ => fun
  | [d1, d2] => { results := [.lit (.bool false)], args := [d1, d2] }
  | _ => none }
def FnExactApartKeysWrongFalsely : Prop := fnExactApartKeysRow.holds Try.pinned (OpenSpec.ofChange fnExactApartKeysWrong)

/-- 'laws.FnExactMeetItems': WHATEVER THE INPUT: true; the input reads as it did. -/
def fnExactMeetItemsSpec : ChangeSpec := { name := "fnExactMeetItems", fn := fun _ => fun
  | [d1, d2] => { results := [.lit (.bool true)], args := [d1, d2] }
  | _ => none }
def fnExactMeetItemsRow : OpenClaim := { program := "ytigiliakcmpekaa", sum := "720b720d95d722b734b4739f95ee52c3f677978bdbb086b13aa9217497165435", func := "loop.example/tallychains/laws.FnExactMeetItems", spec := "fnExactMeetItems", apart := false }
def FnExactMeetItemsSaid : Prop := fnExactMeetItemsRow.holds Try.pinned (OpenSpec.ofChange fnExactMeetItemsSpec)

/-- ITS FALSE NEIGHBOUR: 'it returns false'. Refute it at one input. -/
def fnExactMeetItemsWrong : ChangeSpec := { name := "fnExactMeetItems", fn := fun _ => fun
  | [d1, d2] => { results := [.lit (.bool false)], args := [d1, d2] }
  | _ => none }
def FnExactMeetItemsWrongFalsely : Prop := fnExactMeetItemsRow.holds Try.pinned (OpenSpec.ofChange fnExactMeetItemsWrong)

/-- 'laws.FnExactValidGroups': WHATEVER THE INPUT: true; the input reads as it did. -/
def fnExactValidGroupsSpec : ChangeSpec := { name := "fnExactValidGroups", fn := fun _ => fun
  | [d] => { results := [.lit (.bool true)], args := [d] }
  | _ => none }
def fnExactValidGroupsRow : OpenClaim := { program := "ytigiliakcmpekaa", sum := "720b720d95d722b734b4739f95ee52c3f677978bdbb086b13aa9217497165435", func := "loop.example/tallychains/laws.FnExactValidGroups", spec := "fnExactValidGroups", apart := false }
def FnExactValidGroupsSaid : Prop := fnExactValidGroupsRow.holds Try.pinned (OpenSpec.ofChange fnExactValidGroupsSpec)

/-- ITS FALSE NEIGHBOUR: 'it returns false'. Refute it at one input. -/
def fnExactValidGroupsWrong : ChangeSpec := { name := "fnExactValidGroups", fn := fun _ => fun
  | [d] => { results := [.lit (.bool false)], args := [d] }
  | _ => none }
def FnExactValidGroupsWrongFalsely : Prop := fnExactValidGroupsRow.holds Try.pinned (OpenSpec.ofChange fnExactValidGroupsWrong)

/-- 'laws.FnExactTouchGroup': WHATEVER THE INPUT: true; the input reads as it did. -/
def fnExactTouchGroupSpec : ChangeSpec := { name := "fnExactTouchGroup", fn := fun _ => fun
  | [d1, d2] => { results := [.lit (.bool true)], args := [d1, d2] }
  | _ => none }
def fnExactTouchGroupRow : OpenClaim := { program := "ytigiliakcmpekaa", sum := "720b720d95d722b734b4739f95ee52c3f677978bdbb086b13aa9217497165435", func := "loop.example/tallychains/laws.FnExactTouchGroup", spec := "fnExactTouchGroup", unfollowed := true, recurses := true, apart := false }
def FnExactTouchGroupSaid : Prop := fnExactTouchGroupRow.holds Try.pinned (OpenSpec.ofChange fnExactTouchGroupSpec)

/-- ITS FALSE NEIGHBOUR: 'it returns false'. Refute it at one input. -/
def fnExactTouchGroupWrong : ChangeSpec := { name := "fnExactTouchGroup", fn := fun _ => fun
  | [d1, d2] => { results := [.lit (.bool false)], args := [d1, d2] }
  | _ => none }
def FnExactTouchGroupWrongFalsely : Prop := fnExactTouchGroupRow.holds Try.pinned (OpenSpec.ofChange fnExactTouchGroupWrong)

/-- 'laws.FnExactAddToGroup': WHATEVER THE INPUT: true; the input reads as it did. -/
def fnExactAddToGroupSpec : ChangeSpec := { name := "fnExactAddToGroup", fn := fun _ => fun
  | [d1, d2, d3] => { results := [.lit (.bool true)], args := [d1, d2, d3] }
  | _ => none }
def fnExactAddToGroupRow : OpenClaim := { program := "ytigiliakcmpekaa", sum := "720b720d95d722b734b4739f95ee52c3f677978bdbb086b13aa9217497165435", func := "loop.example/tallychains/laws.FnExactAddToGroup", spec := "fnExactAddToGroup", unfollowed := true, recurses := true, apart := false }
def FnExactAddToGroupSaid : Prop := fnExactAddToGroupRow.holds Try.pinned (OpenSpec.ofChange fnExactAddToGroupSpec)

/-- ITS FALSE NEIGHBOUR: 'it returns false'. Refute it at one input. -/
def fnExactAddToGroupWrong : ChangeSpec := { name := "fnExactAddToGroup", fn := fun _ => fun
  | [d1, d2, d3] => { results := [.lit (.bool false)], args := [d1, d2, d3] }
  | _ => none }
def FnExactAddToGroupWrongFalsely : Prop := fnExactAddToGroupRow.holds Try.pinned (OpenSpec.ofChange fnExactAddToGroupWrong)

/-- 'laws.FnExactGroupSizes': WHATEVER THE INPUT: true; the input reads as it did. -/
def fnExactGroupSizesSpec : ChangeSpec := { name := "fnExactGroupSizes", fn := fun _ => fun
  | [d] => { results := [.lit (.bool true)], args := [d] }
  | _ => none }
def fnExactGroupSizesRow : OpenClaim := { program := "ytigiliakcmpekaa", sum := "720b720d95d722b734b4739f95ee52c3f677978bdbb086b13aa9217497165435", func := "loop.example/tallychains/laws.FnExactGroupSizes", spec := "fnExactGroupSizes", apart := false }
def FnExactGroupSizesSaid : Prop := fnExactGroupSizesRow.holds Try.pinned (OpenSpec.ofChange fnExactGroupSizesSpec)

/-- ITS FALSE NEIGHBOUR: 'it returns false'. Refute it at one input. -/
def fnExactGroupSizesWrong : ChangeSpec := { name := "fnExactGroupSizes", fn := fun _ => fun
  | [d] => { results := [.lit (.bool false)], args := [d] }
  | _ => none }
def FnExactGroupSizesWrongFalsely : Prop := fnExactGroupSizesRow.holds Try.pinned (OpenSpec.ofChange fnExactGroupSizesWrong)

/-- 'laws.FnExactMergeGroups': WHATEVER THE INPUT: true; the input reads as it did. -/
def fnExactMergeGroupsSpec : ChangeSpec := { name := "fnExactMergeGroups", fn := fun _ => fun
  | [d1, d2] => { results := [.lit (.bool true)], args := [d1, d2] }
  | _ => none }
def fnExactMergeGroupsRow : OpenClaim := { program := "ytigiliakcmpekaa", sum := "720b720d95d722b734b4739f95ee52c3f677978bdbb086b13aa9217497165435", func := "loop.example/tallychains/laws.FnExactMergeGroups", spec := "fnExactMergeGroups", unfollowed := true, recurses := true, apart := false }
def FnExactMergeGroupsSaid : Prop := fnExactMergeGroupsRow.holds Try.pinned (OpenSpec.ofChange fnExactMergeGroupsSpec)

/-- ITS FALSE NEIGHBOUR: 'it returns false'. Refute it at one input. -/
def fnExactMergeGroupsWrong : ChangeSpec := { name := "fnExactMergeGroups", fn := fun _ => fun
  | [d1, d2] => { results := [.lit (.bool false)], args := [d1, d2] }
  | _ => none }
def FnExactMergeGroupsWrongFalsely : Prop := fnExactMergeGroupsRow.holds Try.pinned (OpenSpec.ofChange fnExactMergeGroupsWrong)

/-- 'laws.FnExactGroupLetters': WHATEVER THE INPUT: true; the input reads as it did. -/
def fnExactGroupLettersSpec : ChangeSpec := { name := "fnExactGroupLetters", fn := fun _ => fun
  | [d] => { results := [.lit (.bool true)], args := [d] }
  | _ => none }
def fnExactGroupLettersRow : OpenClaim := { program := "ytigiliakcmpekaa", sum := "720b720d95d722b734b4739f95ee52c3f677978bdbb086b13aa9217497165435", func := "loop.example/tallychains/laws.FnExactGroupLetters", spec := "fnExactGroupLetters", unfollowed := true, recurses := true, apart := false }
def FnExactGroupLettersSaid : Prop := fnExactGroupLettersRow.holds Try.pinned (OpenSpec.ofChange fnExactGroupLettersSpec)

/-- ITS FALSE NEIGHBOUR: 'it returns false'. Refute it at one input. -/
def fnExactGroupLettersWrong : ChangeSpec := { name := "fnExactGroupLetters", fn := fun _ => fun
  | [d] => { results := [.lit (.bool false)], args := [d] }
  | _ => none }
def FnExactGroupLettersWrongFalsely : Prop := fnExactGroupLettersRow.holds Try.pinned (OpenSpec.ofChange fnExactGroupLettersWrong)

/-- 'laws.FnExactInsertAt': WHATEVER THE INPUT: true; the input reads as it did. -/
def fnExactInsertAtSpec : ChangeSpec := { name := "fnExactInsertAt", fn := fun _ => fun
  | [d1, d2, d3] => { results := [.lit (.bool true)], args := [d1, d2, d3] }
  | _ => none }
def fnExactInsertAtRow : OpenClaim := { program := "ytigiliakcmpekaa", sum := "720b720d95d722b734b4739f95ee52c3f677978bdbb086b13aa9217497165435", func := "loop.example/tallychains/laws.FnExactInsertAt", spec := "fnExactInsertAt", apart := false }
def FnExactInsertAtSaid : Prop := fnExactInsertAtRow.holds Try.pinned (OpenSpec.ofChange fnExactInsertAtSpec)

/-- ITS FALSE NEIGHBOUR: 'it returns false'. Refute it at one input. -/
def fnExactInsertAtWrong : ChangeSpec := { name := "fnExactInsertAt", fn := fun _ => fun
  | [d1, d2, d3] => { results := [.lit (.bool false)], args := [d1, d2, d3] }
  | _ => none }
def FnExactInsertAtWrongFalsely : Prop := fnExactInsertAtRow.holds Try.pinned (OpenSpec.ofChange fnExactInsertAtWrong)

/-- 'laws.FnExactAddDeques': WHATEVER THE INPUT: true; the input reads as it did. -/
def fnExactAddDequesSpec : ChangeSpec := { name := "fnExactAddDeques", fn := fun _ => fun
  | [d1, d2] => { results := [.lit (.bool true)], args := [d1, d2] }
  | _ => none }
def fnExactAddDequesRow : OpenClaim := { program := "ytigiliakcmpekaa", sum := "720b720d95d722b734b4739f95ee52c3f677978bdbb086b13aa9217497165435", func := "loop.example/tallychains/laws.FnExactAddDeques", spec := "fnExactAddDeques", apart := false }
def FnExactAddDequesSaid : Prop := fnExactAddDequesRow.holds Try.pinned (OpenSpec.ofChange fnExactAddDequesSpec)

/-- ITS FALSE NEIGHBOUR: 'it returns false'. Refute it at one input. -/
def fnExactAddDequesWrong : ChangeSpec := { name := "fnExactAddDeques", fn := fun _ => fun
  | [d1, d2] => { results := [.lit (.bool false)], args := [d1, d2] }
  | _ => none }
def FnExactAddDequesWrongFalsely : Prop := fnExactAddDequesRow.holds Try.pinned (OpenSpec.ofChange fnExactAddDequesWrong)

/-- 'laws.FnExactSortKeys': WHATEVER THE INPUT: true; the input reads as it did. -/
def fnExactSortKeysSpec : ChangeSpec := { name := "fnExactSortKeys", fn := fun _ => fun
  | [d] => { results := [.lit (.bool true)], args := [d] }
  | _ => none }
def fnExactSortKeysRow : OpenClaim := { program := "ytigiliakcmpekaa", sum := "720b720d95d722b734b4739f95ee52c3f677978bdbb086b13aa9217497165435", func := "loop.example/tallychains/laws.FnExactSortKeys", spec := "fnExactSortKeys", unfollowed := true, recurses := true, apart := false }
def FnExactSortKeysSaid : Prop := fnExactSortKeysRow.holds Try.pinned (OpenSpec.ofChange fnExactSortKeysSpec)

/-- ITS FALSE NEIGHBOUR: 'it returns false'. Refute it at one input. -/
def fnExactSortKeysWrong : ChangeSpec := { name := "fnExactSortKeys", fn := fun _ => fun
  | [d] => { results := [.lit (.bool false)], args := [d] }
  | _ => none }
def FnExactSortKeysWrongFalsely : Prop := fnExactSortKeysRow.holds Try.pinned (OpenSpec.ofChange fnExactSortKeysWrong)

/-- 'laws.FnExactSameItems': WHATEVER THE INPUT: true; the input reads as it did. -/
def fnExactSameItemsSpec : ChangeSpec := { name := "fnExactSameItems", fn := fun _ => fun
  | [d1, d2] => { results := [.lit (.bool true)], args := [d1, d2] }
  | _ => none }
def fnExactSameItemsRow : OpenClaim := { program := "ytigiliakcmpekaa", sum := "720b720d95d722b734b4739f95ee52c3f677978bdbb086b13aa9217497165435", func := "loop.example/tallychains/laws.FnExactSameItems", spec := "fnExactSameItems", unfollowed := true, recurses := true, apart := false }
def FnExactSameItemsSaid : Prop := fnExactSameItemsRow.holds Try.pinned (OpenSpec.ofChange fnExactSameItemsSpec)

/-- ITS FALSE NEIGHBOUR: 'it returns false'. Refute it at one input. -/
def fnExactSameItemsWrong : ChangeSpec := { name := "fnExactSameItems", fn := fun _ => fun
  | [d1, d2] => { results := [.lit (.bool false)], args := [d1, d2] }
  | _ => none }
def FnExactSameItemsWrongFalsely : Prop := fnExactSameItemsRow.holds Try.pinned (OpenSpec.ofChange fnExactSameItemsWrong)

/-- 'laws.FnExactMostCommon': WHATEVER THE INPUT: true; the input reads as it did. -/
def fnExactMostCommonSpec : ChangeSpec := { name := "fnExactMostCommon", fn := fun _ => fun
  | [d1, d2] => { results := [.lit (.bool true)], args := [d1, d2] }
  | _ => none }
def fnExactMostCommonRow : OpenClaim := { program := "ytigiliakcmpekaa", sum := "720b720d95d722b734b4739f95ee52c3f677978bdbb086b13aa9217497165435", func := "loop.example/tallychains/laws.FnExactMostCommon", spec := "fnExactMostCommon", unfollowed := true, recurses := true, apart := false }
def FnExactMostCommonSaid : Prop := fnExactMostCommonRow.holds Try.pinned (OpenSpec.ofChange fnExactMostCommonSpec)

/-- ITS FALSE NEIGHBOUR: 'it returns false'. Refute it at one input. -/
def fnExactMostCommonWrong : ChangeSpec := { name := "fnExactMostCommon", fn := fun _ => fun
  | [d1, d2] => { results := [.lit (.bool false)], args := [d1, d2] }
  | _ => none }
def FnExactMostCommonWrongFalsely : Prop := fnExactMostCommonRow.holds Try.pinned (OpenSpec.ofChange fnExactMostCommonWrong)

/- THE SECOND FORM. 'bulk': how many values and letters a reading holds, each counted each time it is reached (what is shared counts as often as it is met; a slice's spare places count too). A statement '..UptoSaid' is the law's where the arguments, and the package variables that the reading takes, are together of bulk at most 1048576: NARROWER than '..Said'. Prove '..Said' where nothing that the law and all that it calls make is longer than what came in: it says more and counts as full. Else prove '..UptoSaid'. A law counts once. -/
mutual
def uptoBulk {H : Type} : DataW H → Nat
  | .lit (.string bytes) => bytes.length + 1
  | .lit _ => 1
  | .nil => 1
  | .ptr d => uptoBulk d + 1
  | .slice elems spare => uptoBulkAll elems + uptoBulkAll spare + 1
  | .agg parts => uptoBulkAll parts + 1
  | .iface _ d => uptoBulk d + 1
  | .map entries => uptoBulkEntries entries + 1
  | .held _ => 1
def uptoBulkAll {H : Type} : List (DataW H) → Nat
  | [] => 0
  | d :: r => uptoBulk d + uptoBulkAll r
def uptoBulkEntries {H : Type} : List (Lit × DataW H) → Nat
  | [] => 0
  | x :: r => uptoBulkEntry x + uptoBulkEntries r
def uptoBulkEntry {H : Type} : Lit × DataW H → Nat
  | (.string bytes, d) => bytes.length + uptoBulk d + 1
  | (_, d) => uptoBulk d + 1
 end
def uptoSmall : (H : Type) → List (DataW H) → Bool := fun _ ds => decide (uptoBulkAll ds ≤ 1048576)
def OpenSpec.upto (s : _root_.Go.ChangeSpec) : _root_.Go.OpenSpec := { _root_.Go.OpenSpec.ofChange s with cond := some uptoSmall }

/-- 'laws.FnExactValidSteps', WHERE WHAT IT READS IS OF BULK AT MOST 1048576: true; the input reads as it did. -/
def fnExactValidStepsUptoRow : OpenClaim := { program := "ytigiliakcmpekaa", sum := "720b720d95d722b734b4739f95ee52c3f677978bdbb086b13aa9217497165435", func := "loop.example/tallychains/laws.FnExactValidSteps", spec := "fnExactValidSteps", apart := false, narrowed := true }
def FnExactValidStepsUptoSaid : Prop := fnExactValidStepsUptoRow.holds Try.pinned (OpenSpec.upto fnExactValidStepsSpec)

/-- 'laws.FnExactWalkItems', WHERE WHAT IT READS IS OF BULK AT MOST 1048576: true; the input reads as it did. -/
def fnExactWalkItemsUptoRow : OpenClaim := { program := "ytigiliakcmpekaa", sum := "720b720d95d722b734b4739f95ee52c3f677978bdbb086b13aa9217497165435", func := "loop.example/tallychains/laws.FnExactWalkItems", spec := "fnExactWalkItems", unfollowed := true, recurses := true, apart := false, narrowed := true }
def FnExactWalkItemsUptoSaid : Prop := fnExactWalkItemsUptoRow.holds Try.pinned (OpenSpec.upto fnExactWalkItemsSpec)

/-- 'laws.FnExactWalkOrder', WHERE WHAT IT READS IS OF BULK AT MOST 1048576: true; the input reads as it did. -/
def fnExactWalkOrderUptoRow : OpenClaim := { program := "ytigiliakcmpekaa", sum := "720b720d95d722b734b4739f95ee52c3f677978bdbb086b13aa9217497165435", func := "loop.example/tallychains/laws.FnExactWalkOrder", spec := "fnExactWalkOrder", unfollowed := true, recurses := true, apart := false, narrowed := true }
def FnExactWalkOrderUptoSaid : Prop := fnExactWalkOrderUptoRow.holds Try.pinned (OpenSpec.upto fnExactWalkOrderSpec)

/-- 'laws.FnExactWalkDeque', WHERE WHAT IT READS IS OF BULK AT MOST 1048576: true; the input reads as it did. -/
def fnExactWalkDequeUptoRow : OpenClaim := { program := "ytigiliakcmpekaa", sum := "720b720d95d722b734b4739f95ee52c3f677978bdbb086b13aa9217497165435", func := "loop.example/tallychains/laws.FnExactWalkDeque", spec := "fnExactWalkDeque", unfollowed := true, recurses := true, apart := false, narrowed := true }
def FnExactWalkDequeUptoSaid : Prop := fnExactWalkDequeUptoRow.holds Try.pinned (OpenSpec.upto fnExactWalkDequeSpec)

/-- 'laws.FnExactWalkList', WHERE WHAT IT READS IS OF BULK AT MOST 1048576: true; the input reads as it did. -/
def fnExactWalkListUptoRow : OpenClaim := { program := "ytigiliakcmpekaa", sum := "720b720d95d722b734b4739f95ee52c3f677978bdbb086b13aa9217497165435", func := "loop.example/tallychains/laws.FnExactWalkList", spec := "fnExactWalkList", unfollowed := true, recurses := true, apart := false, narrowed := true }
def FnExactWalkListUptoSaid : Prop := fnExactWalkListUptoRow.holds Try.pinned (OpenSpec.upto fnExactWalkListSpec)

/-- 'laws.FnExactMeetKeys', WHERE WHAT IT READS IS OF BULK AT MOST 1048576: true; the input reads as it did. -/
def fnExactMeetKeysUptoRow : OpenClaim := { program := "ytigiliakcmpekaa", sum := "720b720d95d722b734b4739f95ee52c3f677978bdbb086b13aa9217497165435", func := "loop.example/tallychains/laws.FnExactMeetKeys", spec := "fnExactMeetKeys", unfollowed := true, recurses := true, apart := false, narrowed := true }
def FnExactMeetKeysUptoSaid : Prop := fnExactMeetKeysUptoRow.holds Try.pinned (OpenSpec.upto fnExactMeetKeysSpec)

/-- 'laws.FnExactJoinKeys', WHERE WHAT IT READS IS OF BULK AT MOST 1048576: true; the input reads as it did. -/
def fnExactJoinKeysUptoRow : OpenClaim := { program := "ytigiliakcmpekaa", sum := "720b720d95d722b734b4739f95ee52c3f677978bdbb086b13aa9217497165435", func := "loop.example/tallychains/laws.FnExactJoinKeys", spec := "fnExactJoinKeys", unfollowed := true, recurses := true, apart := false, narrowed := true }
def FnExactJoinKeysUptoSaid : Prop := fnExactJoinKeysUptoRow.holds Try.pinned (OpenSpec.upto fnExactJoinKeysSpec)

/-- 'laws.FnExactLessKeys', WHERE WHAT IT READS IS OF BULK AT MOST 1048576: true; the input reads as it did. -/
def fnExactLessKeysUptoRow : OpenClaim := { program := "ytigiliakcmpekaa", sum := "720b720d95d722b734b4739f95ee52c3f677978bdbb086b13aa9217497165435", func := "loop.example/tallychains/laws.FnExactLessKeys", spec := "fnExactLessKeys", unfollowed := true, recurses := true, apart := false, narrowed := true }
def FnExactLessKeysUptoSaid : Prop := fnExactLessKeysUptoRow.holds Try.pinned (OpenSpec.upto fnExactLessKeysSpec)

/-- 'laws.FnExactOddKeys', WHERE WHAT IT READS IS OF BULK AT MOST 1048576: true; the input reads as it did. -/
def fnExactOddKeysUptoRow : OpenClaim := { program := "ytigiliakcmpekaa", sum := "720b720d95d722b734b4739f95ee52c3f677978bdbb086b13aa9217497165435", func := "loop.example/tallychains/laws.FnExactOddKeys", spec := "fnExactOddKeys", unfollowed := true, recurses := true, apart := false, narrowed := true }
def FnExactOddKeysUptoSaid : Prop := fnExactOddKeysUptoRow.holds Try.pinned (OpenSpec.upto fnExactOddKeysSpec)

/-- 'laws.FnExactApartKeys', WHERE WHAT IT READS IS OF BULK AT MOST 1048576: true; the input reads as it did. -/
def fnExactApartKeysUptoRow : OpenClaim := { program := "ytigiliakcmpekaa", sum := "720b720d95d722b734b4739f95ee52c3f677978bdbb086b13aa9217497165435", func := "loop.example/tallychains/laws.FnExactApartKeys", spec := "fnExactApartKeys", unfollowed := true, recurses := true, apart := false, narrowed := true }
def FnExactApartKeysUptoSaid : Prop := fnExactApartKeysUptoRow.holds Try.pinned (OpenSpec.upto fnExactApartKeysSpec)

/-- 'laws.FnExactMeetItems', WHERE WHAT IT READS IS OF BULK AT MOST 1048576: true; the input reads as it did. -/
def fnExactMeetItemsUptoRow : OpenClaim := { program := "ytigiliakcmpekaa", sum := "720b720d95d722b734b4739f95ee52c3f677978bdbb086b13aa9217497165435", func := "loop.example/tallychains/laws.FnExactMeetItems", spec := "fnExactMeetItems", apart := false, narrowed := true }
def FnExactMeetItemsUptoSaid : Prop := fnExactMeetItemsUptoRow.holds Try.pinned (OpenSpec.upto fnExactMeetItemsSpec)

/-- 'laws.FnExactValidGroups', WHERE WHAT IT READS IS OF BULK AT MOST 1048576: true; the input reads as it did. -/
def fnExactValidGroupsUptoRow : OpenClaim := { program := "ytigiliakcmpekaa", sum := "720b720d95d722b734b4739f95ee52c3f677978bdbb086b13aa9217497165435", func := "loop.example/tallychains/laws.FnExactValidGroups", spec := "fnExactValidGroups", apart := false, narrowed := true }
def FnExactValidGroupsUptoSaid : Prop := fnExactValidGroupsUptoRow.holds Try.pinned (OpenSpec.upto fnExactValidGroupsSpec)

/-- 'laws.FnExactTouchGroup', WHERE WHAT IT READS IS OF BULK AT MOST 1048576: true; the input reads as it did. -/
def fnExactTouchGroupUptoRow : OpenClaim := { program := "ytigiliakcmpekaa", sum := "720b720d95d722b734b4739f95ee52c3f677978bdbb086b13aa9217497165435", func := "loop.example/tallychains/laws.FnExactTouchGroup", spec := "fnExactTouchGroup", unfollowed := true, recurses := true, apart := false, narrowed := true }
def FnExactTouchGroupUptoSaid : Prop := fnExactTouchGroupUptoRow.holds Try.pinned (OpenSpec.upto fnExactTouchGroupSpec)

/-- 'laws.FnExactAddToGroup', WHERE WHAT IT READS IS OF BULK AT MOST 1048576: true; the input reads as it did. -/
def fnExactAddToGroupUptoRow : OpenClaim := { program := "ytigiliakcmpekaa", sum := "720b720d95d722b734b4739f95ee52c3f677978bdbb086b13aa9217497165435", func := "loop.example/tallychains/laws.FnExactAddToGroup", spec := "fnExactAddToGroup", unfollowed := true, recurses := true, apart := false, narrowed := true }
def FnExactAddToGroupUptoSaid : Prop := fnExactAddToGroupUptoRow.holds Try.pinned (OpenSpec.upto fnExactAddToGroupSpec)

/-- 'laws.FnExactGroupSizes', WHERE WHAT IT READS IS OF BULK AT MOST 1048576: true; the input reads as it did. -/
def fnExactGroupSizesUptoRow : OpenClaim := { program := "ytigiliakcmpekaa", sum := "720b720d95d722b734b4739f95ee52c3f677978bdbb086b13aa9217497165435", func := "loop.example/tallychains/laws.FnExactGroupSizes", spec := "fnExactGroupSizes", apart := false, narrowed := true }
def FnExactGroupSizesUptoSaid : Prop := fnExactGroupSizesUptoRow.holds Try.pinned (OpenSpec.upto fnExactGroupSizesSpec)

/-- 'laws.FnExactMergeGroups', WHERE WHAT IT READS IS OF BULK AT MOST 1048576: true; the input reads as it did. -/
def fnExactMergeGroupsUptoRow : OpenClaim := { program := "ytigiliakcmpekaa", sum := "720b720d95d722b734b4739f95ee52c3f677978bdbb086b13aa9217497165435", func := "loop.example/tallychains/laws.FnExactMergeGroups", spec := "fnExactMergeGroups", unfollowed := true, recurses := true, apart := false, narrowed := true }
def FnExactMergeGroupsUptoSaid : Prop := fnExactMergeGroupsUptoRow.holds Try.pinned (OpenSpec.upto fnExactMergeGroupsSpec)

/-- 'laws.FnExactGroupLetters', WHERE WHAT IT READS IS OF BULK AT MOST 1048576: true; the input reads as it did. -/
def fnExactGroupLettersUptoRow : OpenClaim := { program := "ytigiliakcmpekaa", sum := "720b720d95d722b734b4739f95ee52c3f677978bdbb086b13aa9217497165435", func := "loop.example/tallychains/laws.FnExactGroupLetters", spec := "fnExactGroupLetters", unfollowed := true, recurses := true, apart := false, narrowed := true }
def FnExactGroupLettersUptoSaid : Prop := fnExactGroupLettersUptoRow.holds Try.pinned (OpenSpec.upto fnExactGroupLettersSpec)

/-- 'laws.FnExactInsertAt', WHERE WHAT IT READS IS OF BULK AT MOST 1048576: true; the input reads as it did. -/
def fnExactInsertAtUptoRow : OpenClaim := { program := "ytigiliakcmpekaa", sum := "720b720d95d722b734b4739f95ee52c3f677978bdbb086b13aa9217497165435", func := "loop.example/tallychains/laws.FnExactInsertAt", spec := "fnExactInsertAt", apart := false, narrowed := true }
def FnExactInsertAtUptoSaid : Prop := fnExactInsertAtUptoRow.holds Try.pinned (OpenSpec.upto fnExactInsertAtSpec)

/-- 'laws.FnExactAddDeques', WHERE WHAT IT READS IS OF BULK AT MOST 1048576: true; the input reads as it did. -/
def fnExactAddDequesUptoRow : OpenClaim := { program := "ytigiliakcmpekaa", sum := "720b720d95d722b734b4739f95ee52c3f677978bdbb086b13aa9217497165435", func := "loop.example/tallychains/laws.FnExactAddDeques", spec := "fnExactAddDeques", apart := false, narrowed := true }
def FnExactAddDequesUptoSaid : Prop := fnExactAddDequesUptoRow.holds Try.pinned (OpenSpec.upto fnExactAddDequesSpec)

/-- 'laws.FnExactSortKeys', WHERE WHAT IT READS IS OF BULK AT MOST 1048576: true; the input reads as it did. -/
def fnExactSortKeysUptoRow : OpenClaim := { program := "ytigiliakcmpekaa", sum := "720b720d95d722b734b4739f95ee52c3f677978bdbb086b13aa9217497165435", func := "loop.example/tallychains/laws.FnExactSortKeys", spec := "fnExactSortKeys", unfollowed := true, recurses := true, apart := false, narrowed := true }
def FnExactSortKeysUptoSaid : Prop := fnExactSortKeysUptoRow.holds Try.pinned (OpenSpec.upto fnExactSortKeysSpec)

/-- 'laws.FnExactSameItems', WHERE WHAT IT READS IS OF BULK AT MOST 1048576: true; the input reads as it did. -/
def fnExactSameItemsUptoRow : OpenClaim := { program := "ytigiliakcmpekaa", sum := "720b720d95d722b734b4739f95ee52c3f677978bdbb086b13aa9217497165435", func := "loop.example/tallychains/laws.FnExactSameItems", spec := "fnExactSameItems", unfollowed := true, recurses := true, apart := false, narrowed := true }
def FnExactSameItemsUptoSaid : Prop := fnExactSameItemsUptoRow.holds Try.pinned (OpenSpec.upto fnExactSameItemsSpec)

/-- 'laws.FnExactMostCommon', WHERE WHAT IT READS IS OF BULK AT MOST 1048576: true; the input reads as it did. -/
def fnExactMostCommonUptoRow : OpenClaim := { program := "ytigiliakcmpekaa", sum := "720b720d95d722b734b4739f95ee52c3f677978bdbb086b13aa9217497165435", func := "loop.example/tallychains/laws.FnExactMostCommon", spec := "fnExactMostCommon", unfollowed := true, recurses := true, apart := false, narrowed := true }
def FnExactMostCommonUptoSaid : Prop := fnExactMostCommonUptoRow.holds Try.pinned (OpenSpec.upto fnExactMostCommonSpec)

end Rows
end Go.Proofs.Ytigiliakcmpekaa
