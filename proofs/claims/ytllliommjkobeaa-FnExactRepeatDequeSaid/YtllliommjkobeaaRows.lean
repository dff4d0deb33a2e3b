/-
  No cell of these rows narrows 'for every input' (looked for: loops, veiled, ifaces, maps, wideKeys, modest, calm, conditions, laid).
  DERIVED. THE GIVEN ROWS OF THIS SEAT. 21 by the template 'for every input the law returns true; each argument reads behind the call as it read before'; 0 by the template 'total and deterministic' (their statements: YtllliommjkobeaaTotals.lean).
  GIVEN WITH THE SEED: the statements are not yours to turn. If you find one false, say at which input.
  Laid BY PROGRAM, IN A SANDBOX (cutbox-rows.mjs): the forced cells as the released guide's own fill.sh prints them over the translation c22529e127ae5898… (all of the seat's roots in one cut). By AI agents, Wed Nov 11 2026. No macro, syntax, notation, axiom, sorry.
-/
import Derived.Test.YtllliommjkobeaaChecked
import GoSem.Claim
import GoSem.ClaimJoined
import GoSem.ClaimMapViews
import Derived.JoinedTies
import Derived.KernelRfl
namespace Go.Proofs.Ytllliommjkobeaa
/- THE CELL 'sum', in the pinned program and in every row, IS THE sha256 OF THE DUMP (.gsa) THAT YtllliommjkobeaaProg.lean LOADS. Nothing in Lean hashes anything: it is a label: what it is worth is what the hold of that sum in a sandbox is worth. -/
noncomputable def Try.pinned : Pinned := { name := "ytllliommjkobeaa", sum := "c22529e127ae5898248201c1f496094de2d9ec3d6793572f9781fd2380a159ce", checked := Try.checked }
namespace Rows
def none {H : Type} : Left H := { results := [], args := [] }

/-- 'laws.FnExactValidDeque': WHATEVER THE INPUT: true; the input reads as it did. -/
def fnExactValidDequeSpec : ChangeSpec := { name := "fnExactValidDeque", fn := fun _ => fun
  | [d] => { results := [.lit (.bool true)], args := [d] }
  | _ => none }
def fnExactValidDequeRow : OpenClaim := { program := "ytllliommjkobeaa", sum := "c22529e127ae5898248201c1f496094de2d9ec3d6793572f9781fd2380a159ce", func := "loop.example/tallychains/laws.FnExactValidDeque", spec := "fnExactValidDeque", apart := false }
def FnExactValidDequeSaid : Prop := fnExactValidDequeRow.holds Try.pinned (OpenSpec.ofChange fnExactValidDequeSpec)

/-- ITS FALSE NEIGHBOUR: 'it returns false'. Refute it at one input. -/
def fnExactValidDequeWrong : ChangeSpec := { name := "fnExactValidDeque", fn := fun _ => fun
  | [d] => { results := [.lit (.bool false)], args := [d] }
  | _ => none }
def FnExactValidDequeWrongFalsely : Prop := fnExactValidDequeRow.holds Try.pinned (OpenSpec.ofChange fnExactValidDequeWrong)

/-- 'laws.FnExactPushBack': WHATEVER THE INPUT: true; the input reads as it did. -/
def fnExactPushBackSpec : ChangeSpec := { name := "fnExactPushBack", fn := fun _ => fun
  | [d1, d2] => { results := [.lit (.bool true)], args := [d1, d2] }
  | _ => none }
def fnExactPushBackRow : OpenClaim := { program := "ytllliommjkobeaa", sum := "c22529e127ae5898248201c1f496094de2d9ec3d6793572f9781fd2380a159ce", func := "loop.example/tallychains/laws.FnExactPushBack", spec := "fnExactPushBack", apart := false }
def FnExactPushBackSaid : Prop := fnExactPushBackRow.holds Try.pinned (OpenSpec.ofChange fnExactPushBackSpec)

/-- ITS FALSE NEIGHBOUR: 'it returns false'. Refute it at one input. -/
def fnExactPushBackWrong : ChangeSpec := { name := "fnExactPushBack", fn := fun _ => fun
  | [d1, d2] => { results := [.lit (.bool false)], args := [d1, d2] }
  | _ => none }
def FnExactPushBackWrongFalsely : Prop := fnExactPushBackRow.holds Try.pinned (OpenSpec.ofChange fnExactPushBackWrong)

/-- 'laws.FnExactPushFront': WHATEVER THE INPUT: true; the input reads as it did. -/
def fnExactPushFrontSpec : ChangeSpec := { name := "fnExactPushFront", fn := fun _ => fun
  | [d1, d2] => { results := [.lit (.bool true)], args := [d1, d2] }
  | _ => none }
def fnExactPushFrontRow : OpenClaim := { program := "ytllliommjkobeaa", sum := "c22529e127ae5898248201c1f496094de2d9ec3d6793572f9781fd2380a159ce", func := "loop.example/tallychains/laws.FnExactPushFront", spec := "fnExactPushFront", apart := false }
def FnExactPushFrontSaid : Prop := fnExactPushFrontRow.holds Try.pinned (OpenSpec.ofChange fnExactPushFrontSpec)

/-- ITS FALSE NEIGHBOUR: 'it returns false'. Refute it at one input. -/
def fnExactPushFrontWrong : ChangeSpec := { name := "fnExactPushFront", fn := fun _ => fun
  | [d1, d2] => { results := [.lit (.bool false)], args := [d1, d2] }
  | _ => none }
def FnExactPushFrontWrongFalsely : Prop := fnExactPushFrontRow.holds Try.pinned (OpenSpec.ofChange fnExactPushFrontWrong)

/-- 'laws.FnExactExtendBack': WHATEVER THE INPUT: true; the input reads as it did. -/
def fnExactExtendBackSpec : ChangeSpec := { name := "fnExactExtendBack", fn := fun _ => fun
  | [d1, d2] => { results := [.lit (.bool true)], args := [d1, d2] }
  | _ => none }
def fnExactExtendBackRow : OpenClaim := { program := "ytllliommjkobeaa", sum := "c22529e127ae5898248201c1f496094de2d9ec3d6793572f9781fd2380a159ce", func := "loop.example/tallychains/laws.FnExactExtendBack", spec := "fnExactExtendBack", apart := false }
def FnExactExtendBackSaid : Prop := fnExactExtendBackRow.holds Try.pinned (OpenSpec.ofChange fnExactExtendBackSpec)

/-- ITS FALSE NEIGHBOUR: 'it returns false'. Refute it at one input. -/
def fnExactExtendBackWrong : ChangeSpec := { name := "fnExactExtendBack", fn := fun _ => fun
  | [d1, d2] => { results := [.lit (.bool false)], args := [d1, d2] }
  | _ => none }
def FnExactExtendBackWrongFalsely : Prop := fnExactExtendBackRow.holds Try.pinned (OpenSpec.ofChange fnExactExtendBackWrong)

/-- 'laws.FnExactExtendFront': WHATEVER THE INPUT: true; the input reads as it did. -/
def fnExactExtendFrontSpec : ChangeSpec := { name := "fnExactExtendFront", fn := fun _ => fun
  | [d1, d2] => { results := [.lit (.bool true)], args := [d1, d2] }
  | _ => none }
def fnExactExtendFrontRow : OpenClaim := { program := "ytllliommjkobeaa", sum := "c22529e127ae5898248201c1f496094de2d9ec3d6793572f9781fd2380a159ce", func := "loop.example/tallychains/laws.FnExactExtendFront", spec := "fnExactExtendFront", apart := false }
def FnExactExtendFrontSaid : Prop := fnExactExtendFrontRow.holds Try.pinned (OpenSpec.ofChange fnExactExtendFrontSpec)

/-- ITS FALSE NEIGHBOUR: 'it returns false'. Refute it at one input. -/
def fnExactExtendFrontWrong : ChangeSpec := { name := "fnExactExtendFront", fn := fun _ => fun
  | [d1, d2] => { results := [.lit (.bool false)], args := [d1, d2] }
  | _ => none }
def FnExactExtendFrontWrongFalsely : Prop := fnExactExtendFrontRow.holds Try.pinned (OpenSpec.ofChange fnExactExtendFrontWrong)

/-- 'laws.FnExactPopBack': WHATEVER THE INPUT: true; the input reads as it did. -/
def fnExactPopBackSpec : ChangeSpec := { name := "fnExactPopBack", fn := fun _ => fun
  | [d] => { results := [.lit (.bool true)], args := [d] }
  | _ => none }
def fnExactPopBackRow : OpenClaim := { program := "ytllliommjkobeaa", sum := "c22529e127ae5898248201c1f496094de2d9ec3d6793572f9781fd2380a159ce", func := "loop.example/tallychains/laws.FnExactPopBack", spec := "fnExactPopBack", apart := false }
def FnExactPopBackSaid : Prop := fnExactPopBackRow.holds Try.pinned (OpenSpec.ofChange fnExactPopBackSpec)

/-- ITS FALSE NEIGHBOUR: 'it returns false'. Refute it at one input. -/
def fnExactPopBackWrong : ChangeSpec := { name := "fnExactPopBack", fn := fun _ => fun
  | [d] => { results := [.lit (.bool false)], args := [d] }
  | _ => none }
def FnExactPopBackWrongFalsely : Prop := fnExactPopBackRow.holds Try.pinned (OpenSpec.ofChange fnExactPopBackWrong)

/-- 'laws.FnExactPopFront': WHATEVER THE INPUT: true; the input reads as it did. -/
def fnExactPopFrontSpec : ChangeSpec := { name := "fnExactPopFront", fn := fun _ => fun
  | [d] => { results := [.lit (.bool true)], args := [d] }
  | _ => none }
def fnExactPopFrontRow : OpenClaim := { program := "ytllliommjkobeaa", sum := "c22529e127ae5898248201c1f496094de2d9ec3d6793572f9781fd2380a159ce", func := "loop.example/tallychains/laws.FnExactPopFront", spec := "fnExactPopFront", apart := false }
def FnExactPopFrontSaid : Prop := fnExactPopFrontRow.holds Try.pinned (OpenSpec.ofChange fnExactPopFrontSpec)

/-- ITS FALSE NEIGHBOUR: 'it returns false'. Refute it at one input. -/
def fnExactPopFrontWrong : ChangeSpec := { name := "fnExactPopFront", fn := fun _ => fun
  | [d] => { results := [.lit (.bool false)], args := [d] }
  | _ => none }
def FnExactPopFrontWrongFalsely : Prop := fnExactPopFrontRow.holds Try.pinned (OpenSpec.ofChange fnExactPopFrontWrong)

/-- 'laws.FnExactRotateDeque': WHATEVER THE INPUT: true; the input reads as it did. -/
def fnExactRotateDequeSpec : ChangeSpec := { name := "fnExactRotateDeque", fn := fun _ => fun
  | [d1, d2] => { results := [.lit (.bool true)], args := [d1, d2] }
  | _ => none }
def fnExactRotateDequeRow : OpenClaim := { program := "ytllliommjkobeaa", sum := "c22529e127ae5898248201c1f496094de2d9ec3d6793572f9781fd2380a159ce", func := "loop.example/tallychains/laws.FnExactRotateDeque", spec := "fnExactRotateDeque", apart := false }
def FnExactRotateDequeSaid : Prop := fnExactRotateDequeRow.holds Try.pinned (OpenSpec.ofChange fnExactRotateDequeSpec)

/-- ITS FALSE NEIGHBOUR: 'it returns false'. Refute it at one input. -/
def fnExactRotateDequeWrong : ChangeSpec := { name := "fnExactRotateDeque", fn := fun _ => fun
  | [d1, d2] => { results := [.lit (.bool false)], args := [d1, d2] }
  | _ => none }
def FnExactRotateDequeWrongFalsely : Prop := fnExactRotateDequeRow.holds Try.pinned (OpenSpec.ofChange fnExactRotateDequeWrong)

/-- 'laws.FnExactTurnDeque': WHATEVER THE INPUT: true; the input reads as it did. -/
def fnExactTurnDequeSpec : ChangeSpec := { name := "fnExactTurnDeque", fn := fun _ => fun
  | [d] => { results := [.lit (.bool true)], args := [d] }
  | _ => none }
def fnExactTurnDequeRow : OpenClaim := { program := "ytllliommjkobeaa", sum := "c22529e127ae5898248201c1f496094de2d9ec3d6793572f9781fd2380a159ce", func := "loop.example/tallychains/laws.FnExactTurnDeque", spec := "fnExactTurnDeque", apart := false }
def FnExactTurnDequeSaid : Prop := fnExactTurnDequeRow.holds Try.pinned (OpenSpec.ofChange fnExactTurnDequeSpec)

/-- ITS FALSE NEIGHBOUR: 'it returns false'. Refute it at one input. -/
def fnExactTurnDequeWrong : ChangeSpec := { name := "fnExactTurnDeque", fn := fun _ => fun
  | [d] => { results := [.lit (.bool false)], args := [d] }
  | _ => none }
def FnExactTurnDequeWrongFalsely : Prop := fnExactTurnDequeRow.holds Try.pinned (OpenSpec.ofChange fnExactTurnDequeWrong)

/-- 'laws.FnExactGetAt': WHATEVER THE INPUT: true; the input reads as it did. -/
def fnExactGetAtSpec : ChangeSpec := { name := "fnExactGetAt", fn := fun _ => fun
  | [d1, d2] => { results := [.lit (.bool true)], args := [d1, d2] }
  | _ => none }
def fnExactGetAtRow : OpenClaim := { program := "ytllliommjkobeaa", sum := "c22529e127ae5898248201c1f496094de2d9ec3d6793572f9781fd2380a159ce", func := "loop.example/tallychains/laws.FnExactGetAt", spec := "fnExactGetAt", apart := false }
def FnExactGetAtSaid : Prop := fnExactGetAtRow.holds Try.pinned (OpenSpec.ofChange fnExactGetAtSpec)

/-- ITS FALSE NEIGHBOUR: 'it returns false'. Refute it at one input. -/
def fnExactGetAtWrong : ChangeSpec := { name := "fnExactGetAt", fn := fun _ => fun
  | [d1, d2] => { results := [.lit (.bool false)], args := [d1, d2] }
  | _ => none }
def FnExactGetAtWrongFalsely : Prop := fnExactGetAtRow.holds Try.pinned (OpenSpec.ofChange fnExactGetAtWrong)

/-- 'laws.FnExactSetAt': WHATEVER THE INPUT: true; the input reads as it did. -/
def fnExactSetAtSpec : ChangeSpec := { name := "fnExactSetAt", fn := fun _ => fun
  | [d1, d2, d3] => { results := [.lit (.bool true)], args := [d1, d2, d3] }
  | _ => none }
def fnExactSetAtRow : OpenClaim := { program := "ytllliommjkobeaa", sum := "c22529e127ae5898248201c1f496094de2d9ec3d6793572f9781fd2380a159ce", func := "loop.example/tallychains/laws.FnExactSetAt", spec := "fnExactSetAt", apart := false }
def FnExactSetAtSaid : Prop := fnExactSetAtRow.holds Try.pinned (OpenSpec.ofChange fnExactSetAtSpec)

/-- ITS FALSE NEIGHBOUR: 'it returns false'. Refute it at one input. -/
def fnExactSetAtWrong : ChangeSpec := { name := "fnExactSetAt", fn := fun _ => fun
  | [d1, d2, d3] => { results := [.lit (.bool false)], args := [d1, d2, d3] }
  | _ => none }
def FnExactSetAtWrongFalsely : Prop := fnExactSetAtRow.holds Try.pinned (OpenSpec.ofChange fnExactSetAtWrong)

/-- 'laws.FnExactDeleteAt': WHATEVER THE INPUT: true; the input reads as it did. -/
def fnExactDeleteAtSpec : ChangeSpec := { name := "fnExactDeleteAt", fn := fun _ => fun
  | [d1, d2] => { results := [.lit (.bool true)], args := [d1, d2] }
  | _ => none }
def fnExactDeleteAtRow : OpenClaim := { program := "ytllliommjkobeaa", sum := "c22529e127ae5898248201c1f496094de2d9ec3d6793572f9781fd2380a159ce", func := "loop.example/tallychains/laws.FnExactDeleteAt", spec := "fnExactDeleteAt", apart := false }
def FnExactDeleteAtSaid : Prop := fnExactDeleteAtRow.holds Try.pinned (OpenSpec.ofChange fnExactDeleteAtSpec)

/-- ITS FALSE NEIGHBOUR: 'it returns false'. Refute it at one input. -/
def fnExactDeleteAtWrong : ChangeSpec := { name := "fnExactDeleteAt", fn := fun _ => fun
  | [d1, d2] => { results := [.lit (.bool false)], args := [d1, d2] }
  | _ => none }
def FnExactDeleteAtWrongFalsely : Prop := fnExactDeleteAtRow.holds Try.pinned (OpenSpec.ofChange fnExactDeleteAtWrong)

/-- 'laws.FnExactInsertAt': WHATEVER THE INPUT: true; the input reads as it did. -/
def fnExactInsertAtSpec : ChangeSpec := { name := "fnExactInsertAt", fn := fun _ => fun
  | [d1, d2, d3] => { results := [.lit (.bool true)], args := [d1, d2, d3] }
  | _ => none }
def fnExactInsertAtRow : OpenClaim := { program := "ytllliommjkobeaa", sum := "c22529e127ae5898248201c1f496094de2d9ec3d6793572f9781fd2380a159ce", func := "loop.example/tallychains/laws.FnExactInsertAt", spec := "fnExactInsertAt", apart := false }
def FnExactInsertAtSaid : Prop := fnExactInsertAtRow.holds Try.pinned (OpenSpec.ofChange fnExactInsertAtSpec)

/-- ITS FALSE NEIGHBOUR: 'it returns false'. Refute it at one input. -/
def fnExactInsertAtWrong : ChangeSpec := { name := "fnExactInsertAt", fn := fun _ => fun
  | [d1, d2, d3] => { results := [.lit (.bool false)], args := [d1, d2, d3] }
  | _ => none }
def FnExactInsertAtWrongFalsely : Prop := fnExactInsertAtRow.holds Try.pinned (OpenSpec.ofChange fnExactInsertAtWrong)

/-- 'laws.FnExactIndexIn': WHATEVER THE INPUT: true; the input reads as it did. -/
def fnExactIndexInSpec : ChangeSpec := { name := "fnExactIndexIn", fn := fun _ => fun
  | [d1, d2, d3, d4] => { results := [.lit (.bool true)], args := [d1, d2, d3, d4] }
  | _ => none }
def fnExactIndexInRow : OpenClaim := { program := "ytllliommjkobeaa", sum := "c22529e127ae5898248201c1f496094de2d9ec3d6793572f9781fd2380a159ce", func := "loop.example/tallychains/laws.FnExactIndexIn", spec := "fnExactIndexIn", apart := false }
def FnExactIndexInSaid : Prop := fnExactIndexInRow.holds Try.pinned (OpenSpec.ofChange fnExactIndexInSpec)

/-- ITS FALSE NEIGHBOUR: 'it returns false'. Refute it at one input. -/
def fnExactIndexInWrong : ChangeSpec := { name := "fnExactIndexIn", fn := fun _ => fun
  | [d1, d2, d3, d4] => { results := [.lit (.bool false)], args := [d1, d2, d3, d4] }
  | _ => none }
def FnExactIndexInWrongFalsely : Prop := fnExactIndexInRow.holds Try.pinned (OpenSpec.ofChange fnExactIndexInWrong)

/-- 'laws.FnExactRemoveFirst': WHATEVER THE INPUT: true; the input reads as it did. -/
def fnExactRemoveFirstSpec : ChangeSpec := { name := "fnExactRemoveFirst", fn := fun _ => fun
  | [d1, d2] => { results := [.lit (.bool true)], args := [d1, d2] }
  | _ => none }
def fnExactRemoveFirstRow : OpenClaim := { program := "ytllliommjkobeaa", sum := "c22529e127ae5898248201c1f496094de2d9ec3d6793572f9781fd2380a159ce", func := "loop.example/tallychains/laws.FnExactRemoveFirst", spec := "fnExactRemoveFirst", apart := false }
def FnExactRemoveFirstSaid : Prop := fnExactRemoveFirstRow.holds Try.pinned (OpenSpec.ofChange fnExactRemoveFirstSpec)

/-- ITS FALSE NEIGHBOUR: 'it returns false'. Refute it at one input. -/
def fnExactRemoveFirstWrong : ChangeSpec := { name := "fnExactRemoveFirst", fn := fun _ => fun
  | [d1, d2] => { results := [.lit (.bool false)], args := [d1, d2] }
  | _ => none }
def FnExactRemoveFirstWrongFalsely : Prop := fnExactRemoveFirstRow.holds Try.pinned (OpenSpec.ofChange fnExactRemoveFirstWrong)

/-- 'laws.FnExactCountIn': WHATEVER THE INPUT: true; the input reads as it did. -/
def fnExactCountInSpec : ChangeSpec := { name := "fnExactCountIn", fn := fun _ => fun
  | [d1, d2] => { results := [.lit (.bool true)], args := [d1, d2] }
  | _ => none }
def fnExactCountInRow : OpenClaim := { program := "ytllliommjkobeaa", sum := "c22529e127ae5898248201c1f496094de2d9ec3d6793572f9781fd2380a159ce", func := "loop.example/tallychains/laws.FnExactCountIn", spec := "fnExactCountIn", apart := false }
def FnExactCountInSaid : Prop := fnExactCountInRow.holds Try.pinned (OpenSpec.ofChange fnExactCountInSpec)

/-- ITS FALSE NEIGHBOUR: 'it returns false'. Refute it at one input. -/
def fnExactCountInWrong : ChangeSpec := { name := "fnExactCountIn", fn := fun _ => fun
  | [d1, d2] => { results := [.lit (.bool false)], args := [d1, d2] }
  | _ => none }
def FnExactCountInWrongFalsely : Prop := fnExactCountInRow.holds Try.pinned (OpenSpec.ofChange fnExactCountInWrong)

/-- 'laws.FnExactWithMost': WHATEVER THE INPUT: true; the input reads as it did. -/
def fnExactWithMostSpec : ChangeSpec := { name := "fnExactWithMost", fn := fun _ => fun
  | [d1, d2] => { results := [.lit (.bool true)], args := [d1, d2] }
  | _ => none }
def fnExactWithMostRow : OpenClaim := { program := "ytllliommjkobeaa", sum := "c22529e127ae5898248201c1f496094de2d9ec3d6793572f9781fd2380a159ce", func := "loop.example/tallychains/laws.FnExactWithMost", spec := "fnExactWithMost", apart := false }
def FnExactWithMostSaid : Prop := fnExactWithMostRow.holds Try.pinned (OpenSpec.ofChange fnExactWithMostSpec)

/-- ITS FALSE NEIGHBOUR: 'it returns false'. Refute it at one input. -/
def fnExactWithMostWrong : ChangeSpec := { name := "fnExactWithMost", fn := fun _ => fun
  | [d1, d2] => { results := [.lit (.bool false)], args := [d1, d2] }
  | _ => none }
def FnExactWithMostWrongFalsely : Prop := fnExactWithMostRow.holds Try.pinned (OpenSpec.ofChange fnExactWithMostWrong)

/-- 'laws.FnExactAddDeques': WHATEVER THE INPUT: true; the input reads as it did. -/
def fnExactAddDequesSpec : ChangeSpec := { name := "fnExactAddDeques", fn := fun _ => fun
  | [d1, d2] => { results := [.lit (.bool true)], args := [d1, d2] }
  | _ => none }
def fnExactAddDequesRow : OpenClaim := { program := "ytllliommjkobeaa", sum := "c22529e127ae5898248201c1f496094de2d9ec3d6793572f9781fd2380a159ce", func := "loop.example/tallychains/laws.FnExactAddDeques", spec := "fnExactAddDeques", apart := false }
def FnExactAddDequesSaid : Prop := fnExactAddDequesRow.holds Try.pinned (OpenSpec.ofChange fnExactAddDequesSpec)

/-- ITS FALSE NEIGHBOUR: 'it returns false'. Refute it at one input. -/
def fnExactAddDequesWrong : ChangeSpec := { name := "fnExactAddDeques", fn := fun _ => fun
  | [d1, d2] => { results := [.lit (.bool false)], args := [d1, d2] }
  | _ => none }
def FnExactAddDequesWrongFalsely : Prop := fnExactAddDequesRow.holds Try.pinned (OpenSpec.ofChange fnExactAddDequesWrong)

/-- 'laws.FnExactRepeatDeque': WHATEVER THE INPUT: true; the input reads as it did. -/
def fnExactRepeatDequeSpec : ChangeSpec := { name := "fnExactRepeatDeque", fn := fun _ => fun
  | [d1, d2] => { results := [.lit (.bool true)], args := [d1, d2] }
  | _ => none }
def fnExactRepeatDequeRow : OpenClaim := { program := "ytllliommjkobeaa", sum := "c22529e127ae5898248201c1f496094de2d9ec3d6793572f9781fd2380a159ce", func := "loop.example/tallychains/laws.FnExactRepeatDeque", spec := "fnExactRepeatDeque", apart := false }
def FnExactRepeatDequeSaid : Prop := fnExactRepeatDequeRow.holds Try.pinned (OpenSpec.ofChange fnExactRepeatDequeSpec)

/-- ITS FALSE NEIGHBOUR: 'it returns false'. Refute it at one input. -/
def fnExactRepeatDequeWrong : ChangeSpec := { name := "fnExactRepeatDeque", fn := fun _ => fun
  | [d1, d2] => { results := [.lit (.bool false)], args := [d1, d2] }
  | _ => none }
def FnExactRepeatDequeWrongFalsely : Prop := fnExactRepeatDequeRow.holds Try.pinned (OpenSpec.ofChange fnExactRepeatDequeWrong)

/-- 'laws.FnExactCompareDeques': WHATEVER THE INPUT: true; the input reads as it did. -/
def fnExactCompareDequesSpec : ChangeSpec := { name := "fnExactCompareDeques", fn := fun _ => fun
  | [d1, d2] => { results := [.lit (.bool true)], args := [d1, d2] }
  | _ => none }
def fnExactCompareDequesRow : OpenClaim := { program := "ytllliommjkobeaa", sum := "c22529e127ae5898248201c1f496094de2d9ec3d6793572f9781fd2380a159ce", func := "loop.example/tallychains/laws.FnExactCompareDeques", spec := "fnExactCompareDeques", apart := false }
def FnExactCompareDequesSaid : Prop := fnExactCompareDequesRow.holds Try.pinned (OpenSpec.ofChange fnExactCompareDequesSpec)

/-- ITS FALSE NEIGHBOUR: 'it returns false'. Refute it at one input. -/
def fnExactCompareDequesWrong : ChangeSpec := { name := "fnExactCompareDeques", fn := fun _ => fun
  | [d1, d2] => { results := [.lit (.bool false)], args := [d1, d2] }
  | _ => none }
def FnExactCompareDequesWrongFalsely : Prop := fnExactCompareDequesRow.holds Try.pinned (OpenSpec.ofChange fnExactCompareDequesWrong)

/-- 'laws.FnExactWindowSums': WHATEVER THE INPUT: true; the input reads as it did. -/
def fnExactWindowSumsSpec : ChangeSpec := { name := "fnExactWindowSums", fn := fun _ => fun
  | [d1, d2] => { results := [.lit (.bool true)], args := [d1, d2] }
  | _ => none }
def fnExactWindowSumsRow : OpenClaim := { program := "ytllliommjkobeaa", sum := "c22529e127ae5898248201c1f496094de2d9ec3d6793572f9781fd2380a159ce", func := "loop.example/tallychains/laws.FnExactWindowSums", spec := "fnExactWindowSums", apart := false }
def FnExactWindowSumsSaid : Prop := fnExactWindowSumsRow.holds Try.pinned (OpenSpec.ofChange fnExactWindowSumsSpec)

/-- ITS FALSE NEIGHBOUR: 'it returns false'. Refute it at one input. -/
def fnExactWindowSumsWrong : ChangeSpec := { name := "fnExactWindowSums", fn := fun _ => fun
  | [d1, d2] => { results := [.lit (.bool false)], args := [d1, d2] }
  | _ => none }
def FnExactWindowSumsWrongFalsely : Prop := fnExactWindowSumsRow.holds Try.pinned (OpenSpec.ofChange fnExactWindowSumsWrong)

/- THE SECOND FORM. 'bulk': how many values and letters a reading holds, each counted each time it is reached (what is shared counts as often as it is met; a slice's spare places count too). A statement '..UptoSaid' is the law's where the arguments, and the package variables that the reading takes, are together of bulk at most 1048576: NARROWER than '..Said'. Prove '..Said' where nothing that the law and all that it calls make is longer than what came in: it says more and counts as full. Else prove '..UptoSaid'. A law counts once. -/
mutual
def uptoBulk {H : Type} : DataW H → Nat
  | .lit (.string bytes) => bytes.length + 1
  | .lit _ => 1
  | .nil => 1
  | .ptr d => uptoBulk d + 1
  | .slice elems spare => uptoBulkAll elems + uptoBulkAll spare + 1
  | .agg parts => uptoBulkAll parts + 1
  | .iface _ d => uptoBulk d + 1
  | .map entries => uptoBulkEntries entries + 1
  | .held _ => 1
def uptoBulkAll {H : Type} : List (DataW H) → Nat
  | [] => 0
  | d :: r => uptoBulk d + uptoBulkAll r
def uptoBulkEntries {H : Type} : List (Lit × DataW H) → Nat
  | [] => 0
  | x :: r => uptoBulkEntry x + uptoBulkEntries r
def uptoBulkEntry {H : Type} : Lit × DataW H → Nat
  | (.string bytes, d) => bytes.length + uptoBulk d + 1
  | (_, d) => uptoBulk d + 1
 end
def uptoSmall : (H : Type) → List (DataW H) → Bool := fun _ ds => decide (uptoBulkAll ds ≤ 1048576)
def OpenSpec.upto (s : _root_.Go.ChangeSpec) : _root_.Go.OpenSpec := { _root_.Go.OpenSpec.ofChange s with cond := some uptoSmall }

/-- 'laws.FnExactValidDeque', WHERE WHAT IT READS IS OF BULK AT MOST 1048576: true; the input reads as it did. -/
def fnExactValidDequeUptoRow : OpenClaim := { program := "ytllliommjkobeaa", sum := "c22529e127ae5898248201c1f496094de2d9ec3d6793572f9781fd2380a159ce", func := "loop.example/tallychains/laws.FnExactValidDeque", spec := "fnExactValidDeque", apart := false, narrowed := true }
def FnExactValidDequeUptoSaid : Prop := fnExactValidDequeUptoRow.holds Try.pinned (OpenSpec.upto fnExactValidDequeSpec)

/-- 'laws.FnExactPushBack', WHERE WHAT IT READS IS OF BULK AT MOST 1048576: true; the input reads as it did. -/
def fnExactPushBackUptoRow : OpenClaim := { program := "ytllliommjkobeaa", sum := "c22529e127ae5898248201c1f496094de2d9ec3d6793572f9781fd2380a159ce", func := "loop.example/tallychains/laws.FnExactPushBack", spec := "fnExactPushBack", apart := false, narrowed := true }
def FnExactPushBackUptoSaid : Prop := fnExactPushBackUptoRow.holds Try.pinned (OpenSpec.upto fnExactPushBackSpec)

/-- 'laws.FnExactPushFront', WHERE WHAT IT READS IS OF BULK AT MOST 1048576: true; the input reads as it did. -/
def fnExactPushFrontUptoRow : OpenClaim := { program := "ytllliommjkobeaa", sum := "c22529e127ae5898248201c1f496094de2d9ec3d6793572f9781fd2380a159ce", func := "loop.example/tallychains/laws.FnExactPushFront", spec := "fnExactPushFront", apart := false, narrowed := true }
def FnExactPushFrontUptoSaid : Prop := fnExactPushFrontUptoRow.holds Try.pinned (OpenSpec.upto fnExactPushFrontSpec)

/-- 'laws.FnExactExtendBack', WHERE WHAT IT READS IS OF BULK AT MOST 1048576: true; the input reads as it did. -/
def fnExactExtendBackUptoRow : OpenClaim := { program := "ytllliommjkobeaa", sum := "c22529e127ae5898248201c1f496094de2d9ec3d6793572f9781fd2380a159ce", func := "loop.example/tallychains/laws.FnExactExtendBack", spec := "fnExactExtendBack", apart := false, narrowed := true }
def FnExactExtendBackUptoSaid : Prop := fnExactExtendBackUptoRow.holds Try.pinned (OpenSpec.upto fnExactExtendBackSpec)

/-- 'laws.FnExactExtendFront', WHERE WHAT IT READS IS OF BULK AT MOST 1048576: true; the input reads as it did. -/
def fnExactExtendFrontUptoRow : OpenClaim := { program := "ytllliommjkobeaa", sum := "c22529e127ae5898248201c1f496094de2d9ec3d6793572f9781fd2380a159ce", func := "loop.example/tallychains/laws.FnExactExtendFront", spec := "fnExactExtendFront", apart := false, narrowed := true }
def FnExactExtendFrontUptoSaid : Prop := fnExactExtendFrontUptoRow.holds Try.pinned (OpenSpec.upto fnExactExtendFrontSpec)

/-- 'laws.FnExactPopBack', WHERE WHAT IT READS IS OF BULK AT MOST 1048576: true; the input reads as it did. -/
def fnExactPopBackUptoRow : OpenClaim := { program := "ytllliommjkobeaa", sum := "c22529e127ae5898248201c1f496094de2d9ec3d6793572f9781fd2380a159ce", func := "loop.example/tallychains/laws.FnExactPopBack", spec := "fnExactPopBack", apart := false, narrowed := true }
def FnExactPopBackUptoSaid : Prop := fnExactPopBackUptoRow.holds Try.pinned (OpenSpec.upto fnExactPopBackSpec)

/-- 'laws.FnExactPopFront', WHERE WHAT IT READS IS OF BULK AT MOST 1048576: true; the input reads as it did. -/
def fnExactPopFrontUptoRow : OpenClaim := { program := "ytllliommjkobeaa", sum := "c22529e127ae5898248201c1f496094de2d9ec3d6793572f9781fd2380a159ce", func := "loop.example/tallychains/laws.FnExactPopFront", spec := "fnExactPopFront", apart := false, narrowed := true }
def FnExactPopFrontUptoSaid : Prop := fnExactPopFrontUptoRow.holds Try.pinned (OpenSpec.upto fnExactPopFrontSpec)

/-- 'laws.FnExactRotateDeque', WHERE WHAT IT READS IS OF BULK AT MOST 1048576: true; the input reads as it did. -/
def fnExactRotateDequeUptoRow : OpenClaim := { program := "ytllliommjkobeaa", sum := "c22529e127ae5898248201c1f496094de2d9ec3d6793572f9781fd2380a159ce", func := "loop.example/tallychains/laws.FnExactRotateDeque", spec := "fnExactRotateDeque", apart := false, narrowed := true }
def FnExactRotateDequeUptoSaid : Prop := fnExactRotateDequeUptoRow.holds Try.pinned (OpenSpec.upto fnExactRotateDequeSpec)

/-- 'laws.FnExactTurnDeque', WHERE WHAT IT READS IS OF BULK AT MOST 1048576: true; the input reads as it did. -/
def fnExactTurnDequeUptoRow : OpenClaim := { program := "ytllliommjkobeaa", sum := "c22529e127ae5898248201c1f496094de2d9ec3d6793572f9781fd2380a159ce", func := "loop.example/tallychains/laws.FnExactTurnDeque", spec := "fnExactTurnDeque", apart := false, narrowed := true }
def FnExactTurnDequeUptoSaid : Prop := fnExactTurnDequeUptoRow.holds Try.pinned (OpenSpec.upto fnExactTurnDequeSpec)

/-- 'laws.FnExactGetAt', WHERE WHAT IT READS IS OF BULK AT MOST 1048576: true; the input reads as it did. -/
def fnExactGetAtUptoRow : OpenClaim := { program := "ytllliommjkobeaa", sum := "c22529e127ae5898248201c1f496094de2d9ec3d6793572f9781fd2380a159ce", func := "loop.example/tallychains/laws.FnExactGetAt", spec := "fnExactGetAt", apart := false, narrowed := true }
def FnExactGetAtUptoSaid : Prop := fnExactGetAtUptoRow.holds Try.pinned (OpenSpec.upto fnExactGetAtSpec)

/-- 'laws.FnExactSetAt', WHERE WHAT IT READS IS OF BULK AT MOST 1048576: true; the input reads as it did. -/
def fnExactSetAtUptoRow : OpenClaim := { program := "ytllliommjkobeaa", sum := "c22529e127ae5898248201c1f496094de2d9ec3d6793572f9781fd2380a159ce", func := "loop.example/tallychains/laws.FnExactSetAt", spec := "fnExactSetAt", apart := false, narrowed := true }
def FnExactSetAtUptoSaid : Prop := fnExactSetAtUptoRow.holds Try.pinned (OpenSpec.upto fnExactSetAtSpec)

/-- 'laws.FnExactDeleteAt', WHERE WHAT IT READS IS OF BULK AT MOST 1048576: true; the input reads as it did. -/
def fnExactDeleteAtUptoRow : OpenClaim := { program := "ytllliommjkobeaa", sum := "c22529e127ae5898248201c1f496094de2d9ec3d6793572f9781fd2380a159ce", func := "loop.example/tallychains/laws.FnExactDeleteAt", spec := "fnExactDeleteAt", apart := false, narrowed := true }
def FnExactDeleteAtUptoSaid : Prop := fnExactDeleteAtUptoRow.holds Try.pinned (OpenSpec.upto fnExactDeleteAtSpec)

/-- 'laws.FnExactInsertAt', WHERE WHAT IT READS IS OF BULK AT MOST 1048576: true; the input reads as it did. -/
def fnExactInsertAtUptoRow : OpenClaim := { program := "ytllliommjkobeaa", sum := "c22529e127ae5898248201c1f496094de2d9ec3d6793572f9781fd2380a159ce", func := "loop.example/tallychains/laws.FnExactInsertAt", spec := "fnExactInsertAt", apart := false, narrowed := true }
def FnExactInsertAtUptoSaid : Prop := fnExactInsertAtUptoRow.holds Try.pinned (OpenSpec.upto fnExactInsertAtSpec)

/-- 'laws.FnExactIndexIn', WHERE WHAT IT READS IS OF BULK AT MOST 1048576: true; the input reads as it did. -/
def fnExactIndexInUptoRow : OpenClaim := { program := "ytllliommjkobeaa", sum := "c22529e127ae5898248201c1f496094de2d9ec3d6793572f9781fd2380a159ce", func := "loop.example/tallychains/laws.FnExactIndexIn", spec := "fnExactIndexIn", apart := false, narrowed := true }
def FnExactIndexInUptoSaid : Prop := fnExactIndexInUptoRow.holds Try.pinned (OpenSpec.upto fnExactIndexInSpec)

/-- 'laws.FnExactRemoveFirst', WHERE WHAT IT READS IS OF BULK AT MOST 1048576: true; the input reads as it did. -/
def fnExactRemoveFirstUptoRow : OpenClaim := { program := "ytllliommjkobeaa", sum := "c22529e127ae5898248201c1f496094de2d9ec3d6793572f9781fd2380a159ce", func := "loop.example/tallychains/laws.FnExactRemoveFirst", spec := "fnExactRemoveFirst", apart := false, narrowed := true }
def FnExactRemoveFirstUptoSaid : Prop := fnExactRemoveFirstUptoRow.holds Try.pinned (OpenSpec.upto fnExactRemoveFirstSpec)

/-- 'laws.FnExactCountIn', WHERE WHAT IT READS IS OF BULK AT MOST 1048576: true; the input reads as it did. -/
def fnExactCountInUptoRow : OpenClaim := { program := "ytllliommjkobeaa", sum := "c22529e127ae5898248201c1f496094de2d9ec3d6793572f9781fd2380a159ce", func := "loop.example/tallychains/laws.FnExactCountIn", spec := "fnExactCountIn", apart := false, narrowed := true }
def FnExactCountInUptoSaid : Prop := fnExactCountInUptoRow.holds Try.pinned (OpenSpec.upto fnExactCountInSpec)

/-- 'laws.FnExactWithMost', WHERE WHAT IT READS IS OF BULK AT MOST 1048576: true; the input reads as it did. -/
def fnExactWithMostUptoRow : OpenClaim := { program := "ytllliommjkobeaa", sum := "c22529e127ae5898248201c1f496094de2d9ec3d6793572f9781fd2380a159ce", func := "loop.example/tallychains/laws.FnExactWithMost", spec := "fnExactWithMost", apart := false, narrowed := true }
def FnExactWithMostUptoSaid : Prop := fnExactWithMostUptoRow.holds Try.pinned (OpenSpec.upto fnExactWithMostSpec)

/-- 'laws.FnExactAddDeques', WHERE WHAT IT READS IS OF BULK AT MOST 1048576: true; the input reads as it did. -/
def fnExactAddDequesUptoRow : OpenClaim := { program := "ytllliommjkobeaa", sum := "c22529e127ae5898248201c1f496094de2d9ec3d6793572f9781fd2380a159ce", func := "loop.example/tallychains/laws.FnExactAddDeques", spec := "fnExactAddDeques", apart := false, narrowed := true }
def FnExactAddDequesUptoSaid : Prop := fnExactAddDequesUptoRow.holds Try.pinned (OpenSpec.upto fnExactAddDequesSpec)

/-- 'laws.FnExactRepeatDeque', WHERE WHAT IT READS IS OF BULK AT MOST 1048576: true; the input reads as it did. -/
def fnExactRepeatDequeUptoRow : OpenClaim := { program := "ytllliommjkobeaa", sum := "c22529e127ae5898248201c1f496094de2d9ec3d6793572f9781fd2380a159ce", func := "loop.example/tallychains/laws.FnExactRepeatDeque", spec := "fnExactRepeatDeque", apart := false, narrowed := true }
def FnExactRepeatDequeUptoSaid : Prop := fnExactRepeatDequeUptoRow.holds Try.pinned (OpenSpec.upto fnExactRepeatDequeSpec)

/-- 'laws.FnExactCompareDeques', WHERE WHAT IT READS IS OF BULK AT MOST 1048576: true; the input reads as it did. -/
def fnExactCompareDequesUptoRow : OpenClaim := { program := "ytllliommjkobeaa", sum := "c22529e127ae5898248201c1f496094de2d9ec3d6793572f9781fd2380a159ce", func := "loop.example/tallychains/laws.FnExactCompareDeques", spec := "fnExactCompareDeques", apart := false, narrowed := true }
def FnExactCompareDequesUptoSaid : Prop := fnExactCompareDequesUptoRow.holds Try.pinned (OpenSpec.upto fnExactCompareDequesSpec)

/-- 'laws.FnExactWindowSums', WHERE WHAT IT READS IS OF BULK AT MOST 1048576: true; the input reads as it did. -/
def fnExactWindowSumsUptoRow : OpenClaim := { program := "ytllliommjkobeaa", sum := "c22529e127ae5898248201c1f496094de2d9ec3d6793572f9781fd2380a159ce", func := "loop.example/tallychains/laws.FnExactWindowSums", spec := "fnExactWindowSums", apart := false, narrowed := true }
def FnExactWindowSumsUptoSaid : Prop := fnExactWindowSumsUptoRow.holds Try.pinned (OpenSpec.upto fnExactWindowSumsSpec)

end Rows
end Go.Proofs.Ytllliommjkobeaa
