/-
  No cell of these rows narrows 'for every input' (looked for: loops, veiled, ifaces, maps, wideKeys, modest, calm, conditions, laid).
  DERIVED. THE GIVEN ROWS OF THIS SEAT. 12 by the template 'for every input the law returns true; each argument reads behind the call as it read before'; 0 by the template 'total and deterministic' (their statements: YtmjcijhbhdfhdaaTotals.lean).
  GIVEN WITH THE SEED: the statements are not yours to turn. If you find one false, say at which input.
  Laid BY PROGRAM, IN A SANDBOX (cutbox-rows.mjs): the forced cells as the released guide's own fill.sh prints them over the translation c26b37d40370ab0b… (all of the seat's roots in one cut). By AI agents, Wed Nov 11 2026. No macro, syntax, notation, axiom, sorry.
-/
import Derived.Test.YtmjcijhbhdfhdaaChecked
import GoSem.Claim
import GoSem.ClaimJoined
import GoSem.ClaimMapViews
import Derived.JoinedTies
import Derived.KernelRfl
namespace Go.Proofs.Ytmjcijhbhdfhdaa
/- THE CELL 'sum', in the pinned program and in every row, IS THE sha256 OF THE DUMP (.gsa) THAT YtmjcijhbhdfhdaaProg.lean LOADS. Nothing in Lean hashes anything: it is a label: what it is worth is what the hold of that sum in a sandbox is worth. -/
noncomputable def Try.pinned : Pinned := { name := "ytmjcijhbhdfhdaa", sum := "c26b37d40370ab0b8623f0a401080037eba46b2ef0eb63d62c8a713dff4ed9ef", checked := Try.checked }
namespace Rows
def none {H : Type} : Left H := { results := [], args := [] }

/-- 'laws.FnUpdateCounts': WHATEVER THE INPUT: true; the input reads as it did. -/
def fnUpdateCountsSpec : ChangeSpec := { name := "fnUpdateCounts", fn := fun _ => fun
  | [d] => { results := [.lit (.bool true)], args := [d] }
  | _ => none }
def fnUpdateCountsRow : OpenClaim := { program := "ytmjcijhbhdfhdaa", sum := "c26b37d40370ab0b8623f0a401080037eba46b2ef0eb63d62c8a713dff4ed9ef", func := "loop.example/tallychains/laws.FnUpdateCounts", spec := "fnUpdateCounts", unfollowed := true, recurses := true, apart := false }
def FnUpdateCountsSaid : Prop := fnUpdateCountsRow.holds Try.pinned (OpenSpec.ofChange fnUpdateCountsSpec)

/-- ITS FALSE NEIGHBOUR: 'it returns false'. Refute it at one input. -/
def fnUpdateCountsWrong : ChangeSpec := { name := "fnUpdateCounts", fn := fun _ => fun
  | [d] => { results := [.lit (.bool false)], args := [d] }
  | _ => none }
def FnUpdateCountsWrongFalsely : Prop := fnUpdateCountsRow.holds Try.pinned (OpenSpec.ofChange fnUpdateCountsWrong)

/-- 'laws.FnDropZero': WHATEVER THE INPUT: true; the input reads as it did. -/
def fnDropZeroSpec : ChangeSpec := { name := "fnDropZero", fn := fun _ => fun
  | [d] => { results := [.lit (.bool true)], args := [d] }
  | _ => none }
def fnDropZeroRow : OpenClaim := { program := "ytmjcijhbhdfhdaa", sum := "c26b37d40370ab0b8623f0a401080037eba46b2ef0eb63d62c8a713dff4ed9ef", func := "loop.example/tallychains/laws.FnDropZero", spec := "fnDropZero", unfollowed := true, recurses := true, apart := false }
def FnDropZeroSaid : Prop := fnDropZeroRow.holds Try.pinned (OpenSpec.ofChange fnDropZeroSpec)

/-- ITS FALSE NEIGHBOUR: 'it returns false'. Refute it at one input. -/
def fnDropZeroWrong : ChangeSpec := { name := "fnDropZero", fn := fun _ => fun
  | [d] => { results := [.lit (.bool false)], args := [d] }
  | _ => none }
def FnDropZeroWrongFalsely : Prop := fnDropZeroRow.holds Try.pinned (OpenSpec.ofChange fnDropZeroWrong)

/-- 'laws.FnMostCommon': WHATEVER THE INPUT: true; the input reads as it did. -/
def fnMostCommonSpec : ChangeSpec := { name := "fnMostCommon", fn := fun _ => fun
  | [d] => { results := [.lit (.bool true)], args := [d] }
  | _ => none }
def fnMostCommonRow : OpenClaim := { program := "ytmjcijhbhdfhdaa", sum := "c26b37d40370ab0b8623f0a401080037eba46b2ef0eb63d62c8a713dff4ed9ef", func := "loop.example/tallychains/laws.FnMostCommon", spec := "fnMostCommon", unfollowed := true, recurses := true, apart := false }
def FnMostCommonSaid : Prop := fnMostCommonRow.holds Try.pinned (OpenSpec.ofChange fnMostCommonSpec)

/-- ITS FALSE NEIGHBOUR: 'it returns false'. Refute it at one input. -/
def fnMostCommonWrong : ChangeSpec := { name := "fnMostCommon", fn := fun _ => fun
  | [d] => { results := [.lit (.bool false)], args := [d] }
  | _ => none }
def FnMostCommonWrongFalsely : Prop := fnMostCommonRow.holds Try.pinned (OpenSpec.ofChange fnMostCommonWrong)

/-- 'laws.FnWithinCounts': WHATEVER THE INPUT: true; the input reads as it did. -/
def fnWithinCountsSpec : ChangeSpec := { name := "fnWithinCounts", fn := fun _ => fun
  | [d] => { results := [.lit (.bool true)], args := [d] }
  | _ => none }
def fnWithinCountsRow : OpenClaim := { program := "ytmjcijhbhdfhdaa", sum := "c26b37d40370ab0b8623f0a401080037eba46b2ef0eb63d62c8a713dff4ed9ef", func := "loop.example/tallychains/laws.FnWithinCounts", spec := "fnWithinCounts", unfollowed := true, recurses := true, apart := false }
def FnWithinCountsSaid : Prop := fnWithinCountsRow.holds Try.pinned (OpenSpec.ofChange fnWithinCountsSpec)

/-- ITS FALSE NEIGHBOUR: 'it returns false'. Refute it at one input. -/
def fnWithinCountsWrong : ChangeSpec := { name := "fnWithinCounts", fn := fun _ => fun
  | [d] => { results := [.lit (.bool false)], args := [d] }
  | _ => none }
def FnWithinCountsWrongFalsely : Prop := fnWithinCountsRow.holds Try.pinned (OpenSpec.ofChange fnWithinCountsWrong)

/-- 'laws.FnSameCounts': WHATEVER THE INPUT: true; the input reads as it did. -/
def fnSameCountsSpec : ChangeSpec := { name := "fnSameCounts", fn := fun _ => fun
  | [d] => { results := [.lit (.bool true)], args := [d] }
  | _ => none }
def fnSameCountsRow : OpenClaim := { program := "ytmjcijhbhdfhdaa", sum := "c26b37d40370ab0b8623f0a401080037eba46b2ef0eb63d62c8a713dff4ed9ef", func := "loop.example/tallychains/laws.FnSameCounts", spec := "fnSameCounts", unfollowed := true, recurses := true, apart := false }
def FnSameCountsSaid : Prop := fnSameCountsRow.holds Try.pinned (OpenSpec.ofChange fnSameCountsSpec)

/-- ITS FALSE NEIGHBOUR: 'it returns false'. Refute it at one input. -/
def fnSameCountsWrong : ChangeSpec := { name := "fnSameCounts", fn := fun _ => fun
  | [d] => { results := [.lit (.bool false)], args := [d] }
  | _ => none }
def FnSameCountsWrongFalsely : Prop := fnSameCountsRow.holds Try.pinned (OpenSpec.ofChange fnSameCountsWrong)

/-- 'laws.FnGetItem': WHATEVER THE INPUT: true; the input reads as it did. -/
def fnGetItemSpec : ChangeSpec := { name := "fnGetItem", fn := fun _ => fun
  | [d] => { results := [.lit (.bool true)], args := [d] }
  | _ => none }
def fnGetItemRow : OpenClaim := { program := "ytmjcijhbhdfhdaa", sum := "c26b37d40370ab0b8623f0a401080037eba46b2ef0eb63d62c8a713dff4ed9ef", func := "loop.example/tallychains/laws.FnGetItem", spec := "fnGetItem", unfollowed := true, recurses := true, apart := false }
def FnGetItemSaid : Prop := fnGetItemRow.holds Try.pinned (OpenSpec.ofChange fnGetItemSpec)

/-- ITS FALSE NEIGHBOUR: 'it returns false'. Refute it at one input. -/
def fnGetItemWrong : ChangeSpec := { name := "fnGetItem", fn := fun _ => fun
  | [d] => { results := [.lit (.bool false)], args := [d] }
  | _ => none }
def FnGetItemWrongFalsely : Prop := fnGetItemRow.holds Try.pinned (OpenSpec.ofChange fnGetItemWrong)

/-- 'laws.FnPutItem': WHATEVER THE INPUT: true; the input reads as it did. -/
def fnPutItemSpec : ChangeSpec := { name := "fnPutItem", fn := fun _ => fun
  | [d] => { results := [.lit (.bool true)], args := [d] }
  | _ => none }
def fnPutItemRow : OpenClaim := { program := "ytmjcijhbhdfhdaa", sum := "c26b37d40370ab0b8623f0a401080037eba46b2ef0eb63d62c8a713dff4ed9ef", func := "loop.example/tallychains/laws.FnPutItem", spec := "fnPutItem", unfollowed := true, recurses := true, apart := false }
def FnPutItemSaid : Prop := fnPutItemRow.holds Try.pinned (OpenSpec.ofChange fnPutItemSpec)

/-- ITS FALSE NEIGHBOUR: 'it returns false'. Refute it at one input. -/
def fnPutItemWrong : ChangeSpec := { name := "fnPutItem", fn := fun _ => fun
  | [d] => { results := [.lit (.bool false)], args := [d] }
  | _ => none }
def FnPutItemWrongFalsely : Prop := fnPutItemRow.holds Try.pinned (OpenSpec.ofChange fnPutItemWrong)

/-- 'laws.FnDropItem': WHATEVER THE INPUT: true; the input reads as it did. -/
def fnDropItemSpec : ChangeSpec := { name := "fnDropItem", fn := fun _ => fun
  | [d] => { results := [.lit (.bool true)], args := [d] }
  | _ => none }
def fnDropItemRow : OpenClaim := { program := "ytmjcijhbhdfhdaa", sum := "c26b37d40370ab0b8623f0a401080037eba46b2ef0eb63d62c8a713dff4ed9ef", func := "loop.example/tallychains/laws.FnDropItem", spec := "fnDropItem", unfollowed := true, recurses := true, apart := false }
def FnDropItemSaid : Prop := fnDropItemRow.holds Try.pinned (OpenSpec.ofChange fnDropItemSpec)

/-- ITS FALSE NEIGHBOUR: 'it returns false'. Refute it at one input. -/
def fnDropItemWrong : ChangeSpec := { name := "fnDropItem", fn := fun _ => fun
  | [d] => { results := [.lit (.bool false)], args := [d] }
  | _ => none }
def FnDropItemWrongFalsely : Prop := fnDropItemRow.holds Try.pinned (OpenSpec.ofChange fnDropItemWrong)

/-- 'laws.FnMoveItem': WHATEVER THE INPUT: true; the input reads as it did. -/
def fnMoveItemSpec : ChangeSpec := { name := "fnMoveItem", fn := fun _ => fun
  | [d] => { results := [.lit (.bool true)], args := [d] }
  | _ => none }
def fnMoveItemRow : OpenClaim := { program := "ytmjcijhbhdfhdaa", sum := "c26b37d40370ab0b8623f0a401080037eba46b2ef0eb63d62c8a713dff4ed9ef", func := "loop.example/tallychains/laws.FnMoveItem", spec := "fnMoveItem", unfollowed := true, recurses := true, apart := false }
def FnMoveItemSaid : Prop := fnMoveItemRow.holds Try.pinned (OpenSpec.ofChange fnMoveItemSpec)

/-- ITS FALSE NEIGHBOUR: 'it returns false'. Refute it at one input. -/
def fnMoveItemWrong : ChangeSpec := { name := "fnMoveItem", fn := fun _ => fun
  | [d] => { results := [.lit (.bool false)], args := [d] }
  | _ => none }
def FnMoveItemWrongFalsely : Prop := fnMoveItemRow.holds Try.pinned (OpenSpec.ofChange fnMoveItemWrong)

/-- 'laws.FnPopItem': WHATEVER THE INPUT: true; the input reads as it did. -/
def fnPopItemSpec : ChangeSpec := { name := "fnPopItem", fn := fun _ => fun
  | [d] => { results := [.lit (.bool true)], args := [d] }
  | _ => none }
def fnPopItemRow : OpenClaim := { program := "ytmjcijhbhdfhdaa", sum := "c26b37d40370ab0b8623f0a401080037eba46b2ef0eb63d62c8a713dff4ed9ef", func := "loop.example/tallychains/laws.FnPopItem", spec := "fnPopItem", unfollowed := true, recurses := true, apart := false }
def FnPopItemSaid : Prop := fnPopItemRow.holds Try.pinned (OpenSpec.ofChange fnPopItemSpec)

/-- ITS FALSE NEIGHBOUR: 'it returns false'. Refute it at one input. -/
def fnPopItemWrong : ChangeSpec := { name := "fnPopItem", fn := fun _ => fun
  | [d] => { results := [.lit (.bool false)], args := [d] }
  | _ => none }
def FnPopItemWrongFalsely : Prop := fnPopItemRow.holds Try.pinned (OpenSpec.ofChange fnPopItemWrong)

/-- 'laws.FnPlaceOf': WHATEVER THE INPUT: true; the input reads as it did. -/
def fnPlaceOfSpec : ChangeSpec := { name := "fnPlaceOf", fn := fun _ => fun
  | [d] => { results := [.lit (.bool true)], args := [d] }
  | _ => none }
def fnPlaceOfRow : OpenClaim := { program := "ytmjcijhbhdfhdaa", sum := "c26b37d40370ab0b8623f0a401080037eba46b2ef0eb63d62c8a713dff4ed9ef", func := "loop.example/tallychains/laws.FnPlaceOf", spec := "fnPlaceOf", unfollowed := true, recurses := true, apart := false }
def FnPlaceOfSaid : Prop := fnPlaceOfRow.holds Try.pinned (OpenSpec.ofChange fnPlaceOfSpec)

/-- ITS FALSE NEIGHBOUR: 'it returns false'. Refute it at one input. -/
def fnPlaceOfWrong : ChangeSpec := { name := "fnPlaceOf", fn := fun _ => fun
  | [d] => { results := [.lit (.bool false)], args := [d] }
  | _ => none }
def FnPlaceOfWrongFalsely : Prop := fnPlaceOfRow.holds Try.pinned (OpenSpec.ofChange fnPlaceOfWrong)

/-- 'laws.FnSameItems': WHATEVER THE INPUT: true; the input reads as it did. -/
def fnSameItemsSpec : ChangeSpec := { name := "fnSameItems", fn := fun _ => fun
  | [d] => { results := [.lit (.bool true)], args := [d] }
  | _ => none }
def fnSameItemsRow : OpenClaim := { program := "ytmjcijhbhdfhdaa", sum := "c26b37d40370ab0b8623f0a401080037eba46b2ef0eb63d62c8a713dff4ed9ef", func := "loop.example/tallychains/laws.FnSameItems", spec := "fnSameItems", unfollowed := true, recurses := true, apart := false }
def FnSameItemsSaid : Prop := fnSameItemsRow.holds Try.pinned (OpenSpec.ofChange fnSameItemsSpec)

/-- ITS FALSE NEIGHBOUR: 'it returns false'. Refute it at one input. -/
def fnSameItemsWrong : ChangeSpec := { name := "fnSameItems", fn := fun _ => fun
  | [d] => { results := [.lit (.bool false)], args := [d] }
  | _ => none }
def FnSameItemsWrongFalsely : Prop := fnSameItemsRow.holds Try.pinned (OpenSpec.ofChange fnSameItemsWrong)

/- THE SECOND FORM. 'bulk': how many values and letters a reading holds, each counted each time it is reached (what is shared counts as often as it is met; a slice's spare places count too). A statement '..UptoSaid' is the law's where the arguments, and the package variables that the reading takes, are together of bulk at most 1048576: NARROWER than '..Said'. Prove '..Said' where nothing that the law and all that it calls make is longer than what came in: it says more and counts as full. Else prove '..UptoSaid'. A law counts once. -/
mutual
def uptoBulk {H : Type} : DataW H → Nat
  | .lit (.string bytes) => bytes.length + 1
  | .lit _ => 1
  | .nil => 1
  | .ptr d => uptoBulk d + 1
  | .slice elems spare => uptoBulkAll elems + uptoBulkAll spare + 1
  | .agg parts => uptoBulkAll parts + 1
  | .iface _ d => uptoBulk d + 1
  | .map entries => uptoBulkEntries entries + 1
  | .held _ => 1
def uptoBulkAll {H : Type} : List (DataW H) → Nat
  | [] => 0
  | d :: r => uptoBulk d + uptoBulkAll r
def uptoBulkEntries {H : Type} : List (Lit × DataW H) → Nat
  | [] => 0
  | x :: r => uptoBulkEntry x + uptoBulkEntries r
def uptoBulkEntry {H : Type} : Lit × DataW H → Nat
  | (.string bytes, d) => bytes.length + uptoBulk d + 1
  | (_, d) => uptoBulk d + 1
 end
def uptoSmall : (H : Type) → List (DataW H) → Bool := fun _ ds => decide (uptoBulkAll ds ≤ 1048576)
def OpenSpec.upto (s : _root_.Go.ChangeSpec) : _root_.Go.OpenSpec := { _root_.Go.OpenSpec.ofChange s with cond := some uptoSmall }

/-- 'laws.FnUpdateCounts', WHERE WHAT IT READS IS OF BULK AT MOST 1048576: true; the input reads as it did. -/
def fnUpdateCountsUptoRow : OpenClaim := { program := "ytmjcijhbhdfhdaa", sum := "c26b37d40370ab0b8623f0a401080037eba46b2ef0eb63d62c8a713dff4ed9ef", func := "loop.example/tallychains/laws.FnUpdateCounts", spec := "fnUpdateCounts", unfollowed := true, recurses := true, apart := false, narrowed := true }
def FnUpdateCountsUptoSaid : Prop := fnUpdateCountsUptoRow.holds Try.pinned (OpenSpec.upto fnUpdateCountsSpec)

/-- 'laws.FnDropZero', WHERE WHAT IT READS IS OF BULK AT MOST 1048576: true; the input reads as it did. -/
def fnDropZeroUptoRow : OpenClaim := { program := "ytmjcijhbhdfhdaa", sum := "c26b37d40370ab0b8623f0a401080037eba46b2ef0eb63d62c8a713dff4ed9ef", func := "loop.example/tallychains/laws.FnDropZero", spec := "fnDropZero", unfollowed := true, recurses := true, apart := false, narrowed := true }
def FnDropZeroUptoSaid : Prop := fnDropZeroUptoRow.holds Try.pinned (OpenSpec.upto fnDropZeroSpec)

/-- 'laws.FnMostCommon', WHERE WHAT IT READS IS OF BULK AT MOST 1048576: true; the input reads as it did. -/
def fnMostCommonUptoRow : OpenClaim := { program := "ytmjcijhbhdfhdaa", sum := "c26b37d40370ab0b8623f0a401080037eba46b2ef0eb63d62c8a713dff4ed9ef", func := "loop.example/tallychains/laws.FnMostCommon", spec := "fnMostCommon", unfollowed := true, recurses := true, apart := false, narrowed := true }
def FnMostCommonUptoSaid : Prop := fnMostCommonUptoRow.holds Try.pinned (OpenSpec.upto fnMostCommonSpec)

/-- 'laws.FnWithinCounts', WHERE WHAT IT READS IS OF BULK AT MOST 1048576: true; the input reads as it did. -/
def fnWithinCountsUptoRow : OpenClaim := { program := "ytmjcijhbhdfhdaa", sum := "c26b37d40370ab0b8623f0a401080037eba46b2ef0eb63d62c8a713dff4ed9ef", func := "loop.example/tallychains/laws.FnWithinCounts", spec := "fnWithinCounts", unfollowed := true, recurses := true, apart := false, narrowed := true }
def FnWithinCountsUptoSaid : Prop := fnWithinCountsUptoRow.holds Try.pinned (OpenSpec.upto fnWithinCountsSpec)

/-- 'laws.FnSameCounts', WHERE WHAT IT READS IS OF BULK AT MOST 1048576: true; the input reads as it did. -/
def fnSameCountsUptoRow : OpenClaim := { program := "ytmjcijhbhdfhdaa", sum := "c26b37d40370ab0b8623f0a401080037eba46b2ef0eb63d62c8a713dff4ed9ef", func := "loop.example/tallychains/laws.FnSameCounts", spec := "fnSameCounts", unfollowed := true, recurses := true, apart := false, narrowed := true }
def FnSameCountsUptoSaid : Prop := fnSameCountsUptoRow.holds Try.pinned (OpenSpec.upto fnSameCountsSpec)

/-- 'laws.FnGetItem', WHERE WHAT IT READS IS OF BULK AT MOST 1048576: true; the input reads as it did. -/
def fnGetItemUptoRow : OpenClaim := { program := "ytmjcijhbhdfhdaa", sum := "c26b37d40370ab0b8623f0a401080037eba46b2ef0eb63d62c8a713dff4ed9ef", func := "loop.example/tallychains/laws.FnGetItem", spec := "fnGetItem", unfollowed := true, recurses := true, apart := false, narrowed := true }
def FnGetItemUptoSaid : Prop := fnGetItemUptoRow.holds Try.pinned (OpenSpec.upto fnGetItemSpec)

/-- 'laws.FnPutItem', WHERE WHAT IT READS IS OF BULK AT MOST 1048576: true; the input reads as it did. -/
def fnPutItemUptoRow : OpenClaim := { program := "ytmjcijhbhdfhdaa", sum := "c26b37d40370ab0b8623f0a401080037eba46b2ef0eb63d62c8a713dff4ed9ef", func := "loop.example/tallychains/laws.FnPutItem", spec := "fnPutItem", unfollowed := true, recurses := true, apart := false, narrowed := true }
def FnPutItemUptoSaid : Prop := fnPutItemUptoRow.holds Try.pinned (OpenSpec.upto fnPutItemSpec)

/-- 'laws.FnDropItem', WHERE WHAT IT READS IS OF BULK AT MOST 1048576: true; the input reads as it did. -/
def fnDropItemUptoRow : OpenClaim := { program := "ytmjcijhbhdfhdaa", sum := "c26b37d40370ab0b8623f0a401080037eba46b2ef0eb63d62c8a713dff4ed9ef", func := "loop.example/tallychains/laws.FnDropItem", spec := "fnDropItem", unfollowed := true, recurses := true, apart := false, narrowed := true }
def FnDropItemUptoSaid : Prop := fnDropItemUptoRow.holds Try.pinned (OpenSpec.upto fnDropItemSpec)

/-- 'laws.FnMoveItem', WHERE WHAT IT READS IS OF BULK AT MOST 1048576: true; the input reads as it did. -/
def fnMoveItemUptoRow : OpenClaim := { program := "ytmjcijhbhdfhdaa", sum := "c26b37d40370ab0b8623f0a401080037eba46b2ef0eb63d62c8a713dff4ed9ef", func := "loop.example/tallychains/laws.FnMoveItem", spec := "fnMoveItem", unfollowed := true, recurses := true, apart := false, narrowed := true }
def FnMoveItemUptoSaid : Prop := fnMoveItemUptoRow.holds Try.pinned (OpenSpec.upto fnMoveItemSpec)

/-- 'laws.FnPopItem', WHERE WHAT IT READS IS OF BULK AT MOST 1048576: true; the input reads as it did. -/
def fnPopItemUptoRow : OpenClaim := { program := "ytmjcijhbhdfhdaa", sum := "c26b37d40370ab0b8623f0a401080037eba46b2ef0eb63d62c8a713dff4ed9ef", func := "loop.example/tallychains/laws.FnPopItem", spec := "fnPopItem", unfollowed := true, recurses := true, apart := false, narrowed := true }
def FnPopItemUptoSaid : Prop := fnPopItemUptoRow.holds Try.pinned (OpenSpec.upto fnPopItemSpec)

/-- 'laws.FnPlaceOf', WHERE WHAT IT READS IS OF BULK AT MOST 1048576: true; the input reads as it did. -/
def fnPlaceOfUptoRow : OpenClaim := { program := "ytmjcijhbhdfhdaa", sum := "c26b37d40370ab0b8623f0a401080037eba46b2ef0eb63d62c8a713dff4ed9ef", func := "loop.example/tallychains/laws.FnPlaceOf", spec := "fnPlaceOf", unfollowed := true, recurses := true, apart := false, narrowed := true }
def FnPlaceOfUptoSaid : Prop := fnPlaceOfUptoRow.holds Try.pinned (OpenSpec.upto fnPlaceOfSpec)

/-- 'laws.FnSameItems', WHERE WHAT IT READS IS OF BULK AT MOST 1048576: true; the input reads as it did. -/
def fnSameItemsUptoRow : OpenClaim := { program := "ytmjcijhbhdfhdaa", sum := "c26b37d40370ab0b8623f0a401080037eba46b2ef0eb63d62c8a713dff4ed9ef", func := "loop.example/tallychains/laws.FnSameItems", spec := "fnSameItems", unfollowed := true, recurses := true, apart := false, narrowed := true }
def FnSameItemsUptoSaid : Prop := fnSameItemsUptoRow.holds Try.pinned (OpenSpec.upto fnSameItemsSpec)

end Rows
end Go.Proofs.Ytmjcijhbhdfhdaa
