/-
  No cell of these rows narrows 'for every input' (looked for: loops, veiled, ifaces, maps, wideKeys, modest, calm, conditions, laid).
  DERIVED. THE GIVEN ROWS OF THIS SEAT. 12 by the template 'for every input the law returns true; each argument reads behind the call as it read before'; 0 by the template 'total and deterministic' (their statements: YtloalakpkjbeaaaTotals.lean).
  GIVEN WITH THE SEED: the statements are not yours to turn. If you find one false, say at which input.
  Laid BY PROGRAM, IN A SANDBOX (cutbox-rows.mjs): the forced cells as the released guide's own fill.sh prints them over the translation 4330ce75c1009de2… (all of the seat's roots in one cut). By AI agents, Wed Nov 11 2026. No macro, syntax, notation, axiom, sorry.
-/
import Derived.Test.YtloalakpkjbeaaaChecked
import GoSem.Claim
import GoSem.ClaimJoined
import GoSem.ClaimMapViews
import Derived.JoinedTies
import Derived.KernelRfl
namespace Go.Proofs.Ytloalakpkjbeaaa
/- THE CELL 'sum', in the pinned program and in every row, IS THE sha256 OF THE DUMP (.gsa) THAT YtloalakpkjbeaaaProg.lean LOADS. Nothing in Lean hashes anything: it is a label: what it is worth is what the hold of that sum in a sandbox is worth. -/
noncomputable def Try.pinned : Pinned := { name := "ytloalakpkjbeaaa", sum := "4330ce75c1009de2fd2981797fc6327433b2677ace542e2c0dda1bb95d5f3487", checked := Try.checked }
namespace Rows
def none {H : Type} : Left H := { results := [], args := [] }

/-- 'laws.FnValidItems': WHATEVER THE INPUT: true; the input reads as it did. -/
def fnValidItemsSpec : ChangeSpec := { name := "fnValidItems", fn := fun _ => fun
  | [d] => { results := [.lit (.bool true)], args := [d] }
  | _ => none }
def fnValidItemsRow : OpenClaim := { program := "ytloalakpkjbeaaa", sum := "4330ce75c1009de2fd2981797fc6327433b2677ace542e2c0dda1bb95d5f3487", func := "loop.example/tallychains/laws.FnValidItems", spec := "fnValidItems", apart := false }
def FnValidItemsSaid : Prop := fnValidItemsRow.holds Try.pinned (OpenSpec.ofChange fnValidItemsSpec)

/-- ITS FALSE NEIGHBOUR: 'it returns false'. Refute it at one input. -/
def fnValidItemsWrong : ChangeSpec := { name := "fnValidItems", fn := fun _ => fun
  | [d] => { results := [.lit (.bool false)], args := [d] }
  | _ => none }
def FnValidItemsWrongFalsely : Prop := fnValidItemsRow.holds Try.pinned (OpenSpec.ofChange fnValidItemsWrong)

/-- 'laws.FnCountOf': WHATEVER THE INPUT: true; the input reads as it did. -/
def fnCountOfSpec : ChangeSpec := { name := "fnCountOf", fn := fun _ => fun
  | [d] => { results := [.lit (.bool true)], args := [d] }
  | _ => none }
def fnCountOfRow : OpenClaim := { program := "ytloalakpkjbeaaa", sum := "4330ce75c1009de2fd2981797fc6327433b2677ace542e2c0dda1bb95d5f3487", func := "loop.example/tallychains/laws.FnCountOf", spec := "fnCountOf", unfollowed := true, recurses := true, apart := false }
def FnCountOfSaid : Prop := fnCountOfRow.holds Try.pinned (OpenSpec.ofChange fnCountOfSpec)

/-- ITS FALSE NEIGHBOUR: 'it returns false'. Refute it at one input. -/
def fnCountOfWrong : ChangeSpec := { name := "fnCountOf", fn := fun _ => fun
  | [d] => { results := [.lit (.bool false)], args := [d] }
  | _ => none }
def FnCountOfWrongFalsely : Prop := fnCountOfRow.holds Try.pinned (OpenSpec.ofChange fnCountOfWrong)

/-- 'laws.FnSubtractCounts': WHATEVER THE INPUT: true; the input reads as it did. -/
def fnSubtractCountsSpec : ChangeSpec := { name := "fnSubtractCounts", fn := fun _ => fun
  | [d] => { results := [.lit (.bool true)], args := [d] }
  | _ => none }
def fnSubtractCountsRow : OpenClaim := { program := "ytloalakpkjbeaaa", sum := "4330ce75c1009de2fd2981797fc6327433b2677ace542e2c0dda1bb95d5f3487", func := "loop.example/tallychains/laws.FnSubtractCounts", spec := "fnSubtractCounts", unfollowed := true, recurses := true, apart := false }
def FnSubtractCountsSaid : Prop := fnSubtractCountsRow.holds Try.pinned (OpenSpec.ofChange fnSubtractCountsSpec)

/-- ITS FALSE NEIGHBOUR: 'it returns false'. Refute it at one input. -/
def fnSubtractCountsWrong : ChangeSpec := { name := "fnSubtractCounts", fn := fun _ => fun
  | [d] => { results := [.lit (.bool false)], args := [d] }
  | _ => none }
def FnSubtractCountsWrongFalsely : Prop := fnSubtractCountsRow.holds Try.pinned (OpenSpec.ofChange fnSubtractCountsWrong)

/-- 'laws.FnAddCounts': WHATEVER THE INPUT: true; the input reads as it did. -/
def fnAddCountsSpec : ChangeSpec := { name := "fnAddCounts", fn := fun _ => fun
  | [d] => { results := [.lit (.bool true)], args := [d] }
  | _ => none }
def fnAddCountsRow : OpenClaim := { program := "ytloalakpkjbeaaa", sum := "4330ce75c1009de2fd2981797fc6327433b2677ace542e2c0dda1bb95d5f3487", func := "loop.example/tallychains/laws.FnAddCounts", spec := "fnAddCounts", unfollowed := true, recurses := true, apart := false }
def FnAddCountsSaid : Prop := fnAddCountsRow.holds Try.pinned (OpenSpec.ofChange fnAddCountsSpec)

/-- ITS FALSE NEIGHBOUR: 'it returns false'. Refute it at one input. -/
def fnAddCountsWrong : ChangeSpec := { name := "fnAddCounts", fn := fun _ => fun
  | [d] => { results := [.lit (.bool false)], args := [d] }
  | _ => none }
def FnAddCountsWrongFalsely : Prop := fnAddCountsRow.holds Try.pinned (OpenSpec.ofChange fnAddCountsWrong)

/-- 'laws.FnAddCountsChain': WHATEVER THE INPUT: true; the input reads as it did. -/
def fnAddCountsChainSpec : ChangeSpec := { name := "fnAddCountsChain", fn := fun _ => fun
  | [d] => { results := [.lit (.bool true)], args := [d] }
  | _ => none }
def fnAddCountsChainRow : OpenClaim := { program := "ytloalakpkjbeaaa", sum := "4330ce75c1009de2fd2981797fc6327433b2677ace542e2c0dda1bb95d5f3487", func := "loop.example/tallychains/laws.FnAddCountsChain", spec := "fnAddCountsChain", unfollowed := true, recurses := true, apart := false }
def FnAddCountsChainSaid : Prop := fnAddCountsChainRow.holds Try.pinned (OpenSpec.ofChange fnAddCountsChainSpec)

/-- ITS FALSE NEIGHBOUR: 'it returns false'. Refute it at one input. -/
def fnAddCountsChainWrong : ChangeSpec := { name := "fnAddCountsChain", fn := fun _ => fun
  | [d] => { results := [.lit (.bool false)], args := [d] }
  | _ => none }
def FnAddCountsChainWrongFalsely : Prop := fnAddCountsChainRow.holds Try.pinned (OpenSpec.ofChange fnAddCountsChainWrong)

/-- 'laws.FnLessCounts': WHATEVER THE INPUT: true; the input reads as it did. -/
def fnLessCountsSpec : ChangeSpec := { name := "fnLessCounts", fn := fun _ => fun
  | [d] => { results := [.lit (.bool true)], args := [d] }
  | _ => none }
def fnLessCountsRow : OpenClaim := { program := "ytloalakpkjbeaaa", sum := "4330ce75c1009de2fd2981797fc6327433b2677ace542e2c0dda1bb95d5f3487", func := "loop.example/tallychains/laws.FnLessCounts", spec := "fnLessCounts", unfollowed := true, recurses := true, apart := false }
def FnLessCountsSaid : Prop := fnLessCountsRow.holds Try.pinned (OpenSpec.ofChange fnLessCountsSpec)

/-- ITS FALSE NEIGHBOUR: 'it returns false'. Refute it at one input. -/
def fnLessCountsWrong : ChangeSpec := { name := "fnLessCounts", fn := fun _ => fun
  | [d] => { results := [.lit (.bool false)], args := [d] }
  | _ => none }
def FnLessCountsWrongFalsely : Prop := fnLessCountsRow.holds Try.pinned (OpenSpec.ofChange fnLessCountsWrong)

/-- 'laws.FnMeetCounts': WHATEVER THE INPUT: true; the input reads as it did. -/
def fnMeetCountsSpec : ChangeSpec := { name := "fnMeetCounts", fn := fun _ => fun
  | [d] => { results := [.lit (.bool true)], args := [d] }
  | _ => none }
def fnMeetCountsRow : OpenClaim := { program := "ytloalakpkjbeaaa", sum := "4330ce75c1009de2fd2981797fc6327433b2677ace542e2c0dda1bb95d5f3487", func := "loop.example/tallychains/laws.FnMeetCounts", spec := "fnMeetCounts", unfollowed := true, recurses := true, apart := false }
def FnMeetCountsSaid : Prop := fnMeetCountsRow.holds Try.pinned (OpenSpec.ofChange fnMeetCountsSpec)

/-- ITS FALSE NEIGHBOUR: 'it returns false'. Refute it at one input. -/
def fnMeetCountsWrong : ChangeSpec := { name := "fnMeetCounts", fn := fun _ => fun
  | [d] => { results := [.lit (.bool false)], args := [d] }
  | _ => none }
def FnMeetCountsWrongFalsely : Prop := fnMeetCountsRow.holds Try.pinned (OpenSpec.ofChange fnMeetCountsWrong)

/-- 'laws.FnJoinCounts': WHATEVER THE INPUT: true; the input reads as it did. -/
def fnJoinCountsSpec : ChangeSpec := { name := "fnJoinCounts", fn := fun _ => fun
  | [d] => { results := [.lit (.bool true)], args := [d] }
  | _ => none }
def fnJoinCountsRow : OpenClaim := { program := "ytloalakpkjbeaaa", sum := "4330ce75c1009de2fd2981797fc6327433b2677ace542e2c0dda1bb95d5f3487", func := "loop.example/tallychains/laws.FnJoinCounts", spec := "fnJoinCounts", unfollowed := true, recurses := true, apart := false }
def FnJoinCountsSaid : Prop := fnJoinCountsRow.holds Try.pinned (OpenSpec.ofChange fnJoinCountsSpec)

/-- ITS FALSE NEIGHBOUR: 'it returns false'. Refute it at one input. -/
def fnJoinCountsWrong : ChangeSpec := { name := "fnJoinCounts", fn := fun _ => fun
  | [d] => { results := [.lit (.bool false)], args := [d] }
  | _ => none }
def FnJoinCountsWrongFalsely : Prop := fnJoinCountsRow.holds Try.pinned (OpenSpec.ofChange fnJoinCountsWrong)

/-- 'laws.FnJoinCountsSpread': WHATEVER THE INPUT: true; the input reads as it did. -/
def fnJoinCountsSpreadSpec : ChangeSpec := { name := "fnJoinCountsSpread", fn := fun _ => fun
  | [d] => { results := [.lit (.bool true)], args := [d] }
  | _ => none }
def fnJoinCountsSpreadRow : OpenClaim := { program := "ytloalakpkjbeaaa", sum := "4330ce75c1009de2fd2981797fc6327433b2677ace542e2c0dda1bb95d5f3487", func := "loop.example/tallychains/laws.FnJoinCountsSpread", spec := "fnJoinCountsSpread", unfollowed := true, recurses := true, apart := false }
def FnJoinCountsSpreadSaid : Prop := fnJoinCountsSpreadRow.holds Try.pinned (OpenSpec.ofChange fnJoinCountsSpreadSpec)

/-- ITS FALSE NEIGHBOUR: 'it returns false'. Refute it at one input. -/
def fnJoinCountsSpreadWrong : ChangeSpec := { name := "fnJoinCountsSpread", fn := fun _ => fun
  | [d] => { results := [.lit (.bool false)], args := [d] }
  | _ => none }
def FnJoinCountsSpreadWrongFalsely : Prop := fnJoinCountsSpreadRow.holds Try.pinned (OpenSpec.ofChange fnJoinCountsSpreadWrong)

/-- 'laws.FnKeepCounts': WHATEVER THE INPUT: true; the input reads as it did. -/
def fnKeepCountsSpec : ChangeSpec := { name := "fnKeepCounts", fn := fun _ => fun
  | [d] => { results := [.lit (.bool true)], args := [d] }
  | _ => none }
def fnKeepCountsRow : OpenClaim := { program := "ytloalakpkjbeaaa", sum := "4330ce75c1009de2fd2981797fc6327433b2677ace542e2c0dda1bb95d5f3487", func := "loop.example/tallychains/laws.FnKeepCounts", spec := "fnKeepCounts", unfollowed := true, recurses := true, apart := false }
def FnKeepCountsSaid : Prop := fnKeepCountsRow.holds Try.pinned (OpenSpec.ofChange fnKeepCountsSpec)

/-- ITS FALSE NEIGHBOUR: 'it returns false'. Refute it at one input. -/
def fnKeepCountsWrong : ChangeSpec := { name := "fnKeepCounts", fn := fun _ => fun
  | [d] => { results := [.lit (.bool false)], args := [d] }
  | _ => none }
def FnKeepCountsWrongFalsely : Prop := fnKeepCountsRow.holds Try.pinned (OpenSpec.ofChange fnKeepCountsWrong)

/-- 'laws.FnTurnCounts': WHATEVER THE INPUT: true; the input reads as it did. -/
def fnTurnCountsSpec : ChangeSpec := { name := "fnTurnCounts", fn := fun _ => fun
  | [d] => { results := [.lit (.bool true)], args := [d] }
  | _ => none }
def fnTurnCountsRow : OpenClaim := { program := "ytloalakpkjbeaaa", sum := "4330ce75c1009de2fd2981797fc6327433b2677ace542e2c0dda1bb95d5f3487", func := "loop.example/tallychains/laws.FnTurnCounts", spec := "fnTurnCounts", unfollowed := true, recurses := true, apart := false }
def FnTurnCountsSaid : Prop := fnTurnCountsRow.holds Try.pinned (OpenSpec.ofChange fnTurnCountsSpec)

/-- ITS FALSE NEIGHBOUR: 'it returns false'. Refute it at one input. -/
def fnTurnCountsWrong : ChangeSpec := { name := "fnTurnCounts", fn := fun _ => fun
  | [d] => { results := [.lit (.bool false)], args := [d] }
  | _ => none }
def FnTurnCountsWrongFalsely : Prop := fnTurnCountsRow.holds Try.pinned (OpenSpec.ofChange fnTurnCountsWrong)

/-- 'laws.FnTotalCount': WHATEVER THE INPUT: true; the input reads as it did. -/
def fnTotalCountSpec : ChangeSpec := { name := "fnTotalCount", fn := fun _ => fun
  | [d] => { results := [.lit (.bool true)], args := [d] }
  | _ => none }
def fnTotalCountRow : OpenClaim := { program := "ytloalakpkjbeaaa", sum := "4330ce75c1009de2fd2981797fc6327433b2677ace542e2c0dda1bb95d5f3487", func := "loop.example/tallychains/laws.FnTotalCount", spec := "fnTotalCount", apart := false }
def FnTotalCountSaid : Prop := fnTotalCountRow.holds Try.pinned (OpenSpec.ofChange fnTotalCountSpec)

/-- ITS FALSE NEIGHBOUR: 'it returns false'. Refute it at one input. -/
def fnTotalCountWrong : ChangeSpec := { name := "fnTotalCount", fn := fun _ => fun
  | [d] => { results := [.lit (.bool false)], args := [d] }
  | _ => none }
def FnTotalCountWrongFalsely : Prop := fnTotalCountRow.holds Try.pinned (OpenSpec.ofChange fnTotalCountWrong)

/- THE SECOND FORM. 'bulk': how many values and letters a reading holds, each counted each time it is reached (what is shared counts as often as it is met; a slice's spare places count too). A statement '..UptoSaid' is the law's where the arguments, and the package variables that the reading takes, are together of bulk at most 1048576: NARROWER than '..Said'. Prove '..Said' where nothing that the law and all that it calls make is longer than what came in: it says more and counts as full. Else prove '..UptoSaid'. A law counts once. -/
mutual
def uptoBulk {H : Type} : DataW H → Nat
  | .lit (.string bytes) => bytes.length + 1
  | .lit _ => 1
  | .nil => 1
  | .ptr d => uptoBulk d + 1
  | .slice elems spare => uptoBulkAll elems + uptoBulkAll spare + 1
  | .agg parts => uptoBulkAll parts + 1
  | .iface _ d => uptoBulk d + 1
  | .map entries => uptoBulkEntries entries + 1
  | .held _ => 1
def uptoBulkAll {H : Type} : List (DataW H) → Nat
  | [] => 0
  | d :: r => uptoBulk d + uptoBulkAll r
def uptoBulkEntries {H : Type} : List (Lit × DataW H) → Nat
  | [] => 0
  | x :: r => uptoBulkEntry x + uptoBulkEntries r
def uptoBulkEntry {H : Type} : Lit × DataW H → Nat
  | (.string bytes, d) => bytes.length + uptoBulk d + 1
  | (_, d) => uptoBulk d + 1
 end
def uptoSmall : (H : Type) → List (DataW H) → Bool := fun _ ds => decide (uptoBulkAll ds ≤ 1048576)
def OpenSpec.upto (s : _root_.Go.ChangeSpec) : _root_.Go.OpenSpec := { _root_.Go.OpenSpec.ofChange s with cond := some uptoSmall }

/-- 'laws.FnValidItems', WHERE WHAT IT READS IS OF BULK AT MOST 1048576: true; the input reads as it did. -/
def fnValidItemsUptoRow : OpenClaim := { program := "ytloalakpkjbeaaa", sum := "4330ce75c1009de2fd2981797fc6327433b2677ace542e2c0dda1bb95d5f3487", func := "loop.example/tallychains/laws.FnValidItems", spec := "fnValidItems", apart := false, narrowed := true }
def FnValidItemsUptoSaid : Prop := fnValidItemsUptoRow.holds Try.pinned (OpenSpec.upto fnValidItemsSpec)

/-- 'laws.FnCountOf', WHERE WHAT IT READS IS OF BULK AT MOST 1048576: true; the input reads as it did. -/
def fnCountOfUptoRow : OpenClaim := { program := "ytloalakpkjbeaaa", sum := "4330ce75c1009de2fd2981797fc6327433b2677ace542e2c0dda1bb95d5f3487", func := "loop.example/tallychains/laws.FnCountOf", spec := "fnCountOf", unfollowed := true, recurses := true, apart := false, narrowed := true }
def FnCountOfUptoSaid : Prop := fnCountOfUptoRow.holds Try.pinned (OpenSpec.upto fnCountOfSpec)

/-- 'laws.FnSubtractCounts', WHERE WHAT IT READS IS OF BULK AT MOST 1048576: true; the input reads as it did. -/
def fnSubtractCountsUptoRow : OpenClaim := { program := "ytloalakpkjbeaaa", sum := "4330ce75c1009de2fd2981797fc6327433b2677ace542e2c0dda1bb95d5f3487", func := "loop.example/tallychains/laws.FnSubtractCounts", spec := "fnSubtractCounts", unfollowed := true, recurses := true, apart := false, narrowed := true }
def FnSubtractCountsUptoSaid : Prop := fnSubtractCountsUptoRow.holds Try.pinned (OpenSpec.upto fnSubtractCountsSpec)

/-- 'laws.FnAddCounts', WHERE WHAT IT READS IS OF BULK AT MOST 1048576: true; the input reads as it did. -/
def fnAddCountsUptoRow : OpenClaim := { program := "ytloalakpkjbeaaa", sum := "4330ce75c1009de2fd2981797fc6327433b2677ace542e2c0dda1bb95d5f3487", func := "loop.example/tallychains/laws.FnAddCounts", spec := "fnAddCounts", unfollowed := true, recurses := true, apart := false, narrowed := true }
def FnAddCountsUptoSaid : Prop := fnAddCountsUptoRow.holds Try.pinned (OpenSpec.upto fnAddCountsSpec)

/-- 'laws.FnAddCountsChain', WHERE WHAT IT READS IS OF BULK AT MOST 1048576: true; the input reads as it did. -/
def fnAddCountsChainUptoRow : OpenClaim := { program := "ytloalakpkjbeaaa", sum := "4330ce75c1009de2fd2981797fc6327433b2677ace542e2c0dda1bb95d5f3487", func := "loop.example/tallychains/laws.FnAddCountsChain", spec := "fnAddCountsChain", unfollowed := true, recurses := true, apart := false, narrowed := true }
def FnAddCountsChainUptoSaid : Prop := fnAddCountsChainUptoRow.holds Try.pinned (OpenSpec.upto fnAddCountsChainSpec)

/-- 'laws.FnLessCounts', WHERE WHAT IT READS IS OF BULK AT MOST 1048576: true; the input reads as it did. -/
def fnLessCountsUptoRow : OpenClaim := { program := "ytloalakpkjbeaaa", sum := "4330ce75c1009de2fd2981797fc6327433b2677ace542e2c0dda1bb95d5f3487", func := "loop.example/tallychains/laws.FnLessCounts", spec := "fnLessCounts", unfollowed := true, recurses := true, apart := false, narrowed := true }
def FnLessCountsUptoSaid : Prop := fnLessCountsUptoRow.holds Try.pinned (OpenSpec.upto fnLessCountsSpec)

/-- 'laws.FnMeetCounts', WHERE WHAT IT READS IS OF BULK AT MOST 1048576: true; the input reads as it did. -/
def fnMeetCountsUptoRow : OpenClaim := { program := "ytloalakpkjbeaaa", sum := "4330ce75c1009de2fd2981797fc6327433b2677ace542e2c0dda1bb95d5f3487", func := "loop.example/tallychains/laws.FnMeetCounts", spec := "fnMeetCounts", unfollowed := true, recurses := true, apart := false, narrowed := true }
def FnMeetCountsUptoSaid : Prop := fnMeetCountsUptoRow.holds Try.pinned (OpenSpec.upto fnMeetCountsSpec)

/-- 'laws.FnJoinCounts', WHERE WHAT IT READS IS OF BULK AT MOST 1048576: true; the input reads as it did. -/
def fnJoinCountsUptoRow : OpenClaim := { program := "ytloalakpkjbeaaa", sum := "4330ce75c1009de2fd2981797fc6327433b2677ace542e2c0dda1bb95d5f3487", func := "loop.example/tallychains/laws.FnJoinCounts", spec := "fnJoinCounts", unfollowed := true, recurses := true, apart := false, narrowed := true }
def FnJoinCountsUptoSaid : Prop := fnJoinCountsUptoRow.holds Try.pinned (OpenSpec.upto fnJoinCountsSpec)

/-- 'laws.FnJoinCountsSpread', WHERE WHAT IT READS IS OF BULK AT MOST 1048576: true; the input reads as it did. -/
def fnJoinCountsSpreadUptoRow : OpenClaim := { program := "ytloalakpkjbeaaa", sum := "4330ce75c1009de2fd2981797fc6327433b2677ace542e2c0dda1bb95d5f3487", func := "loop.example/tallychains/laws.FnJoinCountsSpread", spec := "fnJoinCountsSpread", unfollowed := true, recurses := true, apart := false, narrowed := true }
def FnJoinCountsSpreadUptoSaid : Prop := fnJoinCountsSpreadUptoRow.holds Try.pinned (OpenSpec.upto fnJoinCountsSpreadSpec)

/-- 'laws.FnKeepCounts', WHERE WHAT IT READS IS OF BULK AT MOST 1048576: true; the input reads as it did. -/
def fnKeepCountsUptoRow : OpenClaim := { program := "ytloalakpkjbeaaa", sum := "4330ce75c1009de2fd2981797fc6327433b2677ace542e2c0dda1bb95d5f3487", func := "loop.example/tallychains/laws.FnKeepCounts", spec := "fnKeepCounts", unfollowed := true, recurses := true, apart := false, narrowed := true }
def FnKeepCountsUptoSaid : Prop := fnKeepCountsUptoRow.holds Try.pinned (OpenSpec.upto fnKeepCountsSpec)

/-- 'laws.FnTurnCounts', WHERE WHAT IT READS IS OF BULK AT MOST 1048576: true; the input reads as it did. -/
def fnTurnCountsUptoRow : OpenClaim := { program := "ytloalakpkjbeaaa", sum := "4330ce75c1009de2fd2981797fc6327433b2677ace542e2c0dda1bb95d5f3487", func := "loop.example/tallychains/laws.FnTurnCounts", spec := "fnTurnCounts", unfollowed := true, recurses := true, apart := false, narrowed := true }
def FnTurnCountsUptoSaid : Prop := fnTurnCountsUptoRow.holds Try.pinned (OpenSpec.upto fnTurnCountsSpec)

/-- 'laws.FnTotalCount', WHERE WHAT IT READS IS OF BULK AT MOST 1048576: true; the input reads as it did. -/
def fnTotalCountUptoRow : OpenClaim := { program := "ytloalakpkjbeaaa", sum := "4330ce75c1009de2fd2981797fc6327433b2677ace542e2c0dda1bb95d5f3487", func := "loop.example/tallychains/laws.FnTotalCount", spec := "fnTotalCount", apart := false, narrowed := true }
def FnTotalCountUptoSaid : Prop := fnTotalCountUptoRow.holds Try.pinned (OpenSpec.upto fnTotalCountSpec)

end Rows
end Go.Proofs.Ytloalakpkjbeaaa
