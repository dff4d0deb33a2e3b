/-
  No cell of these rows narrows 'for every input' (looked for: loops, veiled, ifaces, maps, wideKeys, modest, calm, conditions, laid).
  DERIVED. THE GIVEN ROWS OF THIS SEAT. 12 by the template 'for every input the law returns true; each argument reads behind the call as it read before'; 0 by the template 'total and deterministic' (their statements: YtfjgmnlbchcabaaTotals.lean).
  GIVEN WITH THE SEED: the statements are not yours to turn. If you find one false, say at which input.
  Laid BY PROGRAM, IN A SANDBOX (cutbox-rows.mjs): the forced cells as the released guide's own fill.sh prints them over the translation f42902bfc642ef63… (all of the seat's roots in one cut). By AI agents, Wed Nov 11 2026. No macro, syntax, notation, axiom, sorry.
-/
import Derived.Test.YtfjgmnlbchcabaaChecked
import GoSem.Claim
import GoSem.ClaimJoined
import GoSem.ClaimMapViews
import Derived.JoinedTies
import Derived.KernelRfl
namespace Go.Proofs.Ytfjgmnlbchcabaa
/- THE CELL 'sum', in the pinned program and in every row, IS THE sha256 OF THE DUMP (.gsa) THAT YtfjgmnlbchcabaaProg.lean LOADS. Nothing in Lean hashes anything: it is a label: what it is worth is what the hold of that sum in a sandbox is worth. -/
noncomputable def Try.pinned : Pinned := { name := "ytfjgmnlbchcabaa", sum := "f42902bfc642ef6382bc730e19f43cfcd96ab0a3c2f08c74b621e3fadd7b42f5", checked := Try.checked }
namespace Rows
def none {H : Type} : Left H := { results := [], args := [] }

/-- 'laws.FnOverItems': WHATEVER THE INPUT: true; the input reads as it did. -/
def fnOverItemsSpec : ChangeSpec := { name := "fnOverItems", fn := fun _ => fun
  | [d] => { results := [.lit (.bool true)], args := [d] }
  | _ => none }
def fnOverItemsRow : OpenClaim := { program := "ytfjgmnlbchcabaa", sum := "f42902bfc642ef6382bc730e19f43cfcd96ab0a3c2f08c74b621e3fadd7b42f5", func := "loop.example/tallychains/laws.FnOverItems", spec := "fnOverItems", unfollowed := true, recurses := true, apart := false }
def FnOverItemsSaid : Prop := fnOverItemsRow.holds Try.pinned (OpenSpec.ofChange fnOverItemsSpec)

/-- ITS FALSE NEIGHBOUR: 'it returns false'. Refute it at one input. -/
def fnOverItemsWrong : ChangeSpec := { name := "fnOverItems", fn := fun _ => fun
  | [d] => { results := [.lit (.bool false)], args := [d] }
  | _ => none }
def FnOverItemsWrongFalsely : Prop := fnOverItemsRow.holds Try.pinned (OpenSpec.ofChange fnOverItemsWrong)

/-- 'laws.FnOverItemsChain': WHATEVER THE INPUT: true; the input reads as it did. -/
def fnOverItemsChainSpec : ChangeSpec := { name := "fnOverItemsChain", fn := fun _ => fun
  | [d] => { results := [.lit (.bool true)], args := [d] }
  | _ => none }
def fnOverItemsChainRow : OpenClaim := { program := "ytfjgmnlbchcabaa", sum := "f42902bfc642ef6382bc730e19f43cfcd96ab0a3c2f08c74b621e3fadd7b42f5", func := "loop.example/tallychains/laws.FnOverItemsChain", spec := "fnOverItemsChain", unfollowed := true, recurses := true, apart := false }
def FnOverItemsChainSaid : Prop := fnOverItemsChainRow.holds Try.pinned (OpenSpec.ofChange fnOverItemsChainSpec)

/-- ITS FALSE NEIGHBOUR: 'it returns false'. Refute it at one input. -/
def fnOverItemsChainWrong : ChangeSpec := { name := "fnOverItemsChain", fn := fun _ => fun
  | [d] => { results := [.lit (.bool false)], args := [d] }
  | _ => none }
def FnOverItemsChainWrongFalsely : Prop := fnOverItemsChainRow.holds Try.pinned (OpenSpec.ofChange fnOverItemsChainWrong)

/-- 'laws.FnDefaultItem': WHATEVER THE INPUT: true; the input reads as it did. -/
def fnDefaultItemSpec : ChangeSpec := { name := "fnDefaultItem", fn := fun _ => fun
  | [d] => { results := [.lit (.bool true)], args := [d] }
  | _ => none }
def fnDefaultItemRow : OpenClaim := { program := "ytfjgmnlbchcabaa", sum := "f42902bfc642ef6382bc730e19f43cfcd96ab0a3c2f08c74b621e3fadd7b42f5", func := "loop.example/tallychains/laws.FnDefaultItem", spec := "fnDefaultItem", unfollowed := true, recurses := true, apart := false }
def FnDefaultItemSaid : Prop := fnDefaultItemRow.holds Try.pinned (OpenSpec.ofChange fnDefaultItemSpec)

/-- ITS FALSE NEIGHBOUR: 'it returns false'. Refute it at one input. -/
def fnDefaultItemWrong : ChangeSpec := { name := "fnDefaultItem", fn := fun _ => fun
  | [d] => { results := [.lit (.bool false)], args := [d] }
  | _ => none }
def FnDefaultItemWrongFalsely : Prop := fnDefaultItemRow.holds Try.pinned (OpenSpec.ofChange fnDefaultItemWrong)

/-- 'laws.FnRenameItem': WHATEVER THE INPUT: true; the input reads as it did. -/
def fnRenameItemSpec : ChangeSpec := { name := "fnRenameItem", fn := fun _ => fun
  | [d] => { results := [.lit (.bool true)], args := [d] }
  | _ => none }
def fnRenameItemRow : OpenClaim := { program := "ytfjgmnlbchcabaa", sum := "f42902bfc642ef6382bc730e19f43cfcd96ab0a3c2f08c74b621e3fadd7b42f5", func := "loop.example/tallychains/laws.FnRenameItem", spec := "fnRenameItem", unfollowed := true, recurses := true, apart := false }
def FnRenameItemSaid : Prop := fnRenameItemRow.holds Try.pinned (OpenSpec.ofChange fnRenameItemSpec)

/-- ITS FALSE NEIGHBOUR: 'it returns false'. Refute it at one input. -/
def fnRenameItemWrong : ChangeSpec := { name := "fnRenameItem", fn := fun _ => fun
  | [d] => { results := [.lit (.bool false)], args := [d] }
  | _ => none }
def FnRenameItemWrongFalsely : Prop := fnRenameItemRow.holds Try.pinned (OpenSpec.ofChange fnRenameItemWrong)

/-- 'laws.FnTurnItems': WHATEVER THE INPUT: true; the input reads as it did. -/
def fnTurnItemsSpec : ChangeSpec := { name := "fnTurnItems", fn := fun _ => fun
  | [d] => { results := [.lit (.bool true)], args := [d] }
  | _ => none }
def fnTurnItemsRow : OpenClaim := { program := "ytfjgmnlbchcabaa", sum := "f42902bfc642ef6382bc730e19f43cfcd96ab0a3c2f08c74b621e3fadd7b42f5", func := "loop.example/tallychains/laws.FnTurnItems", spec := "fnTurnItems", apart := false }
def FnTurnItemsSaid : Prop := fnTurnItemsRow.holds Try.pinned (OpenSpec.ofChange fnTurnItemsSpec)

/-- ITS FALSE NEIGHBOUR: 'it returns false'. Refute it at one input. -/
def fnTurnItemsWrong : ChangeSpec := { name := "fnTurnItems", fn := fun _ => fun
  | [d] => { results := [.lit (.bool false)], args := [d] }
  | _ => none }
def FnTurnItemsWrongFalsely : Prop := fnTurnItemsRow.holds Try.pinned (OpenSpec.ofChange fnTurnItemsWrong)

/-- 'laws.FnSortKeys': WHATEVER THE INPUT: true; the input reads as it did. -/
def fnSortKeysSpec : ChangeSpec := { name := "fnSortKeys", fn := fun _ => fun
  | [d] => { results := [.lit (.bool true)], args := [d] }
  | _ => none }
def fnSortKeysRow : OpenClaim := { program := "ytfjgmnlbchcabaa", sum := "f42902bfc642ef6382bc730e19f43cfcd96ab0a3c2f08c74b621e3fadd7b42f5", func := "loop.example/tallychains/laws.FnSortKeys", spec := "fnSortKeys", unfollowed := true, recurses := true, apart := false }
def FnSortKeysSaid : Prop := fnSortKeysRow.holds Try.pinned (OpenSpec.ofChange fnSortKeysSpec)

/-- ITS FALSE NEIGHBOUR: 'it returns false'. Refute it at one input. -/
def fnSortKeysWrong : ChangeSpec := { name := "fnSortKeys", fn := fun _ => fun
  | [d] => { results := [.lit (.bool false)], args := [d] }
  | _ => none }
def FnSortKeysWrongFalsely : Prop := fnSortKeysRow.holds Try.pinned (OpenSpec.ofChange fnSortKeysWrong)

/-- 'laws.FnInKeyOrder': WHATEVER THE INPUT: true; the input reads as it did. -/
def fnInKeyOrderSpec : ChangeSpec := { name := "fnInKeyOrder", fn := fun _ => fun
  | [d] => { results := [.lit (.bool true)], args := [d] }
  | _ => none }
def fnInKeyOrderRow : OpenClaim := { program := "ytfjgmnlbchcabaa", sum := "f42902bfc642ef6382bc730e19f43cfcd96ab0a3c2f08c74b621e3fadd7b42f5", func := "loop.example/tallychains/laws.FnInKeyOrder", spec := "fnInKeyOrder", unfollowed := true, recurses := true, apart := false }
def FnInKeyOrderSaid : Prop := fnInKeyOrderRow.holds Try.pinned (OpenSpec.ofChange fnInKeyOrderSpec)

/-- ITS FALSE NEIGHBOUR: 'it returns false'. Refute it at one input. -/
def fnInKeyOrderWrong : ChangeSpec := { name := "fnInKeyOrder", fn := fun _ => fun
  | [d] => { results := [.lit (.bool false)], args := [d] }
  | _ => none }
def FnInKeyOrderWrongFalsely : Prop := fnInKeyOrderRow.holds Try.pinned (OpenSpec.ofChange fnInKeyOrderWrong)

/-- 'laws.FnMeetKeys': WHATEVER THE INPUT: true; the input reads as it did. -/
def fnMeetKeysSpec : ChangeSpec := { name := "fnMeetKeys", fn := fun _ => fun
  | [d] => { results := [.lit (.bool true)], args := [d] }
  | _ => none }
def fnMeetKeysRow : OpenClaim := { program := "ytfjgmnlbchcabaa", sum := "f42902bfc642ef6382bc730e19f43cfcd96ab0a3c2f08c74b621e3fadd7b42f5", func := "loop.example/tallychains/laws.FnMeetKeys", spec := "fnMeetKeys", unfollowed := true, recurses := true, apart := false }
def FnMeetKeysSaid : Prop := fnMeetKeysRow.holds Try.pinned (OpenSpec.ofChange fnMeetKeysSpec)

/-- ITS FALSE NEIGHBOUR: 'it returns false'. Refute it at one input. -/
def fnMeetKeysWrong : ChangeSpec := { name := "fnMeetKeys", fn := fun _ => fun
  | [d] => { results := [.lit (.bool false)], args := [d] }
  | _ => none }
def FnMeetKeysWrongFalsely : Prop := fnMeetKeysRow.holds Try.pinned (OpenSpec.ofChange fnMeetKeysWrong)

/-- 'laws.FnJoinKeys': WHATEVER THE INPUT: true; the input reads as it did. -/
def fnJoinKeysSpec : ChangeSpec := { name := "fnJoinKeys", fn := fun _ => fun
  | [d] => { results := [.lit (.bool true)], args := [d] }
  | _ => none }
def fnJoinKeysRow : OpenClaim := { program := "ytfjgmnlbchcabaa", sum := "f42902bfc642ef6382bc730e19f43cfcd96ab0a3c2f08c74b621e3fadd7b42f5", func := "loop.example/tallychains/laws.FnJoinKeys", spec := "fnJoinKeys", unfollowed := true, recurses := true, apart := false }
def FnJoinKeysSaid : Prop := fnJoinKeysRow.holds Try.pinned (OpenSpec.ofChange fnJoinKeysSpec)

/-- ITS FALSE NEIGHBOUR: 'it returns false'. Refute it at one input. -/
def fnJoinKeysWrong : ChangeSpec := { name := "fnJoinKeys", fn := fun _ => fun
  | [d] => { results := [.lit (.bool false)], args := [d] }
  | _ => none }
def FnJoinKeysWrongFalsely : Prop := fnJoinKeysRow.holds Try.pinned (OpenSpec.ofChange fnJoinKeysWrong)

/-- 'laws.FnLessKeys': WHATEVER THE INPUT: true; the input reads as it did. -/
def fnLessKeysSpec : ChangeSpec := { name := "fnLessKeys", fn := fun _ => fun
  | [d] => { results := [.lit (.bool true)], args := [d] }
  | _ => none }
def fnLessKeysRow : OpenClaim := { program := "ytfjgmnlbchcabaa", sum := "f42902bfc642ef6382bc730e19f43cfcd96ab0a3c2f08c74b621e3fadd7b42f5", func := "loop.example/tallychains/laws.FnLessKeys", spec := "fnLessKeys", unfollowed := true, recurses := true, apart := false }
def FnLessKeysSaid : Prop := fnLessKeysRow.holds Try.pinned (OpenSpec.ofChange fnLessKeysSpec)

/-- ITS FALSE NEIGHBOUR: 'it returns false'. Refute it at one input. -/
def fnLessKeysWrong : ChangeSpec := { name := "fnLessKeys", fn := fun _ => fun
  | [d] => { results := [.lit (.bool false)], args := [d] }
  | _ => none }
def FnLessKeysWrongFalsely : Prop := fnLessKeysRow.holds Try.pinned (OpenSpec.ofChange fnLessKeysWrong)

/-- 'laws.FnOddKeys': WHATEVER THE INPUT: true; the input reads as it did. -/
def fnOddKeysSpec : ChangeSpec := { name := "fnOddKeys", fn := fun _ => fun
  | [d] => { results := [.lit (.bool true)], args := [d] }
  | _ => none }
def fnOddKeysRow : OpenClaim := { program := "ytfjgmnlbchcabaa", sum := "f42902bfc642ef6382bc730e19f43cfcd96ab0a3c2f08c74b621e3fadd7b42f5", func := "loop.example/tallychains/laws.FnOddKeys", spec := "fnOddKeys", unfollowed := true, recurses := true, apart := false }
def FnOddKeysSaid : Prop := fnOddKeysRow.holds Try.pinned (OpenSpec.ofChange fnOddKeysSpec)

/-- ITS FALSE NEIGHBOUR: 'it returns false'. Refute it at one input. -/
def fnOddKeysWrong : ChangeSpec := { name := "fnOddKeys", fn := fun _ => fun
  | [d] => { results := [.lit (.bool false)], args := [d] }
  | _ => none }
def FnOddKeysWrongFalsely : Prop := fnOddKeysRow.holds Try.pinned (OpenSpec.ofChange fnOddKeysWrong)

/-- 'laws.FnApartKeys': WHATEVER THE INPUT: true; the input reads as it did. -/
def fnApartKeysSpec : ChangeSpec := { name := "fnApartKeys", fn := fun _ => fun
  | [d] => { results := [.lit (.bool true)], args := [d] }
  | _ => none }
def fnApartKeysRow : OpenClaim := { program := "ytfjgmnlbchcabaa", sum := "f42902bfc642ef6382bc730e19f43cfcd96ab0a3c2f08c74b621e3fadd7b42f5", func := "loop.example/tallychains/laws.FnApartKeys", spec := "fnApartKeys", unfollowed := true, recurses := true, apart := false }
def FnApartKeysSaid : Prop := fnApartKeysRow.holds Try.pinned (OpenSpec.ofChange fnApartKeysSpec)

/-- ITS FALSE NEIGHBOUR: 'it returns false'. Refute it at one input. -/
def fnApartKeysWrong : ChangeSpec := { name := "fnApartKeys", fn := fun _ => fun
  | [d] => { results := [.lit (.bool false)], args := [d] }
  | _ => none }
def FnApartKeysWrongFalsely : Prop := fnApartKeysRow.holds Try.pinned (OpenSpec.ofChange fnApartKeysWrong)

/- THE SECOND FORM. 'bulk': how many values and letters a reading holds, each counted each time it is reached (what is shared counts as often as it is met; a slice's spare places count too). A statement '..UptoSaid' is the law's where the arguments, and the package variables that the reading takes, are together of bulk at most 1048576: NARROWER than '..Said'. Prove '..Said' where nothing that the law and all that it calls make is longer than what came in: it says more and counts as full. Else prove '..UptoSaid'. A law counts once. -/
mutual
def uptoBulk {H : Type} : DataW H → Nat
  | .lit (.string bytes) => bytes.length + 1
  | .lit _ => 1
  | .nil => 1
  | .ptr d => uptoBulk d + 1
  | .slice elems spare => uptoBulkAll elems + uptoBulkAll spare + 1
  | .agg parts => uptoBulkAll parts + 1
  | .iface _ d => uptoBulk d + 1
  | .map entries => uptoBulkEntries entries + 1
  | .held _ => 1
def uptoBulkAll {H : Type} : List (DataW H) → Nat
  | [] => 0
  | d :: r => uptoBulk d + uptoBulkAll r
def uptoBulkEntries {H : Type} : List (Lit × DataW H) → Nat
  | [] => 0
  | x :: r => uptoBulkEntry x + uptoBulkEntries r
def uptoBulkEntry {H : Type} : Lit × DataW H → Nat
  | (.string bytes, d) => bytes.length + uptoBulk d + 1
  | (_, d) => uptoBulk d + 1
 end
def uptoSmall : (H : Type) → List (DataW H) → Bool := fun _ ds => decide (uptoBulkAll ds ≤ 1048576)
def OpenSpec.upto (s : _root_.Go.ChangeSpec) : _root_.Go.OpenSpec := { _root_.Go.OpenSpec.ofChange s with cond := some uptoSmall }

/-- 'laws.FnOverItems', WHERE WHAT IT READS IS OF BULK AT MOST 1048576: true; the input reads as it did. -/
def fnOverItemsUptoRow : OpenClaim := { program := "ytfjgmnlbchcabaa", sum := "f42902bfc642ef6382bc730e19f43cfcd96ab0a3c2f08c74b621e3fadd7b42f5", func := "loop.example/tallychains/laws.FnOverItems", spec := "fnOverItems", unfollowed := true, recurses := true, apart := false, narrowed := true }
def FnOverItemsUptoSaid : Prop := fnOverItemsUptoRow.holds Try.pinned (OpenSpec.upto fnOverItemsSpec)

/-- 'laws.FnOverItemsChain', WHERE WHAT IT READS IS OF BULK AT MOST 1048576: true; the input reads as it did. -/
def fnOverItemsChainUptoRow : OpenClaim := { program := "ytfjgmnlbchcabaa", sum := "f42902bfc642ef6382bc730e19f43cfcd96ab0a3c2f08c74b621e3fadd7b42f5", func := "loop.example/tallychains/laws.FnOverItemsChain", spec := "fnOverItemsChain", unfollowed := true, recurses := true, apart := false, narrowed := true }
def FnOverItemsChainUptoSaid : Prop := fnOverItemsChainUptoRow.holds Try.pinned (OpenSpec.upto fnOverItemsChainSpec)

/-- 'laws.FnDefaultItem', WHERE WHAT IT READS IS OF BULK AT MOST 1048576: true; the input reads as it did. -/
def fnDefaultItemUptoRow : OpenClaim := { program := "ytfjgmnlbchcabaa", sum := "f42902bfc642ef6382bc730e19f43cfcd96ab0a3c2f08c74b621e3fadd7b42f5", func := "loop.example/tallychains/laws.FnDefaultItem", spec := "fnDefaultItem", unfollowed := true, recurses := true, apart := false, narrowed := true }
def FnDefaultItemUptoSaid : Prop := fnDefaultItemUptoRow.holds Try.pinned (OpenSpec.upto fnDefaultItemSpec)

/-- 'laws.FnRenameItem', WHERE WHAT IT READS IS OF BULK AT MOST 1048576: true; the input reads as it did. -/
def fnRenameItemUptoRow : OpenClaim := { program := "ytfjgmnlbchcabaa", sum := "f42902bfc642ef6382bc730e19f43cfcd96ab0a3c2f08c74b621e3fadd7b42f5", func := "loop.example/tallychains/laws.FnRenameItem", spec := "fnRenameItem", unfollowed := true, recurses := true, apart := false, narrowed := true }
def FnRenameItemUptoSaid : Prop := fnRenameItemUptoRow.holds Try.pinned (OpenSpec.upto fnRenameItemSpec)

/-- 'laws.FnTurnItems', WHERE WHAT IT READS IS OF BULK AT MOST 1048576: true; the input reads as it did. -/
def fnTurnItemsUptoRow : OpenClaim := { program := "ytfjgmnlbchcabaa", sum := "f42902bfc642ef6382bc730e19f43cfcd96ab0a3c2f08c74b621e3fadd7b42f5", func := "loop.example/tallychains/laws.FnTurnItems", spec := "fnTurnItems", apart := false, narrowed := true }
def FnTurnItemsUptoSaid : Prop := fnTurnItemsUptoRow.holds Try.pinned (OpenSpec.upto fnTurnItemsSpec)

/-- 'laws.FnSortKeys', WHERE WHAT IT READS IS OF BULK AT MOST 1048576: true; the input reads as it did. -/
def fnSortKeysUptoRow : OpenClaim := { program := "ytfjgmnlbchcabaa", sum := "f42902bfc642ef6382bc730e19f43cfcd96ab0a3c2f08c74b621e3fadd7b42f5", func := "loop.example/tallychains/laws.FnSortKeys", spec := "fnSortKeys", unfollowed := true, recurses := true, apart := false, narrowed := true }
def FnSortKeysUptoSaid : Prop := fnSortKeysUptoRow.holds Try.pinned (OpenSpec.upto fnSortKeysSpec)

/-- 'laws.FnInKeyOrder', WHERE WHAT IT READS IS OF BULK AT MOST 1048576: true; the input reads as it did. -/
def fnInKeyOrderUptoRow : OpenClaim := { program := "ytfjgmnlbchcabaa", sum := "f42902bfc642ef6382bc730e19f43cfcd96ab0a3c2f08c74b621e3fadd7b42f5", func := "loop.example/tallychains/laws.FnInKeyOrder", spec := "fnInKeyOrder", unfollowed := true, recurses := true, apart := false, narrowed := true }
def FnInKeyOrderUptoSaid : Prop := fnInKeyOrderUptoRow.holds Try.pinned (OpenSpec.upto fnInKeyOrderSpec)

/-- 'laws.FnMeetKeys', WHERE WHAT IT READS IS OF BULK AT MOST 1048576: true; the input reads as it did. -/
def fnMeetKeysUptoRow : OpenClaim := { program := "ytfjgmnlbchcabaa", sum := "f42902bfc642ef6382bc730e19f43cfcd96ab0a3c2f08c74b621e3fadd7b42f5", func := "loop.example/tallychains/laws.FnMeetKeys", spec := "fnMeetKeys", unfollowed := true, recurses := true, apart := false, narrowed := true }
def FnMeetKeysUptoSaid : Prop := fnMeetKeysUptoRow.holds Try.pinned (OpenSpec.upto fnMeetKeysSpec)

/-- 'laws.FnJoinKeys', WHERE WHAT IT READS IS OF BULK AT MOST 1048576: true; the input reads as it did. -/
def fnJoinKeysUptoRow : OpenClaim := { program := "ytfjgmnlbchcabaa", sum := "f42902bfc642ef6382bc730e19f43cfcd96ab0a3c2f08c74b621e3fadd7b42f5", func := "loop.example/tallychains/laws.FnJoinKeys", spec := "fnJoinKeys", unfollowed := true, recurses := true, apart := false, narrowed := true }
def FnJoinKeysUptoSaid : Prop := fnJoinKeysUptoRow.holds Try.pinned (OpenSpec.upto fnJoinKeysSpec)

/-- 'laws.FnLessKeys', WHERE WHAT IT READS IS OF BULK AT MOST 1048576: true; the input reads as it did. -/
def fnLessKeysUptoRow : OpenClaim := { program := "ytfjgmnlbchcabaa", sum := "f42902bfc642ef6382bc730e19f43cfcd96ab0a3c2f08c74b621e3fadd7b42f5", func := "loop.example/tallychains/laws.FnLessKeys", spec := "fnLessKeys", unfollowed := true, recurses := true, apart := false, narrowed := true }
def FnLessKeysUptoSaid : Prop := fnLessKeysUptoRow.holds Try.pinned (OpenSpec.upto fnLessKeysSpec)

/-- 'laws.FnOddKeys', WHERE WHAT IT READS IS OF BULK AT MOST 1048576: true; the input reads as it did. -/
def fnOddKeysUptoRow : OpenClaim := { program := "ytfjgmnlbchcabaa", sum := "f42902bfc642ef6382bc730e19f43cfcd96ab0a3c2f08c74b621e3fadd7b42f5", func := "loop.example/tallychains/laws.FnOddKeys", spec := "fnOddKeys", unfollowed := true, recurses := true, apart := false, narrowed := true }
def FnOddKeysUptoSaid : Prop := fnOddKeysUptoRow.holds Try.pinned (OpenSpec.upto fnOddKeysSpec)

/-- 'laws.FnApartKeys', WHERE WHAT IT READS IS OF BULK AT MOST 1048576: true; the input reads as it did. -/
def fnApartKeysUptoRow : OpenClaim := { program := "ytfjgmnlbchcabaa", sum := "f42902bfc642ef6382bc730e19f43cfcd96ab0a3c2f08c74b621e3fadd7b42f5", func := "loop.example/tallychains/laws.FnApartKeys", spec := "fnApartKeys", unfollowed := true, recurses := true, apart := false, narrowed := true }
def FnApartKeysUptoSaid : Prop := fnApartKeysUptoRow.holds Try.pinned (OpenSpec.upto fnApartKeysSpec)

end Rows
end Go.Proofs.Ytfjgmnlbchcabaa
