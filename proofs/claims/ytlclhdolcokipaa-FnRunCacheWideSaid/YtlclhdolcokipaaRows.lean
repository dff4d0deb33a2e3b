/-
  No cell of these rows narrows 'for every input' (looked for: loops, veiled, ifaces, maps, wideKeys, modest, calm, conditions, laid).
  DERIVED. THE GIVEN ROWS OF THIS SEAT. 11 by the template 'for every input the law returns true; each argument reads behind the call as it read before'; 0 by the template 'total and deterministic' (their statements: YtlclhdolcokipaaTotals.lean).
  GIVEN WITH THE SEED: the statements are not yours to turn. If you find one false, say at which input.
  Laid BY PROGRAM, IN A SANDBOX (cutbox-rows.mjs): the forced cells as the released guide's own fill.sh prints them over the translation fe8b41f46eb2f199… (all of the seat's roots in one cut). By AI agents, Wed Nov 11 2026. No macro, syntax, notation, axiom, sorry.
-/
import Derived.Test.YtlclhdolcokipaaChecked
import GoSem.Claim
import GoSem.ClaimJoined
import GoSem.ClaimMapViews
import Derived.JoinedTies
import Derived.KernelRfl
namespace Go.Proofs.Ytlclhdolcokipaa
/- THE CELL 'sum', in the pinned program and in every row, IS THE sha256 OF THE DUMP (.gsa) THAT YtlclhdolcokipaaProg.lean LOADS. Nothing in Lean hashes anything: it is a label: what it is worth is what the hold of that sum in a sandbox is worth. -/
noncomputable def Try.pinned : Pinned := { name := "ytlclhdolcokipaa", sum := "fe8b41f46eb2f199c17512a33b4f7ee9c5f341ff3e1efbc567ebe43bb74c4ea9", checked := Try.checked }
namespace Rows
def none {H : Type} : Left H := { results := [], args := [] }

/-- 'laws.FnValidCache': WHATEVER THE INPUT: true; the input reads as it did. -/
def fnValidCacheSpec : ChangeSpec := { name := "fnValidCache", fn := fun _ => fun
  | [d] => { results := [.lit (.bool true)], args := [d] }
  | _ => none }
def fnValidCacheRow : OpenClaim := { program := "ytlclhdolcokipaa", sum := "fe8b41f46eb2f199c17512a33b4f7ee9c5f341ff3e1efbc567ebe43bb74c4ea9", func := "loop.example/tallychains/laws.FnValidCache", spec := "fnValidCache", apart := false }
def FnValidCacheSaid : Prop := fnValidCacheRow.holds Try.pinned (OpenSpec.ofChange fnValidCacheSpec)

/-- ITS FALSE NEIGHBOUR: 'it returns false'. Refute it at one input. -/
def fnValidCacheWrong : ChangeSpec := { name := "fnValidCache", fn := fun _ => fun
  | [d] => { results := [.lit (.bool false)], args := [d] }
  | _ => none }
def FnValidCacheWrongFalsely : Prop := fnValidCacheRow.holds Try.pinned (OpenSpec.ofChange fnValidCacheWrong)

/-- 'laws.FnLookUp': WHATEVER THE INPUT: true; the input reads as it did. -/
def fnLookUpSpec : ChangeSpec := { name := "fnLookUp", fn := fun _ => fun
  | [d] => { results := [.lit (.bool true)], args := [d] }
  | _ => none }
def fnLookUpRow : OpenClaim := { program := "ytlclhdolcokipaa", sum := "fe8b41f46eb2f199c17512a33b4f7ee9c5f341ff3e1efbc567ebe43bb74c4ea9", func := "loop.example/tallychains/laws.FnLookUp", spec := "fnLookUp", unfollowed := true, recurses := true, apart := false }
def FnLookUpSaid : Prop := fnLookUpRow.holds Try.pinned (OpenSpec.ofChange fnLookUpSpec)

/-- ITS FALSE NEIGHBOUR: 'it returns false'. Refute it at one input. -/
def fnLookUpWrong : ChangeSpec := { name := "fnLookUp", fn := fun _ => fun
  | [d] => { results := [.lit (.bool false)], args := [d] }
  | _ => none }
def FnLookUpWrongFalsely : Prop := fnLookUpRow.holds Try.pinned (OpenSpec.ofChange fnLookUpWrong)

/-- 'laws.FnStoreItem': WHATEVER THE INPUT: true; the input reads as it did. -/
def fnStoreItemSpec : ChangeSpec := { name := "fnStoreItem", fn := fun _ => fun
  | [d] => { results := [.lit (.bool true)], args := [d] }
  | _ => none }
def fnStoreItemRow : OpenClaim := { program := "ytlclhdolcokipaa", sum := "fe8b41f46eb2f199c17512a33b4f7ee9c5f341ff3e1efbc567ebe43bb74c4ea9", func := "loop.example/tallychains/laws.FnStoreItem", spec := "fnStoreItem", unfollowed := true, recurses := true, apart := false }
def FnStoreItemSaid : Prop := fnStoreItemRow.holds Try.pinned (OpenSpec.ofChange fnStoreItemSpec)

/-- ITS FALSE NEIGHBOUR: 'it returns false'. Refute it at one input. -/
def fnStoreItemWrong : ChangeSpec := { name := "fnStoreItem", fn := fun _ => fun
  | [d] => { results := [.lit (.bool false)], args := [d] }
  | _ => none }
def FnStoreItemWrongFalsely : Prop := fnStoreItemRow.holds Try.pinned (OpenSpec.ofChange fnStoreItemWrong)

/-- 'laws.FnResizeCache': WHATEVER THE INPUT: true; the input reads as it did. -/
def fnResizeCacheSpec : ChangeSpec := { name := "fnResizeCache", fn := fun _ => fun
  | [d] => { results := [.lit (.bool true)], args := [d] }
  | _ => none }
def fnResizeCacheRow : OpenClaim := { program := "ytlclhdolcokipaa", sum := "fe8b41f46eb2f199c17512a33b4f7ee9c5f341ff3e1efbc567ebe43bb74c4ea9", func := "loop.example/tallychains/laws.FnResizeCache", spec := "fnResizeCache", unfollowed := true, recurses := true, apart := false }
def FnResizeCacheSaid : Prop := fnResizeCacheRow.holds Try.pinned (OpenSpec.ofChange fnResizeCacheSpec)

/-- ITS FALSE NEIGHBOUR: 'it returns false'. Refute it at one input. -/
def fnResizeCacheWrong : ChangeSpec := { name := "fnResizeCache", fn := fun _ => fun
  | [d] => { results := [.lit (.bool false)], args := [d] }
  | _ => none }
def FnResizeCacheWrongFalsely : Prop := fnResizeCacheRow.holds Try.pinned (OpenSpec.ofChange fnResizeCacheWrong)

/-- 'laws.FnRunCache': WHATEVER THE INPUT: true; the input reads as it did. -/
def fnRunCacheSpec : ChangeSpec := { name := "fnRunCache", fn := fun _ => fun
  | [d] => { results := [.lit (.bool true)], args := [d] }
  | _ => none }
def fnRunCacheRow : OpenClaim := { program := "ytlclhdolcokipaa", sum := "fe8b41f46eb2f199c17512a33b4f7ee9c5f341ff3e1efbc567ebe43bb74c4ea9", func := "loop.example/tallychains/laws.FnRunCache", spec := "fnRunCache", unfollowed := true, recurses := true, apart := false }
def FnRunCacheSaid : Prop := fnRunCacheRow.holds Try.pinned (OpenSpec.ofChange fnRunCacheSpec)

/-- ITS FALSE NEIGHBOUR: 'it returns false'. Refute it at one input. -/
def fnRunCacheWrong : ChangeSpec := { name := "fnRunCache", fn := fun _ => fun
  | [d] => { results := [.lit (.bool false)], args := [d] }
  | _ => none }
def FnRunCacheWrongFalsely : Prop := fnRunCacheRow.holds Try.pinned (OpenSpec.ofChange fnRunCacheWrong)

/-- 'laws.FnRunCacheWide': WHATEVER THE INPUT: true; the input reads as it did. -/
def fnRunCacheWideSpec : ChangeSpec := { name := "fnRunCacheWide", fn := fun _ => fun
  | [d] => { results := [.lit (.bool true)], args := [d] }
  | _ => none }
def fnRunCacheWideRow : OpenClaim := { program := "ytlclhdolcokipaa", sum := "fe8b41f46eb2f199c17512a33b4f7ee9c5f341ff3e1efbc567ebe43bb74c4ea9", func := "loop.example/tallychains/laws.FnRunCacheWide", spec := "fnRunCacheWide", unfollowed := true, recurses := true, apart := false }
def FnRunCacheWideSaid : Prop := fnRunCacheWideRow.holds Try.pinned (OpenSpec.ofChange fnRunCacheWideSpec)

/-- ITS FALSE NEIGHBOUR: 'it returns false'. Refute it at one input. -/
def fnRunCacheWideWrong : ChangeSpec := { name := "fnRunCacheWide", fn := fun _ => fun
  | [d] => { results := [.lit (.bool false)], args := [d] }
  | _ => none }
def FnRunCacheWideWrongFalsely : Prop := fnRunCacheWideRow.holds Try.pinned (OpenSpec.ofChange fnRunCacheWideWrong)

/-- 'laws.FnExactChainItems': WHATEVER THE INPUT: true; the input reads as it did. -/
def fnExactChainItemsSpec : ChangeSpec := { name := "fnExactChainItems", fn := fun _ => fun
  | [d] => { results := [.lit (.bool true)], args := [d] }
  | _ => none }
def fnExactChainItemsRow : OpenClaim := { program := "ytlclhdolcokipaa", sum := "fe8b41f46eb2f199c17512a33b4f7ee9c5f341ff3e1efbc567ebe43bb74c4ea9", func := "loop.example/tallychains/laws.FnExactChainItems", spec := "fnExactChainItems", unfollowed := true, recurses := true, apart := false }
def FnExactChainItemsSaid : Prop := fnExactChainItemsRow.holds Try.pinned (OpenSpec.ofChange fnExactChainItemsSpec)

/-- ITS FALSE NEIGHBOUR: 'it returns false'. Refute it at one input. -/
def fnExactChainItemsWrong : ChangeSpec := { name := "fnExactChainItems", fn := fun _ => fun
  | [d] => { results := [.lit (.bool false)], args := [d] }
  | _ => none }
def FnExactChainItemsWrongFalsely : Prop := fnExactChainItemsRow.holds Try.pinned (OpenSpec.ofChange fnExactChainItemsWrong)

/-- 'laws.FnExactChainKeys': WHATEVER THE INPUT: true; the input reads as it did. -/
def fnExactChainKeysSpec : ChangeSpec := { name := "fnExactChainKeys", fn := fun _ => fun
  | [d] => { results := [.lit (.bool true)], args := [d] }
  | _ => none }
def fnExactChainKeysRow : OpenClaim := { program := "ytlclhdolcokipaa", sum := "fe8b41f46eb2f199c17512a33b4f7ee9c5f341ff3e1efbc567ebe43bb74c4ea9", func := "loop.example/tallychains/laws.FnExactChainKeys", spec := "fnExactChainKeys", unfollowed := true, recurses := true, apart := false }
def FnExactChainKeysSaid : Prop := fnExactChainKeysRow.holds Try.pinned (OpenSpec.ofChange fnExactChainKeysSpec)

/-- ITS FALSE NEIGHBOUR: 'it returns false'. Refute it at one input. -/
def fnExactChainKeysWrong : ChangeSpec := { name := "fnExactChainKeys", fn := fun _ => fun
  | [d] => { results := [.lit (.bool false)], args := [d] }
  | _ => none }
def FnExactChainKeysWrongFalsely : Prop := fnExactChainKeysRow.holds Try.pinned (OpenSpec.ofChange fnExactChainKeysWrong)

/-- 'laws.FnExactCollapseChain': WHATEVER THE INPUT: true; the input reads as it did. -/
def fnExactCollapseChainSpec : ChangeSpec := { name := "fnExactCollapseChain", fn := fun _ => fun
  | [d] => { results := [.lit (.bool true)], args := [d] }
  | _ => none }
def fnExactCollapseChainRow : OpenClaim := { program := "ytlclhdolcokipaa", sum := "fe8b41f46eb2f199c17512a33b4f7ee9c5f341ff3e1efbc567ebe43bb74c4ea9", func := "loop.example/tallychains/laws.FnExactCollapseChain", spec := "fnExactCollapseChain", unfollowed := true, recurses := true, apart := false }
def FnExactCollapseChainSaid : Prop := fnExactCollapseChainRow.holds Try.pinned (OpenSpec.ofChange fnExactCollapseChainSpec)

/-- ITS FALSE NEIGHBOUR: 'it returns false'. Refute it at one input. -/
def fnExactCollapseChainWrong : ChangeSpec := { name := "fnExactCollapseChain", fn := fun _ => fun
  | [d] => { results := [.lit (.bool false)], args := [d] }
  | _ => none }
def FnExactCollapseChainWrongFalsely : Prop := fnExactCollapseChainRow.holds Try.pinned (OpenSpec.ofChange fnExactCollapseChainWrong)

/-- 'laws.FnExactSameChain': WHATEVER THE INPUT: true; the input reads as it did. -/
def fnExactSameChainSpec : ChangeSpec := { name := "fnExactSameChain", fn := fun _ => fun
  | [d1, d2] => { results := [.lit (.bool true)], args := [d1, d2] }
  | _ => none }
def fnExactSameChainRow : OpenClaim := { program := "ytlclhdolcokipaa", sum := "fe8b41f46eb2f199c17512a33b4f7ee9c5f341ff3e1efbc567ebe43bb74c4ea9", func := "loop.example/tallychains/laws.FnExactSameChain", spec := "fnExactSameChain", unfollowed := true, recurses := true, apart := false }
def FnExactSameChainSaid : Prop := fnExactSameChainRow.holds Try.pinned (OpenSpec.ofChange fnExactSameChainSpec)

/-- ITS FALSE NEIGHBOUR: 'it returns false'. Refute it at one input. -/
def fnExactSameChainWrong : ChangeSpec := { name := "fnExactSameChain", fn := fun _ => fun
  | [d1, d2] => { results := [.lit (.bool false)], args := [d1, d2] }
  | _ => none }
def FnExactSameChainWrongFalsely : Prop := fnExactSameChainRow.holds Try.pinned (OpenSpec.ofChange fnExactSameChainWrong)

/-- 'laws.FnExactShowAll': WHATEVER THE INPUT: true; the input reads as it did. -/
def fnExactShowAllSpec : ChangeSpec := { name := "fnExactShowAll", fn := fun _ => fun
  | [d] => { results := [.lit (.bool true)], args := [d] }
  | _ => none }
def fnExactShowAllRow : OpenClaim := { program := "ytlclhdolcokipaa", sum := "fe8b41f46eb2f199c17512a33b4f7ee9c5f341ff3e1efbc567ebe43bb74c4ea9", func := "loop.example/tallychains/laws.FnExactShowAll", spec := "fnExactShowAll", unfollowed := true, recurses := true, apart := false }
def FnExactShowAllSaid : Prop := fnExactShowAllRow.holds Try.pinned (OpenSpec.ofChange fnExactShowAllSpec)

/-- ITS FALSE NEIGHBOUR: 'it returns false'. Refute it at one input. -/
def fnExactShowAllWrong : ChangeSpec := { name := "fnExactShowAll", fn := fun _ => fun
  | [d] => { results := [.lit (.bool false)], args := [d] }
  | _ => none }
def FnExactShowAllWrongFalsely : Prop := fnExactShowAllRow.holds Try.pinned (OpenSpec.ofChange fnExactShowAllWrong)

/- THE SECOND FORM. 'bulk': how many values and letters a reading holds, each counted each time it is reached (what is shared counts as often as it is met; a slice's spare places count too). A statement '..UptoSaid' is the law's where the arguments, and the package variables that the reading takes, are together of bulk at most 1048576: NARROWER than '..Said'. Prove '..Said' where nothing that the law and all that it calls make is longer than what came in: it says more and counts as full. Else prove '..UptoSaid'. A law counts once. -/
mutual
def uptoBulk {H : Type} : DataW H → Nat
  | .lit (.string bytes) => bytes.length + 1
  | .lit _ => 1
  | .nil => 1
  | .ptr d => uptoBulk d + 1
  | .slice elems spare => uptoBulkAll elems + uptoBulkAll spare + 1
  | .agg parts => uptoBulkAll parts + 1
  | .iface _ d => uptoBulk d + 1
  | .map entries => uptoBulkEntries entries + 1
  | .held _ => 1
def uptoBulkAll {H : Type} : List (DataW H) → Nat
  | [] => 0
  | d :: r => uptoBulk d + uptoBulkAll r
def uptoBulkEntries {H : Type} : List (Lit × DataW H) → Nat
  | [] => 0
  | x :: r => uptoBulkEntry x + uptoBulkEntries r
def uptoBulkEntry {H : Type} : Lit × DataW H → Nat
  | (.string bytes, d) => bytes.length + uptoBulk d + 1
  | (_, d) => uptoBulk d + 1
 end
def uptoSmall : (H : Type) → List (DataW H) → Bool := fun _ ds => decide (uptoBulkAll ds ≤ 1048576)
def OpenSpec.upto (s : _root_.Go.ChangeSpec) : _root_.Go.OpenSpec := { _root_.Go.OpenSpec.ofChange s with cond := some uptoSmall }

/-- 'laws.FnValidCache', WHERE WHAT IT READS IS OF BULK AT MOST 1048576: true; the input reads as it did. -/
def fnValidCacheUptoRow : OpenClaim := { program := "ytlclhdolcokipaa", sum := "fe8b41f46eb2f199c17512a33b4f7ee9c5f341ff3e1efbc567ebe43bb74c4ea9", func := "loop.example/tallychains/laws.FnValidCache", spec := "fnValidCache", apart := false, narrowed := true }
def FnValidCacheUptoSaid : Prop := fnValidCacheUptoRow.holds Try.pinned (OpenSpec.upto fnValidCacheSpec)

/-- 'laws.FnLookUp', WHERE WHAT IT READS IS OF BULK AT MOST 1048576: true; the input reads as it did. -/
def fnLookUpUptoRow : OpenClaim := { program := "ytlclhdolcokipaa", sum := "fe8b41f46eb2f199c17512a33b4f7ee9c5f341ff3e1efbc567ebe43bb74c4ea9", func := "loop.example/tallychains/laws.FnLookUp", spec := "fnLookUp", unfollowed := true, recurses := true, apart := false, narrowed := true }
def FnLookUpUptoSaid : Prop := fnLookUpUptoRow.holds Try.pinned (OpenSpec.upto fnLookUpSpec)

/-- 'laws.FnStoreItem', WHERE WHAT IT READS IS OF BULK AT MOST 1048576: true; the input reads as it did. -/
def fnStoreItemUptoRow : OpenClaim := { program := "ytlclhdolcokipaa", sum := "fe8b41f46eb2f199c17512a33b4f7ee9c5f341ff3e1efbc567ebe43bb74c4ea9", func := "loop.example/tallychains/laws.FnStoreItem", spec := "fnStoreItem", unfollowed := true, recurses := true, apart := false, narrowed := true }
def FnStoreItemUptoSaid : Prop := fnStoreItemUptoRow.holds Try.pinned (OpenSpec.upto fnStoreItemSpec)

/-- 'laws.FnResizeCache', WHERE WHAT IT READS IS OF BULK AT MOST 1048576: true; the input reads as it did. -/
def fnResizeCacheUptoRow : OpenClaim := { program := "ytlclhdolcokipaa", sum := "fe8b41f46eb2f199c17512a33b4f7ee9c5f341ff3e1efbc567ebe43bb74c4ea9", func := "loop.example/tallychains/laws.FnResizeCache", spec := "fnResizeCache", unfollowed := true, recurses := true, apart := false, narrowed := true }
def FnResizeCacheUptoSaid : Prop := fnResizeCacheUptoRow.holds Try.pinned (OpenSpec.upto fnResizeCacheSpec)

/-- 'laws.FnRunCache', WHERE WHAT IT READS IS OF BULK AT MOST 1048576: true; the input reads as it did. -/
def fnRunCacheUptoRow : OpenClaim := { program := "ytlclhdolcokipaa", sum := "fe8b41f46eb2f199c17512a33b4f7ee9c5f341ff3e1efbc567ebe43bb74c4ea9", func := "loop.example/tallychains/laws.FnRunCache", spec := "fnRunCache", unfollowed := true, recurses := true, apart := false, narrowed := true }
def FnRunCacheUptoSaid : Prop := fnRunCacheUptoRow.holds Try.pinned (OpenSpec.upto fnRunCacheSpec)

/-- 'laws.FnRunCacheWide', WHERE WHAT IT READS IS OF BULK AT MOST 1048576: true; the input reads as it did. -/
def fnRunCacheWideUptoRow : OpenClaim := { program := "ytlclhdolcokipaa", sum := "fe8b41f46eb2f199c17512a33b4f7ee9c5f341ff3e1efbc567ebe43bb74c4ea9", func := "loop.example/tallychains/laws.FnRunCacheWide", spec := "fnRunCacheWide", unfollowed := true, recurses := true, apart := false, narrowed := true }
def FnRunCacheWideUptoSaid : Prop := fnRunCacheWideUptoRow.holds Try.pinned (OpenSpec.upto fnRunCacheWideSpec)

/-- 'laws.FnExactChainItems', WHERE WHAT IT READS IS OF BULK AT MOST 1048576: true; the input reads as it did. -/
def fnExactChainItemsUptoRow : OpenClaim := { program := "ytlclhdolcokipaa", sum := "fe8b41f46eb2f199c17512a33b4f7ee9c5f341ff3e1efbc567ebe43bb74c4ea9", func := "loop.example/tallychains/laws.FnExactChainItems", spec := "fnExactChainItems", unfollowed := true, recurses := true, apart := false, narrowed := true }
def FnExactChainItemsUptoSaid : Prop := fnExactChainItemsUptoRow.holds Try.pinned (OpenSpec.upto fnExactChainItemsSpec)

/-- 'laws.FnExactChainKeys', WHERE WHAT IT READS IS OF BULK AT MOST 1048576: true; the input reads as it did. -/
def fnExactChainKeysUptoRow : OpenClaim := { program := "ytlclhdolcokipaa", sum := "fe8b41f46eb2f199c17512a33b4f7ee9c5f341ff3e1efbc567ebe43bb74c4ea9", func := "loop.example/tallychains/laws.FnExactChainKeys", spec := "fnExactChainKeys", unfollowed := true, recurses := true, apart := false, narrowed := true }
def FnExactChainKeysUptoSaid : Prop := fnExactChainKeysUptoRow.holds Try.pinned (OpenSpec.upto fnExactChainKeysSpec)

/-- 'laws.FnExactCollapseChain', WHERE WHAT IT READS IS OF BULK AT MOST 1048576: true; the input reads as it did. -/
def fnExactCollapseChainUptoRow : OpenClaim := { program := "ytlclhdolcokipaa", sum := "fe8b41f46eb2f199c17512a33b4f7ee9c5f341ff3e1efbc567ebe43bb74c4ea9", func := "loop.example/tallychains/laws.FnExactCollapseChain", spec := "fnExactCollapseChain", unfollowed := true, recurses := true, apart := false, narrowed := true }
def FnExactCollapseChainUptoSaid : Prop := fnExactCollapseChainUptoRow.holds Try.pinned (OpenSpec.upto fnExactCollapseChainSpec)

/-- 'laws.FnExactSameChain', WHERE WHAT IT READS IS OF BULK AT MOST 1048576: true; the input reads as it did. -/
def fnExactSameChainUptoRow : OpenClaim := { program := "ytlclhdolcokipaa", sum := "fe8b41f46eb2f199c17512a33b4f7ee9c5f341ff3e1efbc567ebe43bb74c4ea9", func := "loop.example/tallychains/laws.FnExactSameChain", spec := "fnExactSameChain", unfollowed := true, recurses := true, apart := false, narrowed := true }
def FnExactSameChainUptoSaid : Prop := fnExactSameChainUptoRow.holds Try.pinned (OpenSpec.upto fnExactSameChainSpec)

/-- 'laws.FnExactShowAll', WHERE WHAT IT READS IS OF BULK AT MOST 1048576: true; the input reads as it did. -/
def fnExactShowAllUptoRow : OpenClaim := { program := "ytlclhdolcokipaa", sum := "fe8b41f46eb2f199c17512a33b4f7ee9c5f341ff3e1efbc567ebe43bb74c4ea9", func := "loop.example/tallychains/laws.FnExactShowAll", spec := "fnExactShowAll", unfollowed := true, recurses := true, apart := false, narrowed := true }
def FnExactShowAllUptoSaid : Prop := fnExactShowAllUptoRow.holds Try.pinned (OpenSpec.upto fnExactShowAllSpec)

end Rows
end Go.Proofs.Ytlclhdolcokipaa
