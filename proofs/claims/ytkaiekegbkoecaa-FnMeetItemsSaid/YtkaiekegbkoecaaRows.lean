/-
  No cell of these rows narrows 'for every input' (looked for: loops, veiled, ifaces, maps, wideKeys, modest, calm, conditions, laid).
  DERIVED. THE GIVEN ROWS OF THIS SEAT. 11 by the template 'for every input the law returns true; each argument reads behind the call as it read before'; 0 by the template 'total and deterministic' (their statements: YtkaiekegbkoecaaTotals.lean).
  GIVEN WITH THE SEED: the statements are not yours to turn. If you find one false, say at which input.
  Laid BY PROGRAM, IN A SANDBOX (cutbox-rows.mjs): the forced cells as the released guide's own fill.sh prints them over the translation 3c3507106dd8e154… (all of the seat's roots in one cut). By AI agents, Wed Nov 11 2026. No macro, syntax, notation, axiom, sorry.
-/
import Derived.Test.YtkaiekegbkoecaaChecked
import GoSem.Claim
import GoSem.ClaimJoined
import GoSem.ClaimMapViews
import Derived.JoinedTies
import Derived.KernelRfl
namespace Go.Proofs.Ytkaiekegbkoecaa
/- THE CELL 'sum', in the pinned program and in every row, IS THE sha256 OF THE DUMP (.gsa) THAT YtkaiekegbkoecaaProg.lean LOADS. Nothing in Lean hashes anything: it is a label: what it is worth is what the hold of that sum in a sandbox is worth. -/
noncomputable def Try.pinned : Pinned := { name := "ytkaiekegbkoecaa", sum := "3c3507106dd8e154291104c64e126e1eb3a6f1437c3e81e0deb533fb9e01ca15", checked := Try.checked }
namespace Rows
def none {H : Type} : Left H := { results := [], args := [] }

/-- 'laws.FnValidCache': WHATEVER THE INPUT: true; the input reads as it did. -/
def fnValidCacheSpec : ChangeSpec := { name := "fnValidCache", fn := fun _ => fun
  | [d] => { results := [.lit (.bool true)], args := [d] }
  | _ => none }
def fnValidCacheRow : OpenClaim := { program := "ytkaiekegbkoecaa", sum := "3c3507106dd8e154291104c64e126e1eb3a6f1437c3e81e0deb533fb9e01ca15", func := "loop.example/tallychains/laws.FnValidCache", spec := "fnValidCache", apart := false }
def FnValidCacheSaid : Prop := fnValidCacheRow.holds Try.pinned (OpenSpec.ofChange fnValidCacheSpec)

/-- ITS FALSE NEIGHBOUR: 'it returns false'. Refute it at one input. -/
def fnValidCacheWrong : ChangeSpec := { name := "fnValidCache", fn := fun _ => fun
  | [d] => { results := [.lit (.bool false)], args := [d] }
  | _ => none }
def FnValidCacheWrongFalsely : Prop := fnValidCacheRow.holds Try.pinned (OpenSpec.ofChange fnValidCacheWrong)

/-- 'laws.FnLookUp': WHATEVER THE INPUT: true; the input reads as it did. -/
def fnLookUpSpec : ChangeSpec := { name := "fnLookUp", fn := fun _ => fun
  | [d] => { results := [.lit (.bool true)], args := [d] }
  | _ => none }
def fnLookUpRow : OpenClaim := { program := "ytkaiekegbkoecaa", sum := "3c3507106dd8e154291104c64e126e1eb3a6f1437c3e81e0deb533fb9e01ca15", func := "loop.example/tallychains/laws.FnLookUp", spec := "fnLookUp", unfollowed := true, recurses := true, apart := false }
def FnLookUpSaid : Prop := fnLookUpRow.holds Try.pinned (OpenSpec.ofChange fnLookUpSpec)

/-- ITS FALSE NEIGHBOUR: 'it returns false'. Refute it at one input. -/
def fnLookUpWrong : ChangeSpec := { name := "fnLookUp", fn := fun _ => fun
  | [d] => { results := [.lit (.bool false)], args := [d] }
  | _ => none }
def FnLookUpWrongFalsely : Prop := fnLookUpRow.holds Try.pinned (OpenSpec.ofChange fnLookUpWrong)

/-- 'laws.FnStoreItem': WHATEVER THE INPUT: true; the input reads as it did. -/
def fnStoreItemSpec : ChangeSpec := { name := "fnStoreItem", fn := fun _ => fun
  | [d] => { results := [.lit (.bool true)], args := [d] }
  | _ => none }
def fnStoreItemRow : OpenClaim := { program := "ytkaiekegbkoecaa", sum := "3c3507106dd8e154291104c64e126e1eb3a6f1437c3e81e0deb533fb9e01ca15", func := "loop.example/tallychains/laws.FnStoreItem", spec := "fnStoreItem", unfollowed := true, recurses := true, apart := false }
def FnStoreItemSaid : Prop := fnStoreItemRow.holds Try.pinned (OpenSpec.ofChange fnStoreItemSpec)

/-- ITS FALSE NEIGHBOUR: 'it returns false'. Refute it at one input. -/
def fnStoreItemWrong : ChangeSpec := { name := "fnStoreItem", fn := fun _ => fun
  | [d] => { results := [.lit (.bool false)], args := [d] }
  | _ => none }
def FnStoreItemWrongFalsely : Prop := fnStoreItemRow.holds Try.pinned (OpenSpec.ofChange fnStoreItemWrong)

/-- 'laws.FnResizeCache': WHATEVER THE INPUT: true; the input reads as it did. -/
def fnResizeCacheSpec : ChangeSpec := { name := "fnResizeCache", fn := fun _ => fun
  | [d] => { results := [.lit (.bool true)], args := [d] }
  | _ => none }
def fnResizeCacheRow : OpenClaim := { program := "ytkaiekegbkoecaa", sum := "3c3507106dd8e154291104c64e126e1eb3a6f1437c3e81e0deb533fb9e01ca15", func := "loop.example/tallychains/laws.FnResizeCache", spec := "fnResizeCache", unfollowed := true, recurses := true, apart := false }
def FnResizeCacheSaid : Prop := fnResizeCacheRow.holds Try.pinned (OpenSpec.ofChange fnResizeCacheSpec)

/-- ITS FALSE NEIGHBOUR: 'it returns false'. Refute it at one input. -/
def fnResizeCacheWrong : ChangeSpec := { name := "fnResizeCache", fn := fun _ => fun
  | [d] => { results := [.lit (.bool false)], args := [d] }
  | _ => none }
def FnResizeCacheWrongFalsely : Prop := fnResizeCacheRow.holds Try.pinned (OpenSpec.ofChange fnResizeCacheWrong)

/-- 'laws.FnRunCache': WHATEVER THE INPUT: true; the input reads as it did. -/
def fnRunCacheSpec : ChangeSpec := { name := "fnRunCache", fn := fun _ => fun
  | [d] => { results := [.lit (.bool true)], args := [d] }
  | _ => none }
def fnRunCacheRow : OpenClaim := { program := "ytkaiekegbkoecaa", sum := "3c3507106dd8e154291104c64e126e1eb3a6f1437c3e81e0deb533fb9e01ca15", func := "loop.example/tallychains/laws.FnRunCache", spec := "fnRunCache", unfollowed := true, recurses := true, apart := false }
def FnRunCacheSaid : Prop := fnRunCacheRow.holds Try.pinned (OpenSpec.ofChange fnRunCacheSpec)

/-- ITS FALSE NEIGHBOUR: 'it returns false'. Refute it at one input. -/
def fnRunCacheWrong : ChangeSpec := { name := "fnRunCache", fn := fun _ => fun
  | [d] => { results := [.lit (.bool false)], args := [d] }
  | _ => none }
def FnRunCacheWrongFalsely : Prop := fnRunCacheRow.holds Try.pinned (OpenSpec.ofChange fnRunCacheWrong)

/-- 'laws.FnRunCacheWide': WHATEVER THE INPUT: true; the input reads as it did. -/
def fnRunCacheWideSpec : ChangeSpec := { name := "fnRunCacheWide", fn := fun _ => fun
  | [d] => { results := [.lit (.bool true)], args := [d] }
  | _ => none }
def fnRunCacheWideRow : OpenClaim := { program := "ytkaiekegbkoecaa", sum := "3c3507106dd8e154291104c64e126e1eb3a6f1437c3e81e0deb533fb9e01ca15", func := "loop.example/tallychains/laws.FnRunCacheWide", spec := "fnRunCacheWide", unfollowed := true, recurses := true, apart := false }
def FnRunCacheWideSaid : Prop := fnRunCacheWideRow.holds Try.pinned (OpenSpec.ofChange fnRunCacheWideSpec)

/-- ITS FALSE NEIGHBOUR: 'it returns false'. Refute it at one input. -/
def fnRunCacheWideWrong : ChangeSpec := { name := "fnRunCacheWide", fn := fun _ => fun
  | [d] => { results := [.lit (.bool false)], args := [d] }
  | _ => none }
def FnRunCacheWideWrongFalsely : Prop := fnRunCacheWideRow.holds Try.pinned (OpenSpec.ofChange fnRunCacheWideWrong)

/-- 'laws.FnMeetItems': WHATEVER THE INPUT: true; the input reads as it did. -/
def fnMeetItemsSpec : ChangeSpec := { name := "fnMeetItems", fn := fun _ => fun
  | [d] => { results := [.lit (.bool true)], args := [d] }
  | _ => none }
def fnMeetItemsRow : OpenClaim := { program := "ytkaiekegbkoecaa", sum := "3c3507106dd8e154291104c64e126e1eb3a6f1437c3e81e0deb533fb9e01ca15", func := "loop.example/tallychains/laws.FnMeetItems", spec := "fnMeetItems", unfollowed := true, recurses := true, apart := false }
def FnMeetItemsSaid : Prop := fnMeetItemsRow.holds Try.pinned (OpenSpec.ofChange fnMeetItemsSpec)

/-- ITS FALSE NEIGHBOUR: 'it returns false'. Refute it at one input. -/
def fnMeetItemsWrong : ChangeSpec := { name := "fnMeetItems", fn := fun _ => fun
  | [d] => { results := [.lit (.bool false)], args := [d] }
  | _ => none }
def FnMeetItemsWrongFalsely : Prop := fnMeetItemsRow.holds Try.pinned (OpenSpec.ofChange fnMeetItemsWrong)

/-- 'laws.FnValidGroups': WHATEVER THE INPUT: true; the input reads as it did. -/
def fnValidGroupsSpec : ChangeSpec := { name := "fnValidGroups", fn := fun _ => fun
  | [d] => { results := [.lit (.bool true)], args := [d] }
  | _ => none }
def fnValidGroupsRow : OpenClaim := { program := "ytkaiekegbkoecaa", sum := "3c3507106dd8e154291104c64e126e1eb3a6f1437c3e81e0deb533fb9e01ca15", func := "loop.example/tallychains/laws.FnValidGroups", spec := "fnValidGroups", apart := false }
def FnValidGroupsSaid : Prop := fnValidGroupsRow.holds Try.pinned (OpenSpec.ofChange fnValidGroupsSpec)

/-- ITS FALSE NEIGHBOUR: 'it returns false'. Refute it at one input. -/
def fnValidGroupsWrong : ChangeSpec := { name := "fnValidGroups", fn := fun _ => fun
  | [d] => { results := [.lit (.bool false)], args := [d] }
  | _ => none }
def FnValidGroupsWrongFalsely : Prop := fnValidGroupsRow.holds Try.pinned (OpenSpec.ofChange fnValidGroupsWrong)

/-- 'laws.FnTouchGroup': WHATEVER THE INPUT: true; the input reads as it did. -/
def fnTouchGroupSpec : ChangeSpec := { name := "fnTouchGroup", fn := fun _ => fun
  | [d] => { results := [.lit (.bool true)], args := [d] }
  | _ => none }
def fnTouchGroupRow : OpenClaim := { program := "ytkaiekegbkoecaa", sum := "3c3507106dd8e154291104c64e126e1eb3a6f1437c3e81e0deb533fb9e01ca15", func := "loop.example/tallychains/laws.FnTouchGroup", spec := "fnTouchGroup", unfollowed := true, recurses := true, apart := false }
def FnTouchGroupSaid : Prop := fnTouchGroupRow.holds Try.pinned (OpenSpec.ofChange fnTouchGroupSpec)

/-- ITS FALSE NEIGHBOUR: 'it returns false'. Refute it at one input. -/
def fnTouchGroupWrong : ChangeSpec := { name := "fnTouchGroup", fn := fun _ => fun
  | [d] => { results := [.lit (.bool false)], args := [d] }
  | _ => none }
def FnTouchGroupWrongFalsely : Prop := fnTouchGroupRow.holds Try.pinned (OpenSpec.ofChange fnTouchGroupWrong)

/-- 'laws.FnAddToGroup': WHATEVER THE INPUT: true; the input reads as it did. -/
def fnAddToGroupSpec : ChangeSpec := { name := "fnAddToGroup", fn := fun _ => fun
  | [d] => { results := [.lit (.bool true)], args := [d] }
  | _ => none }
def fnAddToGroupRow : OpenClaim := { program := "ytkaiekegbkoecaa", sum := "3c3507106dd8e154291104c64e126e1eb3a6f1437c3e81e0deb533fb9e01ca15", func := "loop.example/tallychains/laws.FnAddToGroup", spec := "fnAddToGroup", unfollowed := true, recurses := true, apart := false }
def FnAddToGroupSaid : Prop := fnAddToGroupRow.holds Try.pinned (OpenSpec.ofChange fnAddToGroupSpec)

/-- ITS FALSE NEIGHBOUR: 'it returns false'. Refute it at one input. -/
def fnAddToGroupWrong : ChangeSpec := { name := "fnAddToGroup", fn := fun _ => fun
  | [d] => { results := [.lit (.bool false)], args := [d] }
  | _ => none }
def FnAddToGroupWrongFalsely : Prop := fnAddToGroupRow.holds Try.pinned (OpenSpec.ofChange fnAddToGroupWrong)

/-- 'laws.FnGroupSizes': WHATEVER THE INPUT: true; the input reads as it did. -/
def fnGroupSizesSpec : ChangeSpec := { name := "fnGroupSizes", fn := fun _ => fun
  | [d] => { results := [.lit (.bool true)], args := [d] }
  | _ => none }
def fnGroupSizesRow : OpenClaim := { program := "ytkaiekegbkoecaa", sum := "3c3507106dd8e154291104c64e126e1eb3a6f1437c3e81e0deb533fb9e01ca15", func := "loop.example/tallychains/laws.FnGroupSizes", spec := "fnGroupSizes", apart := false }
def FnGroupSizesSaid : Prop := fnGroupSizesRow.holds Try.pinned (OpenSpec.ofChange fnGroupSizesSpec)

/-- ITS FALSE NEIGHBOUR: 'it returns false'. Refute it at one input. -/
def fnGroupSizesWrong : ChangeSpec := { name := "fnGroupSizes", fn := fun _ => fun
  | [d] => { results := [.lit (.bool false)], args := [d] }
  | _ => none }
def FnGroupSizesWrongFalsely : Prop := fnGroupSizesRow.holds Try.pinned (OpenSpec.ofChange fnGroupSizesWrong)

/- THE SECOND FORM. 'bulk': how many values and letters a reading holds, each counted each time it is reached (what is shared counts as often as it is met; a slice's spare places count too). A statement '..UptoSaid' is the law's where the arguments, and the package variables that the reading takes, are together of bulk at most 1048576: NARROWER than '..Said'. Prove '..Said' where nothing that the law and all that it calls make is longer than what came in: it says more and counts as full. Else prove '..UptoSaid'. A law counts once. -/
mutual
def uptoBulk {H : Type} : DataW H → Nat
  | .lit (.string bytes) => bytes.length + 1
  | .lit _ => 1
  | .nil => 1
  | .ptr d => uptoBulk d + 1
  | .slice elems spare => uptoBulkAll elems + uptoBulkAll spare + 1
  | .agg parts => uptoBulkAll parts + 1
  | .iface _ d => uptoBulk d + 1
  | .map entries => uptoBulkEntries entries + 1
  | .held _ => 1
def uptoBulkAll {H : Type} : List (DataW H) → Nat
  | [] => 0
  | d :: r => uptoBulk d + uptoBulkAll r
def uptoBulkEntries {H : Type} : List (Lit × DataW H) → Nat
  | [] => 0
  | x :: r => uptoBulkEntry x + uptoBulkEntries r
def uptoBulkEntry {H : Type} : Lit × DataW H → Nat
  | (.string bytes, d) => bytes.length + uptoBulk d + 1
  | (_, d) => uptoBulk d + 1
 end
def uptoSmall : (H : Type) → List (DataW H) → Bool := fun _ ds => decide (uptoBulkAll ds ≤ 1048576)
def OpenSpec.upto (s : _root_.Go.ChangeSpec) : _root_.Go.OpenSpec := { _root_.Go.OpenSpec.ofChange s with cond := some uptoSmall }

/-- 'laws.FnValidCache', WHERE WHAT IT READS IS OF BULK AT MOST 1048576: true; the input reads as it did. -/
def fnValidCacheUptoRow : OpenClaim := { program := "ytkaiekegbkoecaa", sum := "3c3507106dd8e154291104c64e126e1eb3a6f1437c3e81e0deb533fb9e01ca15", func := "loop.example/tallychains/laws.FnValidCache", spec := "fnValidCache", apart := false, narrowed := true }
def FnValidCacheUptoSaid : Prop := fnValidCacheUptoRow.holds Try.pinned (OpenSpec.upto fnValidCacheSpec)

/-- 'laws.FnLookUp', WHERE WHAT IT READS IS OF BULK AT MOST 1048576: true; the input reads as it did. -/
def fnLookUpUptoRow : OpenClaim := { program := "ytkaiekegbkoecaa", sum := "3c3507106dd8e154291104c64e126e1eb3a6f1437c3e81e0deb533fb9e01ca15", func := "loop.example/tallychains/laws.FnLookUp", spec := "fnLookUp", unfollowed := true, recurses := true, apart := false, narrowed := true }
def FnLookUpUptoSaid : Prop := fnLookUpUptoRow.holds Try.pinned (OpenSpec.upto fnLookUpSpec)

/-- 'laws.FnStoreItem', WHERE WHAT IT READS IS OF BULK AT MOST 1048576: true; the input reads as it did. -/
def fnStoreItemUptoRow : OpenClaim := { program := "ytkaiekegbkoecaa", sum := "3c3507106dd8e154291104c64e126e1eb3a6f1437c3e81e0deb533fb9e01ca15", func := "loop.example/tallychains/laws.FnStoreItem", spec := "fnStoreItem", unfollowed := true, recurses := true, apart := false, narrowed := true }
def FnStoreItemUptoSaid : Prop := fnStoreItemUptoRow.holds Try.pinned (OpenSpec.upto fnStoreItemSpec)

/-- 'laws.FnResizeCache', WHERE WHAT IT READS IS OF BULK AT MOST 1048576: true; the input reads as it did. -/
def fnResizeCacheUptoRow : OpenClaim := { program := "ytkaiekegbkoecaa", sum := "3c3507106dd8e154291104c64e126e1eb3a6f1437c3e81e0deb533fb9e01ca15", func := "loop.example/tallychains/laws.FnResizeCache", spec := "fnResizeCache", unfollowed := true, recurses := true, apart := false, narrowed := true }
def FnResizeCacheUptoSaid : Prop := fnResizeCacheUptoRow.holds Try.pinned (OpenSpec.upto fnResizeCacheSpec)

/-- 'laws.FnRunCache', WHERE WHAT IT READS IS OF BULK AT MOST 1048576: true; the input reads as it did. -/
def fnRunCacheUptoRow : OpenClaim := { program := "ytkaiekegbkoecaa", sum := "3c3507106dd8e154291104c64e126e1eb3a6f1437c3e81e0deb533fb9e01ca15", func := "loop.example/tallychains/laws.FnRunCache", spec := "fnRunCache", unfollowed := true, recurses := true, apart := false, narrowed := true }
def FnRunCacheUptoSaid : Prop := fnRunCacheUptoRow.holds Try.pinned (OpenSpec.upto fnRunCacheSpec)

/-- 'laws.FnRunCacheWide', WHERE WHAT IT READS IS OF BULK AT MOST 1048576: true; the input reads as it did. -/
def fnRunCacheWideUptoRow : OpenClaim := { program := "ytkaiekegbkoecaa", sum := "3c3507106dd8e154291104c64e126e1eb3a6f1437c3e81e0deb533fb9e01ca15", func := "loop.example/tallychains/laws.FnRunCacheWide", spec := "fnRunCacheWide", unfollowed := true, recurses := true, apart := false, narrowed := true }
def FnRunCacheWideUptoSaid : Prop := fnRunCacheWideUptoRow.holds Try.pinned (OpenSpec.upto fnRunCacheWideSpec)

/-- 'laws.FnMeetItems', WHERE WHAT IT READS IS OF BULK AT MOST 1048576: true; the input reads as it did. -/
def fnMeetItemsUptoRow : OpenClaim := { program := "ytkaiekegbkoecaa", sum := "3c3507106dd8e154291104c64e126e1eb3a6f1437c3e81e0deb533fb9e01ca15", func := "loop.example/tallychains/laws.FnMeetItems", spec := "fnMeetItems", unfollowed := true, recurses := true, apart := false, narrowed := true }
def FnMeetItemsUptoSaid : Prop := fnMeetItemsUptoRow.holds Try.pinned (OpenSpec.upto fnMeetItemsSpec)

/-- 'laws.FnValidGroups', WHERE WHAT IT READS IS OF BULK AT MOST 1048576: true; the input reads as it did. -/
def fnValidGroupsUptoRow : OpenClaim := { program := "ytkaiekegbkoecaa", sum := "3c3507106dd8e154291104c64e126e1eb3a6f1437c3e81e0deb533fb9e01ca15", func := "loop.example/tallychains/laws.FnValidGroups", spec := "fnValidGroups", apart := false, narrowed := true }
def FnValidGroupsUptoSaid : Prop := fnValidGroupsUptoRow.holds Try.pinned (OpenSpec.upto fnValidGroupsSpec)

/-- 'laws.FnTouchGroup', WHERE WHAT IT READS IS OF BULK AT MOST 1048576: true; the input reads as it did. -/
def fnTouchGroupUptoRow : OpenClaim := { program := "ytkaiekegbkoecaa", sum := "3c3507106dd8e154291104c64e126e1eb3a6f1437c3e81e0deb533fb9e01ca15", func := "loop.example/tallychains/laws.FnTouchGroup", spec := "fnTouchGroup", unfollowed := true, recurses := true, apart := false, narrowed := true }
def FnTouchGroupUptoSaid : Prop := fnTouchGroupUptoRow.holds Try.pinned (OpenSpec.upto fnTouchGroupSpec)

/-- 'laws.FnAddToGroup', WHERE WHAT IT READS IS OF BULK AT MOST 1048576: true; the input reads as it did. -/
def fnAddToGroupUptoRow : OpenClaim := { program := "ytkaiekegbkoecaa", sum := "3c3507106dd8e154291104c64e126e1eb3a6f1437c3e81e0deb533fb9e01ca15", func := "loop.example/tallychains/laws.FnAddToGroup", spec := "fnAddToGroup", unfollowed := true, recurses := true, apart := false, narrowed := true }
def FnAddToGroupUptoSaid : Prop := fnAddToGroupUptoRow.holds Try.pinned (OpenSpec.upto fnAddToGroupSpec)

/-- 'laws.FnGroupSizes', WHERE WHAT IT READS IS OF BULK AT MOST 1048576: true; the input reads as it did. -/
def fnGroupSizesUptoRow : OpenClaim := { program := "ytkaiekegbkoecaa", sum := "3c3507106dd8e154291104c64e126e1eb3a6f1437c3e81e0deb533fb9e01ca15", func := "loop.example/tallychains/laws.FnGroupSizes", spec := "fnGroupSizes", apart := false, narrowed := true }
def FnGroupSizesUptoSaid : Prop := fnGroupSizesUptoRow.holds Try.pinned (OpenSpec.upto fnGroupSizesSpec)

end Rows
end Go.Proofs.Ytkaiekegbkoecaa
