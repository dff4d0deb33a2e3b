/-
  No cell of these rows narrows 'for every input' (looked for: loops, veiled, ifaces, maps, wideKeys, modest, calm, conditions, laid).
  DERIVED. THE GIVEN ROWS OF THIS SEAT. 22 by the template 'for every input the law returns true; each argument reads behind the call as it read before'; 0 by the template 'total and deterministic' (their statements: YtojepjpmegbdmaaTotals.lean).
  GIVEN WITH THE SEED: the statements are not yours to turn. If you find one false, say at which input.
  Laid BY PROGRAM, IN A SANDBOX (cutbox-rows.mjs): the forced cells as the released guide's own fill.sh prints them over the translation 824f50b34eb85634… (all of the seat's roots in one cut). By AI agents, Wed Nov 11 2026. No macro, syntax, notation, axiom, sorry.
-/
import Derived.Test.YtojepjpmegbdmaaChecked
import GoSem.Claim
import GoSem.ClaimJoined
import GoSem.ClaimMapViews
import Derived.JoinedTies
import Derived.KernelRfl
namespace Go.Proofs.Ytojepjpmegbdmaa
/- THE CELL 'sum', in the pinned program and in every row, IS THE sha256 OF THE DUMP (.gsa) THAT YtojepjpmegbdmaaProg.lean LOADS. Nothing in Lean hashes anything: it is a label: what it is worth is what the hold of that sum in a sandbox is worth. -/
noncomputable def Try.pinned : Pinned := { name := "ytojepjpmegbdmaa", sum := "824f50b34eb8563423143489aa8b0ac9fd3d8c967fc76317c7200447f9f22617", checked := Try.checked }
namespace Rows
def none {H : Type} : Left H := { results := [], args := [] }

/-- 'laws.FnExactValidChain': WHATEVER THE INPUT: true; the input reads as it did. -/
def fnExactValidChainSpec : ChangeSpec := { name := "fnExactValidChain", fn := fun _ => fun
  | [d] => { results := [.lit (.bool true)], args := [d] }
  | _ => none }
def fnExactValidChainRow : OpenClaim := { program := "ytojepjpmegbdmaa", sum := "824f50b34eb8563423143489aa8b0ac9fd3d8c967fc76317c7200447f9f22617", func := "loop.example/tallychains/laws.FnExactValidChain", spec := "fnExactValidChain", apart := false }
def FnExactValidChainSaid : Prop := fnExactValidChainRow.holds Try.pinned (OpenSpec.ofChange fnExactValidChainSpec)

/-- ITS FALSE NEIGHBOUR: 'it returns false'. Refute it at one input. -/
def fnExactValidChainWrong : ChangeSpec := { name := "fnExactValidChain", fn := fun _ => fun
  | [d] => { results := [.lit (.bool false)], args := [d] }
  | _ => none }
def FnExactValidChainWrongFalsely : Prop := fnExactValidChainRow.holds Try.pinned (OpenSpec.ofChange fnExactValidChainWrong)

/-- 'laws.FnExactWhereIs': WHATEVER THE INPUT: true; the input reads as it did. -/
def fnExactWhereIsSpec : ChangeSpec := { name := "fnExactWhereIs", fn := fun _ => fun
  | [d1, d2] => { results := [.lit (.bool true)], args := [d1, d2] }
  | _ => none }
def fnExactWhereIsRow : OpenClaim := { program := "ytojepjpmegbdmaa", sum := "824f50b34eb8563423143489aa8b0ac9fd3d8c967fc76317c7200447f9f22617", func := "loop.example/tallychains/laws.FnExactWhereIs", spec := "fnExactWhereIs", unfollowed := true, recurses := true, apart := false }
def FnExactWhereIsSaid : Prop := fnExactWhereIsRow.holds Try.pinned (OpenSpec.ofChange fnExactWhereIsSpec)

/-- ITS FALSE NEIGHBOUR: 'it returns false'. Refute it at one input. -/
def fnExactWhereIsWrong : ChangeSpec := { name := "fnExactWhereIs", fn := fun _ => fun
  | [d1, d2] => { results := [.lit (.bool false)], args := [d1, d2] }
  | _ => none }
def FnExactWhereIsWrongFalsely : Prop := fnExactWhereIsRow.holds Try.pinned (OpenSpec.ofChange fnExactWhereIsWrong)

/-- 'laws.FnExactChainGet': WHATEVER THE INPUT: true; the input reads as it did. -/
def fnExactChainGetSpec : ChangeSpec := { name := "fnExactChainGet", fn := fun _ => fun
  | [d1, d2] => { results := [.lit (.bool true)], args := [d1, d2] }
  | _ => none }
def fnExactChainGetRow : OpenClaim := { program := "ytojepjpmegbdmaa", sum := "824f50b34eb8563423143489aa8b0ac9fd3d8c967fc76317c7200447f9f22617", func := "loop.example/tallychains/laws.FnExactChainGet", spec := "fnExactChainGet", unfollowed := true, recurses := true, apart := false }
def FnExactChainGetSaid : Prop := fnExactChainGetRow.holds Try.pinned (OpenSpec.ofChange fnExactChainGetSpec)

/-- ITS FALSE NEIGHBOUR: 'it returns false'. Refute it at one input. -/
def fnExactChainGetWrong : ChangeSpec := { name := "fnExactChainGet", fn := fun _ => fun
  | [d1, d2] => { results := [.lit (.bool false)], args := [d1, d2] }
  | _ => none }
def FnExactChainGetWrongFalsely : Prop := fnExactChainGetRow.holds Try.pinned (OpenSpec.ofChange fnExactChainGetWrong)

/-- 'laws.FnExactChainPut': WHATEVER THE INPUT: true; the input reads as it did. -/
def fnExactChainPutSpec : ChangeSpec := { name := "fnExactChainPut", fn := fun _ => fun
  | [d1, d2, d3] => { results := [.lit (.bool true)], args := [d1, d2, d3] }
  | _ => none }
def fnExactChainPutRow : OpenClaim := { program := "ytojepjpmegbdmaa", sum := "824f50b34eb8563423143489aa8b0ac9fd3d8c967fc76317c7200447f9f22617", func := "loop.example/tallychains/laws.FnExactChainPut", spec := "fnExactChainPut", unfollowed := true, recurses := true, apart := false }
def FnExactChainPutSaid : Prop := fnExactChainPutRow.holds Try.pinned (OpenSpec.ofChange fnExactChainPutSpec)

/-- ITS FALSE NEIGHBOUR: 'it returns false'. Refute it at one input. -/
def fnExactChainPutWrong : ChangeSpec := { name := "fnExactChainPut", fn := fun _ => fun
  | [d1, d2, d3] => { results := [.lit (.bool false)], args := [d1, d2, d3] }
  | _ => none }
def FnExactChainPutWrongFalsely : Prop := fnExactChainPutRow.holds Try.pinned (OpenSpec.ofChange fnExactChainPutWrong)

/-- 'laws.FnExactChainDrop': WHATEVER THE INPUT: true; the input reads as it did. -/
def fnExactChainDropSpec : ChangeSpec := { name := "fnExactChainDrop", fn := fun _ => fun
  | [d1, d2] => { results := [.lit (.bool true)], args := [d1, d2] }
  | _ => none }
def fnExactChainDropRow : OpenClaim := { program := "ytojepjpmegbdmaa", sum := "824f50b34eb8563423143489aa8b0ac9fd3d8c967fc76317c7200447f9f22617", func := "loop.example/tallychains/laws.FnExactChainDrop", spec := "fnExactChainDrop", unfollowed := true, recurses := true, apart := false }
def FnExactChainDropSaid : Prop := fnExactChainDropRow.holds Try.pinned (OpenSpec.ofChange fnExactChainDropSpec)

/-- ITS FALSE NEIGHBOUR: 'it returns false'. Refute it at one input. -/
def fnExactChainDropWrong : ChangeSpec := { name := "fnExactChainDrop", fn := fun _ => fun
  | [d1, d2] => { results := [.lit (.bool false)], args := [d1, d2] }
  | _ => none }
def FnExactChainDropWrongFalsely : Prop := fnExactChainDropRow.holds Try.pinned (OpenSpec.ofChange fnExactChainDropWrong)

/-- 'laws.FnExactDeepPut': WHATEVER THE INPUT: true; the input reads as it did. -/
def fnExactDeepPutSpec : ChangeSpec := { name := "fnExactDeepPut", fn := fun _ => fun
  | [d1, d2, d3] => { results := [.lit (.bool true)], args := [d1, d2, d3] }
  | _ => none }
def fnExactDeepPutRow : OpenClaim := { program := "ytojepjpmegbdmaa", sum := "824f50b34eb8563423143489aa8b0ac9fd3d8c967fc76317c7200447f9f22617", func := "loop.example/tallychains/laws.FnExactDeepPut", spec := "fnExactDeepPut", unfollowed := true, recurses := true, apart := false }
def FnExactDeepPutSaid : Prop := fnExactDeepPutRow.holds Try.pinned (OpenSpec.ofChange fnExactDeepPutSpec)

/-- ITS FALSE NEIGHBOUR: 'it returns false'. Refute it at one input. -/
def fnExactDeepPutWrong : ChangeSpec := { name := "fnExactDeepPut", fn := fun _ => fun
  | [d1, d2, d3] => { results := [.lit (.bool false)], args := [d1, d2, d3] }
  | _ => none }
def FnExactDeepPutWrongFalsely : Prop := fnExactDeepPutRow.holds Try.pinned (OpenSpec.ofChange fnExactDeepPutWrong)

/-- 'laws.FnExactDeepDrop': WHATEVER THE INPUT: true; the input reads as it did. -/
def fnExactDeepDropSpec : ChangeSpec := { name := "fnExactDeepDrop", fn := fun _ => fun
  | [d1, d2] => { results := [.lit (.bool true)], args := [d1, d2] }
  | _ => none }
def fnExactDeepDropRow : OpenClaim := { program := "ytojepjpmegbdmaa", sum := "824f50b34eb8563423143489aa8b0ac9fd3d8c967fc76317c7200447f9f22617", func := "loop.example/tallychains/laws.FnExactDeepDrop", spec := "fnExactDeepDrop", unfollowed := true, recurses := true, apart := false }
def FnExactDeepDropSaid : Prop := fnExactDeepDropRow.holds Try.pinned (OpenSpec.ofChange fnExactDeepDropSpec)

/-- ITS FALSE NEIGHBOUR: 'it returns false'. Refute it at one input. -/
def fnExactDeepDropWrong : ChangeSpec := { name := "fnExactDeepDrop", fn := fun _ => fun
  | [d1, d2] => { results := [.lit (.bool false)], args := [d1, d2] }
  | _ => none }
def FnExactDeepDropWrongFalsely : Prop := fnExactDeepDropRow.holds Try.pinned (OpenSpec.ofChange fnExactDeepDropWrong)

/-- 'laws.FnExactNewChild': WHATEVER THE INPUT: true; the input reads as it did. -/
def fnExactNewChildSpec : ChangeSpec := { name := "fnExactNewChild", fn := fun _ => fun
  | [d1, d2] => { results := [.lit (.bool true)], args := [d1, d2] }
  | _ => none }
def fnExactNewChildRow : OpenClaim := { program := "ytojepjpmegbdmaa", sum := "824f50b34eb8563423143489aa8b0ac9fd3d8c967fc76317c7200447f9f22617", func := "loop.example/tallychains/laws.FnExactNewChild", spec := "fnExactNewChild", apart := false }
def FnExactNewChildSaid : Prop := fnExactNewChildRow.holds Try.pinned (OpenSpec.ofChange fnExactNewChildSpec)

/-- ITS FALSE NEIGHBOUR: 'it returns false'. Refute it at one input. -/
def fnExactNewChildWrong : ChangeSpec := { name := "fnExactNewChild", fn := fun _ => fun
  | [d1, d2] => { results := [.lit (.bool false)], args := [d1, d2] }
  | _ => none }
def FnExactNewChildWrongFalsely : Prop := fnExactNewChildRow.holds Try.pinned (OpenSpec.ofChange fnExactNewChildWrong)

/-- 'laws.FnExactParentsOf': WHATEVER THE INPUT: true; the input reads as it did. -/
def fnExactParentsOfSpec : ChangeSpec := { name := "fnExactParentsOf", fn := fun _ => fun
  | [d] => { results := [.lit (.bool true)], args := [d] }
  | _ => none }
def fnExactParentsOfRow : OpenClaim := { program := "ytojepjpmegbdmaa", sum := "824f50b34eb8563423143489aa8b0ac9fd3d8c967fc76317c7200447f9f22617", func := "loop.example/tallychains/laws.FnExactParentsOf", spec := "fnExactParentsOf", apart := false }
def FnExactParentsOfSaid : Prop := fnExactParentsOfRow.holds Try.pinned (OpenSpec.ofChange fnExactParentsOfSpec)

/-- ITS FALSE NEIGHBOUR: 'it returns false'. Refute it at one input. -/
def fnExactParentsOfWrong : ChangeSpec := { name := "fnExactParentsOf", fn := fun _ => fun
  | [d] => { results := [.lit (.bool false)], args := [d] }
  | _ => none }
def FnExactParentsOfWrongFalsely : Prop := fnExactParentsOfRow.holds Try.pinned (OpenSpec.ofChange fnExactParentsOfWrong)

/-- 'laws.FnExactChainItems': WHATEVER THE INPUT: true; the input reads as it did. -/
def fnExactChainItemsSpec : ChangeSpec := { name := "fnExactChainItems", fn := fun _ => fun
  | [d] => { results := [.lit (.bool true)], args := [d] }
  | _ => none }
def fnExactChainItemsRow : OpenClaim := { program := "ytojepjpmegbdmaa", sum := "824f50b34eb8563423143489aa8b0ac9fd3d8c967fc76317c7200447f9f22617", func := "loop.example/tallychains/laws.FnExactChainItems", spec := "fnExactChainItems", unfollowed := true, recurses := true, apart := false }
def FnExactChainItemsSaid : Prop := fnExactChainItemsRow.holds Try.pinned (OpenSpec.ofChange fnExactChainItemsSpec)

/-- ITS FALSE NEIGHBOUR: 'it returns false'. Refute it at one input. -/
def fnExactChainItemsWrong : ChangeSpec := { name := "fnExactChainItems", fn := fun _ => fun
  | [d] => { results := [.lit (.bool false)], args := [d] }
  | _ => none }
def FnExactChainItemsWrongFalsely : Prop := fnExactChainItemsRow.holds Try.pinned (OpenSpec.ofChange fnExactChainItemsWrong)

/-- 'laws.FnExactChainKeys': WHATEVER THE INPUT: true; the input reads as it did. -/
def fnExactChainKeysSpec : ChangeSpec := { name := "fnExactChainKeys", fn := fun _ => fun
  | [d] => { results := [.lit (.bool true)], args := [d] }
  | _ => none }
def fnExactChainKeysRow : OpenClaim := { program := "ytojepjpmegbdmaa", sum := "824f50b34eb8563423143489aa8b0ac9fd3d8c967fc76317c7200447f9f22617", func := "loop.example/tallychains/laws.FnExactChainKeys", spec := "fnExactChainKeys", unfollowed := true, recurses := true, apart := false }
def FnExactChainKeysSaid : Prop := fnExactChainKeysRow.holds Try.pinned (OpenSpec.ofChange fnExactChainKeysSpec)

/-- ITS FALSE NEIGHBOUR: 'it returns false'. Refute it at one input. -/
def fnExactChainKeysWrong : ChangeSpec := { name := "fnExactChainKeys", fn := fun _ => fun
  | [d] => { results := [.lit (.bool false)], args := [d] }
  | _ => none }
def FnExactChainKeysWrongFalsely : Prop := fnExactChainKeysRow.holds Try.pinned (OpenSpec.ofChange fnExactChainKeysWrong)

/-- 'laws.FnExactCollapseChain': WHATEVER THE INPUT: true; the input reads as it did. -/
def fnExactCollapseChainSpec : ChangeSpec := { name := "fnExactCollapseChain", fn := fun _ => fun
  | [d] => { results := [.lit (.bool true)], args := [d] }
  | _ => none }
def fnExactCollapseChainRow : OpenClaim := { program := "ytojepjpmegbdmaa", sum := "824f50b34eb8563423143489aa8b0ac9fd3d8c967fc76317c7200447f9f22617", func := "loop.example/tallychains/laws.FnExactCollapseChain", spec := "fnExactCollapseChain", unfollowed := true, recurses := true, apart := false }
def FnExactCollapseChainSaid : Prop := fnExactCollapseChainRow.holds Try.pinned (OpenSpec.ofChange fnExactCollapseChainSpec)

/-- ITS FALSE NEIGHBOUR: 'it returns false'. Refute it at one input. -/
def fnExactCollapseChainWrong : ChangeSpec := { name := "fnExactCollapseChain", fn := fun _ => fun
  | [d] => { results := [.lit (.bool false)], args := [d] }
  | _ => none }
def FnExactCollapseChainWrongFalsely : Prop := fnExactCollapseChainRow.holds Try.pinned (OpenSpec.ofChange fnExactCollapseChainWrong)

/-- 'laws.FnExactJoinChains': WHATEVER THE INPUT: true; the input reads as it did. -/
def fnExactJoinChainsSpec : ChangeSpec := { name := "fnExactJoinChains", fn := fun _ => fun
  | [d1, d2] => { results := [.lit (.bool true)], args := [d1, d2] }
  | _ => none }
def fnExactJoinChainsRow : OpenClaim := { program := "ytojepjpmegbdmaa", sum := "824f50b34eb8563423143489aa8b0ac9fd3d8c967fc76317c7200447f9f22617", func := "loop.example/tallychains/laws.FnExactJoinChains", spec := "fnExactJoinChains", apart := false }
def FnExactJoinChainsSaid : Prop := fnExactJoinChainsRow.holds Try.pinned (OpenSpec.ofChange fnExactJoinChainsSpec)

/-- ITS FALSE NEIGHBOUR: 'it returns false'. Refute it at one input. -/
def fnExactJoinChainsWrong : ChangeSpec := { name := "fnExactJoinChains", fn := fun _ => fun
  | [d1, d2] => { results := [.lit (.bool false)], args := [d1, d2] }
  | _ => none }
def FnExactJoinChainsWrongFalsely : Prop := fnExactJoinChainsRow.holds Try.pinned (OpenSpec.ofChange fnExactJoinChainsWrong)

/-- 'laws.FnExactHowOften': WHATEVER THE INPUT: true; the input reads as it did. -/
def fnExactHowOftenSpec : ChangeSpec := { name := "fnExactHowOften", fn := fun _ => fun
  | [d1, d2] => { results := [.lit (.bool true)], args := [d1, d2] }
  | _ => none }
def fnExactHowOftenRow : OpenClaim := { program := "ytojepjpmegbdmaa", sum := "824f50b34eb8563423143489aa8b0ac9fd3d8c967fc76317c7200447f9f22617", func := "loop.example/tallychains/laws.FnExactHowOften", spec := "fnExactHowOften", unfollowed := true, recurses := true, apart := false }
def FnExactHowOftenSaid : Prop := fnExactHowOftenRow.holds Try.pinned (OpenSpec.ofChange fnExactHowOftenSpec)

/-- ITS FALSE NEIGHBOUR: 'it returns false'. Refute it at one input. -/
def fnExactHowOftenWrong : ChangeSpec := { name := "fnExactHowOften", fn := fun _ => fun
  | [d1, d2] => { results := [.lit (.bool false)], args := [d1, d2] }
  | _ => none }
def FnExactHowOftenWrongFalsely : Prop := fnExactHowOftenRow.holds Try.pinned (OpenSpec.ofChange fnExactHowOftenWrong)

/-- 'laws.FnExactHiddenIn': WHATEVER THE INPUT: true; the input reads as it did. -/
def fnExactHiddenInSpec : ChangeSpec := { name := "fnExactHiddenIn", fn := fun _ => fun
  | [d1, d2] => { results := [.lit (.bool true)], args := [d1, d2] }
  | _ => none }
def fnExactHiddenInRow : OpenClaim := { program := "ytojepjpmegbdmaa", sum := "824f50b34eb8563423143489aa8b0ac9fd3d8c967fc76317c7200447f9f22617", func := "loop.example/tallychains/laws.FnExactHiddenIn", spec := "fnExactHiddenIn", unfollowed := true, recurses := true, apart := false }
def FnExactHiddenInSaid : Prop := fnExactHiddenInRow.holds Try.pinned (OpenSpec.ofChange fnExactHiddenInSpec)

/-- ITS FALSE NEIGHBOUR: 'it returns false'. Refute it at one input. -/
def fnExactHiddenInWrong : ChangeSpec := { name := "fnExactHiddenIn", fn := fun _ => fun
  | [d1, d2] => { results := [.lit (.bool false)], args := [d1, d2] }
  | _ => none }
def FnExactHiddenInWrongFalsely : Prop := fnExactHiddenInRow.holds Try.pinned (OpenSpec.ofChange fnExactHiddenInWrong)

/-- 'laws.FnExactShowAll': WHATEVER THE INPUT: true; the input reads as it did. -/
def fnExactShowAllSpec : ChangeSpec := { name := "fnExactShowAll", fn := fun _ => fun
  | [d] => { results := [.lit (.bool true)], args := [d] }
  | _ => none }
def fnExactShowAllRow : OpenClaim := { program := "ytojepjpmegbdmaa", sum := "824f50b34eb8563423143489aa8b0ac9fd3d8c967fc76317c7200447f9f22617", func := "loop.example/tallychains/laws.FnExactShowAll", spec := "fnExactShowAll", unfollowed := true, recurses := true, apart := false }
def FnExactShowAllSaid : Prop := fnExactShowAllRow.holds Try.pinned (OpenSpec.ofChange fnExactShowAllSpec)

/-- ITS FALSE NEIGHBOUR: 'it returns false'. Refute it at one input. -/
def fnExactShowAllWrong : ChangeSpec := { name := "fnExactShowAll", fn := fun _ => fun
  | [d] => { results := [.lit (.bool false)], args := [d] }
  | _ => none }
def FnExactShowAllWrongFalsely : Prop := fnExactShowAllRow.holds Try.pinned (OpenSpec.ofChange fnExactShowAllWrong)

/-- 'laws.FnExactSameChain': WHATEVER THE INPUT: true; the input reads as it did. -/
def fnExactSameChainSpec : ChangeSpec := { name := "fnExactSameChain", fn := fun _ => fun
  | [d1, d2] => { results := [.lit (.bool true)], args := [d1, d2] }
  | _ => none }
def fnExactSameChainRow : OpenClaim := { program := "ytojepjpmegbdmaa", sum := "824f50b34eb8563423143489aa8b0ac9fd3d8c967fc76317c7200447f9f22617", func := "loop.example/tallychains/laws.FnExactSameChain", spec := "fnExactSameChain", unfollowed := true, recurses := true, apart := false }
def FnExactSameChainSaid : Prop := fnExactSameChainRow.holds Try.pinned (OpenSpec.ofChange fnExactSameChainSpec)

/-- ITS FALSE NEIGHBOUR: 'it returns false'. Refute it at one input. -/
def fnExactSameChainWrong : ChangeSpec := { name := "fnExactSameChain", fn := fun _ => fun
  | [d1, d2] => { results := [.lit (.bool false)], args := [d1, d2] }
  | _ => none }
def FnExactSameChainWrongFalsely : Prop := fnExactSameChainRow.holds Try.pinned (OpenSpec.ofChange fnExactSameChainWrong)

/-- 'laws.FnExactStoreItem': WHATEVER THE INPUT: true; the input reads as it did. -/
def fnExactStoreItemSpec : ChangeSpec := { name := "fnExactStoreItem", fn := fun _ => fun
  | [d1, d2, d3] => { results := [.lit (.bool true)], args := [d1, d2, d3] }
  | _ => none }
def fnExactStoreItemRow : OpenClaim := { program := "ytojepjpmegbdmaa", sum := "824f50b34eb8563423143489aa8b0ac9fd3d8c967fc76317c7200447f9f22617", func := "loop.example/tallychains/laws.FnExactStoreItem", spec := "fnExactStoreItem", unfollowed := true, recurses := true, apart := false }
def FnExactStoreItemSaid : Prop := fnExactStoreItemRow.holds Try.pinned (OpenSpec.ofChange fnExactStoreItemSpec)

/-- ITS FALSE NEIGHBOUR: 'it returns false'. Refute it at one input. -/
def fnExactStoreItemWrong : ChangeSpec := { name := "fnExactStoreItem", fn := fun _ => fun
  | [d1, d2, d3] => { results := [.lit (.bool false)], args := [d1, d2, d3] }
  | _ => none }
def FnExactStoreItemWrongFalsely : Prop := fnExactStoreItemRow.holds Try.pinned (OpenSpec.ofChange fnExactStoreItemWrong)

/-- 'laws.FnExactRunCache': WHATEVER THE INPUT: true; the input reads as it did. -/
def fnExactRunCacheSpec : ChangeSpec := { name := "fnExactRunCache", fn := fun _ => fun
  | [d1, d2] => { results := [.lit (.bool true)], args := [d1, d2] }
  | _ => none }
def fnExactRunCacheRow : OpenClaim := { program := "ytojepjpmegbdmaa", sum := "824f50b34eb8563423143489aa8b0ac9fd3d8c967fc76317c7200447f9f22617", func := "loop.example/tallychains/laws.FnExactRunCache", spec := "fnExactRunCache", unfollowed := true, recurses := true, apart := false }
def FnExactRunCacheSaid : Prop := fnExactRunCacheRow.holds Try.pinned (OpenSpec.ofChange fnExactRunCacheSpec)

/-- ITS FALSE NEIGHBOUR: 'it returns false'. Refute it at one input. -/
def fnExactRunCacheWrong : ChangeSpec := { name := "fnExactRunCache", fn := fun _ => fun
  | [d1, d2] => { results := [.lit (.bool false)], args := [d1, d2] }
  | _ => none }
def FnExactRunCacheWrongFalsely : Prop := fnExactRunCacheRow.holds Try.pinned (OpenSpec.ofChange fnExactRunCacheWrong)

/-- 'laws.FnExactSameItems': WHATEVER THE INPUT: true; the input reads as it did. -/
def fnExactSameItemsSpec : ChangeSpec := { name := "fnExactSameItems", fn := fun _ => fun
  | [d1, d2] => { results := [.lit (.bool true)], args := [d1, d2] }
  | _ => none }
def fnExactSameItemsRow : OpenClaim := { program := "ytojepjpmegbdmaa", sum := "824f50b34eb8563423143489aa8b0ac9fd3d8c967fc76317c7200447f9f22617", func := "loop.example/tallychains/laws.FnExactSameItems", spec := "fnExactSameItems", unfollowed := true, recurses := true, apart := false }
def FnExactSameItemsSaid : Prop := fnExactSameItemsRow.holds Try.pinned (OpenSpec.ofChange fnExactSameItemsSpec)

/-- ITS FALSE NEIGHBOUR: 'it returns false'. Refute it at one input. -/
def fnExactSameItemsWrong : ChangeSpec := { name := "fnExactSameItems", fn := fun _ => fun
  | [d1, d2] => { results := [.lit (.bool false)], args := [d1, d2] }
  | _ => none }
def FnExactSameItemsWrongFalsely : Prop := fnExactSameItemsRow.holds Try.pinned (OpenSpec.ofChange fnExactSameItemsWrong)

/-- 'laws.FnExactSortKeys': WHATEVER THE INPUT: true; the input reads as it did. -/
def fnExactSortKeysSpec : ChangeSpec := { name := "fnExactSortKeys", fn := fun _ => fun
  | [d] => { results := [.lit (.bool true)], args := [d] }
  | _ => none }
def fnExactSortKeysRow : OpenClaim := { program := "ytojepjpmegbdmaa", sum := "824f50b34eb8563423143489aa8b0ac9fd3d8c967fc76317c7200447f9f22617", func := "loop.example/tallychains/laws.FnExactSortKeys", spec := "fnExactSortKeys", unfollowed := true, recurses := true, apart := false }
def FnExactSortKeysSaid : Prop := fnExactSortKeysRow.holds Try.pinned (OpenSpec.ofChange fnExactSortKeysSpec)

/-- ITS FALSE NEIGHBOUR: 'it returns false'. Refute it at one input. -/
def fnExactSortKeysWrong : ChangeSpec := { name := "fnExactSortKeys", fn := fun _ => fun
  | [d] => { results := [.lit (.bool false)], args := [d] }
  | _ => none }
def FnExactSortKeysWrongFalsely : Prop := fnExactSortKeysRow.holds Try.pinned (OpenSpec.ofChange fnExactSortKeysWrong)

/-- 'laws.FnExactMostCommon': WHATEVER THE INPUT: true; the input reads as it did. -/
def fnExactMostCommonSpec : ChangeSpec := { name := "fnExactMostCommon", fn := fun _ => fun
  | [d1, d2] => { results := [.lit (.bool true)], args := [d1, d2] }
  | _ => none }
def fnExactMostCommonRow : OpenClaim := { program := "ytojepjpmegbdmaa", sum := "824f50b34eb8563423143489aa8b0ac9fd3d8c967fc76317c7200447f9f22617", func := "loop.example/tallychains/laws.FnExactMostCommon", spec := "fnExactMostCommon", unfollowed := true, recurses := true, apart := false }
def FnExactMostCommonSaid : Prop := fnExactMostCommonRow.holds Try.pinned (OpenSpec.ofChange fnExactMostCommonSpec)

/-- ITS FALSE NEIGHBOUR: 'it returns false'. Refute it at one input. -/
def fnExactMostCommonWrong : ChangeSpec := { name := "fnExactMostCommon", fn := fun _ => fun
  | [d1, d2] => { results := [.lit (.bool false)], args := [d1, d2] }
  | _ => none }
def FnExactMostCommonWrongFalsely : Prop := fnExactMostCommonRow.holds Try.pinned (OpenSpec.ofChange fnExactMostCommonWrong)

/- THE SECOND FORM. 'bulk': how many values and letters a reading holds, each counted each time it is reached (what is shared counts as often as it is met; a slice's spare places count too). A statement '..UptoSaid' is the law's where the arguments, and the package variables that the reading takes, are together of bulk at most 1048576: NARROWER than '..Said'. Prove '..Said' where nothing that the law and all that it calls make is longer than what came in: it says more and counts as full. Else prove '..UptoSaid'. A law counts once. -/
mutual
def uptoBulk {H : Type} : DataW H → Nat
  | .lit (.string bytes) => bytes.length + 1
  | .lit _ => 1
  | .nil => 1
  | .ptr d => uptoBulk d + 1
  | .slice elems spare => uptoBulkAll elems + uptoBulkAll spare + 1
  | .agg parts => uptoBulkAll parts + 1
  | .iface _ d => uptoBulk d + 1
  | .map entries => uptoBulkEntries entries + 1
  | .held _ => 1
def uptoBulkAll {H : Type} : List (DataW H) → Nat
  | [] => 0
  | d :: r => uptoBulk d + uptoBulkAll r
def uptoBulkEntries {H : Type} : List (Lit × DataW H) → Nat
  | [] => 0
  | x :: r => uptoBulkEntry x + uptoBulkEntries r
def uptoBulkEntry {H : Type} : Lit × DataW H → Nat
  | (.string bytes, d) => bytes.length + uptoBulk d + 1
  | (_, d) => uptoBulk d + 1
 end
def uptoSmall : (H : Type) → List (DataW H) → Bool := fun _ ds => decide (uptoBulkAll ds ≤ 1048576)
def OpenSpec.upto (s : _root_.Go.ChangeSpec) : _root_.Go.OpenSpec := { _root_.Go.OpenSpec.ofChange s with cond := some uptoSmall }

/-- 'laws.FnExactValidChain', WHERE WHAT IT READS IS OF BULK AT MOST 1048576: true; the input reads as it did. -/
def fnExactValidChainUptoRow : OpenClaim := { program := "ytojepjpmegbdmaa", sum := "824f50b34eb8563423143489aa8b0ac9fd3d8c967fc76317c7200447f9f22617", func := "loop.example/tallychains/laws.FnExactValidChain", spec := "fnExactValidChain", apart := false, narrowed := true }
def FnExactValidChainUptoSaid : Prop := fnExactValidChainUptoRow.holds Try.pinned (OpenSpec.upto fnExactValidChainSpec)

/-- 'laws.FnExactWhereIs', WHERE WHAT IT READS IS OF BULK AT MOST 1048576: true; the input reads as it did. -/
def fnExactWhereIsUptoRow : OpenClaim := { program := "ytojepjpmegbdmaa", sum := "824f50b34eb8563423143489aa8b0ac9fd3d8c967fc76317c7200447f9f22617", func := "loop.example/tallychains/laws.FnExactWhereIs", spec := "fnExactWhereIs", unfollowed := true, recurses := true, apart := false, narrowed := true }
def FnExactWhereIsUptoSaid : Prop := fnExactWhereIsUptoRow.holds Try.pinned (OpenSpec.upto fnExactWhereIsSpec)

/-- 'laws.FnExactChainGet', WHERE WHAT IT READS IS OF BULK AT MOST 1048576: true; the input reads as it did. -/
def fnExactChainGetUptoRow : OpenClaim := { program := "ytojepjpmegbdmaa", sum := "824f50b34eb8563423143489aa8b0ac9fd3d8c967fc76317c7200447f9f22617", func := "loop.example/tallychains/laws.FnExactChainGet", spec := "fnExactChainGet", unfollowed := true, recurses := true, apart := false, narrowed := true }
def FnExactChainGetUptoSaid : Prop := fnExactChainGetUptoRow.holds Try.pinned (OpenSpec.upto fnExactChainGetSpec)

/-- 'laws.FnExactChainPut', WHERE WHAT IT READS IS OF BULK AT MOST 1048576: true; the input reads as it did. -/
def fnExactChainPutUptoRow : OpenClaim := { program := "ytojepjpmegbdmaa", sum := "824f50b34eb8563423143489aa8b0ac9fd3d8c967fc76317c7200447f9f22617", func := "loop.example/tallychains/laws.FnExactChainPut", spec := "fnExactChainPut", unfollowed := true, recurses := true, apart := false, narrowed := true }
def FnExactChainPutUptoSaid : Prop := fnExactChainPutUptoRow.holds Try.pinned (OpenSpec.upto fnExactChainPutSpec)

/-- 'laws.FnExactChainDrop', WHERE WHAT IT READS IS OF BULK AT MOST 1048576: true; the input reads as it did. -/
def fnExactChainDropUptoRow : OpenClaim := { program := "ytojepjpmegbdmaa", sum := "824f50b34eb8563423143489aa8b0ac9fd3d8c967fc76317c7200447f9f22617", func := "loop.example/tallychains/laws.FnExactChainDrop", spec := "fnExactChainDrop", unfollowed := true, recurses := true, apart := false, narrowed := true }
def FnExactChainDropUptoSaid : Prop := fnExactChainDropUptoRow.holds Try.pinned (OpenSpec.upto fnExactChainDropSpec)

/-- 'laws.FnExactDeepPut', WHERE WHAT IT READS IS OF BULK AT MOST 1048576: true; the input reads as it did. -/
def fnExactDeepPutUptoRow : OpenClaim := { program := "ytojepjpmegbdmaa", sum := "824f50b34eb8563423143489aa8b0ac9fd3d8c967fc76317c7200447f9f22617", func := "loop.example/tallychains/laws.FnExactDeepPut", spec := "fnExactDeepPut", unfollowed := true, recurses := true, apart := false, narrowed := true }
def FnExactDeepPutUptoSaid : Prop := fnExactDeepPutUptoRow.holds Try.pinned (OpenSpec.upto fnExactDeepPutSpec)

/-- 'laws.FnExactDeepDrop', WHERE WHAT IT READS IS OF BULK AT MOST 1048576: true; the input reads as it did. -/
def fnExactDeepDropUptoRow : OpenClaim := { program := "ytojepjpmegbdmaa", sum := "824f50b34eb8563423143489aa8b0ac9fd3d8c967fc76317c7200447f9f22617", func := "loop.example/tallychains/laws.FnExactDeepDrop", spec := "fnExactDeepDrop", unfollowed := true, recurses := true, apart := false, narrowed := true }
def FnExactDeepDropUptoSaid : Prop := fnExactDeepDropUptoRow.holds Try.pinned (OpenSpec.upto fnExactDeepDropSpec)

/-- 'laws.FnExactNewChild', WHERE WHAT IT READS IS OF BULK AT MOST 1048576: true; the input reads as it did. -/
def fnExactNewChildUptoRow : OpenClaim := { program := "ytojepjpmegbdmaa", sum := "824f50b34eb8563423143489aa8b0ac9fd3d8c967fc76317c7200447f9f22617", func := "loop.example/tallychains/laws.FnExactNewChild", spec := "fnExactNewChild", apart := false, narrowed := true }
def FnExactNewChildUptoSaid : Prop := fnExactNewChildUptoRow.holds Try.pinned (OpenSpec.upto fnExactNewChildSpec)

/-- 'laws.FnExactParentsOf', WHERE WHAT IT READS IS OF BULK AT MOST 1048576: true; the input reads as it did. -/
def fnExactParentsOfUptoRow : OpenClaim := { program := "ytojepjpmegbdmaa", sum := "824f50b34eb8563423143489aa8b0ac9fd3d8c967fc76317c7200447f9f22617", func := "loop.example/tallychains/laws.FnExactParentsOf", spec := "fnExactParentsOf", apart := false, narrowed := true }
def FnExactParentsOfUptoSaid : Prop := fnExactParentsOfUptoRow.holds Try.pinned (OpenSpec.upto fnExactParentsOfSpec)

/-- 'laws.FnExactChainItems', WHERE WHAT IT READS IS OF BULK AT MOST 1048576: true; the input reads as it did. -/
def fnExactChainItemsUptoRow : OpenClaim := { program := "ytojepjpmegbdmaa", sum := "824f50b34eb8563423143489aa8b0ac9fd3d8c967fc76317c7200447f9f22617", func := "loop.example/tallychains/laws.FnExactChainItems", spec := "fnExactChainItems", unfollowed := true, recurses := true, apart := false, narrowed := true }
def FnExactChainItemsUptoSaid : Prop := fnExactChainItemsUptoRow.holds Try.pinned (OpenSpec.upto fnExactChainItemsSpec)

/-- 'laws.FnExactChainKeys', WHERE WHAT IT READS IS OF BULK AT MOST 1048576: true; the input reads as it did. -/
def fnExactChainKeysUptoRow : OpenClaim := { program := "ytojepjpmegbdmaa", sum := "824f50b34eb8563423143489aa8b0ac9fd3d8c967fc76317c7200447f9f22617", func := "loop.example/tallychains/laws.FnExactChainKeys", spec := "fnExactChainKeys", unfollowed := true, recurses := true, apart := false, narrowed := true }
def FnExactChainKeysUptoSaid : Prop := fnExactChainKeysUptoRow.holds Try.pinned (OpenSpec.upto fnExactChainKeysSpec)

/-- 'laws.FnExactCollapseChain', WHERE WHAT IT READS IS OF BULK AT MOST 1048576: true; the input reads as it did. -/
def fnExactCollapseChainUptoRow : OpenClaim := { program := "ytojepjpmegbdmaa", sum := "824f50b34eb8563423143489aa8b0ac9fd3d8c967fc76317c7200447f9f22617", func := "loop.example/tallychains/laws.FnExactCollapseChain", spec := "fnExactCollapseChain", unfollowed := true, recurses := true, apart := false, narrowed := true }
def FnExactCollapseChainUptoSaid : Prop := fnExactCollapseChainUptoRow.holds Try.pinned (OpenSpec.upto fnExactCollapseChainSpec)

/-- 'laws.FnExactJoinChains', WHERE WHAT IT READS IS OF BULK AT MOST 1048576: true; the input reads as it did. -/
def fnExactJoinChainsUptoRow : OpenClaim := { program := "ytojepjpmegbdmaa", sum := "824f50b34eb8563423143489aa8b0ac9fd3d8c967fc76317c7200447f9f22617", func := "loop.example/tallychains/laws.FnExactJoinChains", spec := "fnExactJoinChains", apart := false, narrowed := true }
def FnExactJoinChainsUptoSaid : Prop := fnExactJoinChainsUptoRow.holds Try.pinned (OpenSpec.upto fnExactJoinChainsSpec)

/-- 'laws.FnExactHowOften', WHERE WHAT IT READS IS OF BULK AT MOST 1048576: true; the input reads as it did. -/
def fnExactHowOftenUptoRow : OpenClaim := { program := "ytojepjpmegbdmaa", sum := "824f50b34eb8563423143489aa8b0ac9fd3d8c967fc76317c7200447f9f22617", func := "loop.example/tallychains/laws.FnExactHowOften", spec := "fnExactHowOften", unfollowed := true, recurses := true, apart := false, narrowed := true }
def FnExactHowOftenUptoSaid : Prop := fnExactHowOftenUptoRow.holds Try.pinned (OpenSpec.upto fnExactHowOftenSpec)

/-- 'laws.FnExactHiddenIn', WHERE WHAT IT READS IS OF BULK AT MOST 1048576: true; the input reads as it did. -/
def fnExactHiddenInUptoRow : OpenClaim := { program := "ytojepjpmegbdmaa", sum := "824f50b34eb8563423143489aa8b0ac9fd3d8c967fc76317c7200447f9f22617", func := "loop.example/tallychains/laws.FnExactHiddenIn", spec := "fnExactHiddenIn", unfollowed := true, recurses := true, apart := false, narrowed := true }
def FnExactHiddenInUptoSaid : Prop := fnExactHiddenInUptoRow.holds Try.pinned (OpenSpec.upto fnExactHiddenInSpec)

/-- 'laws.FnExactShowAll', WHERE WHAT IT READS IS OF BULK AT MOST 1048576: true; the input reads as it did. -/
def fnExactShowAllUptoRow : OpenClaim := { program := "ytojepjpmegbdmaa", sum := "824f50b34eb8563423143489aa8b0ac9fd3d8c967fc76317c7200447f9f22617", func := "loop.example/tallychains/laws.FnExactShowAll", spec := "fnExactShowAll", unfollowed := true, recurses := true, apart := false, narrowed := true }
def FnExactShowAllUptoSaid : Prop := fnExactShowAllUptoRow.holds Try.pinned (OpenSpec.upto fnExactShowAllSpec)

/-- 'laws.FnExactSameChain', WHERE WHAT IT READS IS OF BULK AT MOST 1048576: true; the input reads as it did. -/
def fnExactSameChainUptoRow : OpenClaim := { program := "ytojepjpmegbdmaa", sum := "824f50b34eb8563423143489aa8b0ac9fd3d8c967fc76317c7200447f9f22617", func := "loop.example/tallychains/laws.FnExactSameChain", spec := "fnExactSameChain", unfollowed := true, recurses := true, apart := false, narrowed := true }
def FnExactSameChainUptoSaid : Prop := fnExactSameChainUptoRow.holds Try.pinned (OpenSpec.upto fnExactSameChainSpec)

/-- 'laws.FnExactStoreItem', WHERE WHAT IT READS IS OF BULK AT MOST 1048576: true; the input reads as it did. -/
def fnExactStoreItemUptoRow : OpenClaim := { program := "ytojepjpmegbdmaa", sum := "824f50b34eb8563423143489aa8b0ac9fd3d8c967fc76317c7200447f9f22617", func := "loop.example/tallychains/laws.FnExactStoreItem", spec := "fnExactStoreItem", unfollowed := true, recurses := true, apart := false, narrowed := true }
def FnExactStoreItemUptoSaid : Prop := fnExactStoreItemUptoRow.holds Try.pinned (OpenSpec.upto fnExactStoreItemSpec)

/-- 'laws.FnExactRunCache', WHERE WHAT IT READS IS OF BULK AT MOST 1048576: true; the input reads as it did. -/
def fnExactRunCacheUptoRow : OpenClaim := { program := "ytojepjpmegbdmaa", sum := "824f50b34eb8563423143489aa8b0ac9fd3d8c967fc76317c7200447f9f22617", func := "loop.example/tallychains/laws.FnExactRunCache", spec := "fnExactRunCache", unfollowed := true, recurses := true, apart := false, narrowed := true }
def FnExactRunCacheUptoSaid : Prop := fnExactRunCacheUptoRow.holds Try.pinned (OpenSpec.upto fnExactRunCacheSpec)

/-- 'laws.FnExactSameItems', WHERE WHAT IT READS IS OF BULK AT MOST 1048576: true; the input reads as it did. -/
def fnExactSameItemsUptoRow : OpenClaim := { program := "ytojepjpmegbdmaa", sum := "824f50b34eb8563423143489aa8b0ac9fd3d8c967fc76317c7200447f9f22617", func := "loop.example/tallychains/laws.FnExactSameItems", spec := "fnExactSameItems", unfollowed := true, recurses := true, apart := false, narrowed := true }
def FnExactSameItemsUptoSaid : Prop := fnExactSameItemsUptoRow.holds Try.pinned (OpenSpec.upto fnExactSameItemsSpec)

/-- 'laws.FnExactSortKeys', WHERE WHAT IT READS IS OF BULK AT MOST 1048576: true; the input reads as it did. -/
def fnExactSortKeysUptoRow : OpenClaim := { program := "ytojepjpmegbdmaa", sum := "824f50b34eb8563423143489aa8b0ac9fd3d8c967fc76317c7200447f9f22617", func := "loop.example/tallychains/laws.FnExactSortKeys", spec := "fnExactSortKeys", unfollowed := true, recurses := true, apart := false, narrowed := true }
def FnExactSortKeysUptoSaid : Prop := fnExactSortKeysUptoRow.holds Try.pinned (OpenSpec.upto fnExactSortKeysSpec)

/-- 'laws.FnExactMostCommon', WHERE WHAT IT READS IS OF BULK AT MOST 1048576: true; the input reads as it did. -/
def fnExactMostCommonUptoRow : OpenClaim := { program := "ytojepjpmegbdmaa", sum := "824f50b34eb8563423143489aa8b0ac9fd3d8c967fc76317c7200447f9f22617", func := "loop.example/tallychains/laws.FnExactMostCommon", spec := "fnExactMostCommon", unfollowed := true, recurses := true, apart := false, narrowed := true }
def FnExactMostCommonUptoSaid : Prop := fnExactMostCommonUptoRow.holds Try.pinned (OpenSpec.upto fnExactMostCommonSpec)

end Rows
end Go.Proofs.Ytojepjpmegbdmaa
