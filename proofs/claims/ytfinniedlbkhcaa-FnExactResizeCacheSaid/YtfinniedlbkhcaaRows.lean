/-
  No cell of these rows narrows 'for every input' (looked for: loops, veiled, ifaces, maps, wideKeys, modest, calm, conditions, laid).
  DERIVED. THE GIVEN ROWS OF THIS SEAT. 20 by the template 'for every input the law returns true; each argument reads behind the call as it read before'; 0 by the template 'total and deterministic' (their statements: YtfinniedlbkhcaaTotals.lean).
  GIVEN WITH THE SEED: the statements are not yours to turn. If you find one false, say at which input.
  Laid BY PROGRAM, IN A SANDBOX (cutbox-rows.mjs): the forced cells as the released guide's own fill.sh prints them over the translation df892eac01c61806… (all of the seat's roots in one cut). By AI agents, Wed Nov 11 2026. No macro, syntax, notation, axiom, sorry.
-/
import Derived.Test.YtfinniedlbkhcaaChecked
import GoSem.Claim
import GoSem.ClaimJoined
import GoSem.ClaimMapViews
import Derived.JoinedTies
import Derived.KernelRfl
namespace Go.Proofs.Ytfinniedlbkhcaa
/- THE CELL 'sum', in the pinned program and in every row, IS THE sha256 OF THE DUMP (.gsa) THAT YtfinniedlbkhcaaProg.lean LOADS. Nothing in Lean hashes anything: it is a label: what it is worth is what the hold of that sum in a sandbox is worth. -/
noncomputable def Try.pinned : Pinned := { name := "ytfinniedlbkhcaa", sum := "df892eac01c6180629e0acbc9349321e3e6eb5a8ef8e9c01c4fc5f1a320c5a93", checked := Try.checked }
namespace Rows
def none {H : Type} : Left H := { results := [], args := [] }

/-- 'laws.FnExactMostCommon': WHATEVER THE INPUT: true; the input reads as it did. -/
def fnExactMostCommonSpec : ChangeSpec := { name := "fnExactMostCommon", fn := fun _ => fun
  | [d1, d2] => { results := [.lit (.bool true)], args := [d1, d2] }
  | _ => none }
def fnExactMostCommonRow : OpenClaim := { program := "ytfinniedlbkhcaa", sum := "df892eac01c6180629e0acbc9349321e3e6eb5a8ef8e9c01c4fc5f1a320c5a93", func := "loop.example/tallychains/laws.FnExactMostCommon", spec := "fnExactMostCommon", unfollowed := true, recurses := true, apart := false }
def FnExactMostCommonSaid : Prop := fnExactMostCommonRow.holds Try.pinned (OpenSpec.ofChange fnExactMostCommonSpec)

/-- ITS FALSE NEIGHBOUR: 'it returns false'. Refute it at one input. -/
def fnExactMostCommonWrong : ChangeSpec := { name := "fnExactMostCommon", fn := fun _ => fun
  | [d1, d2] => { results := [.lit (.bool false)], args := [d1, d2] }
  | _ => none }
def FnExactMostCommonWrongFalsely : Prop := fnExactMostCommonRow.holds Try.pinned (OpenSpec.ofChange fnExactMostCommonWrong)

/-- 'laws.FnExactGetItem': WHATEVER THE INPUT: true; the input reads as it did. -/
def fnExactGetItemSpec : ChangeSpec := { name := "fnExactGetItem", fn := fun _ => fun
  | [d1, d2] => { results := [.lit (.bool true)], args := [d1, d2] }
  | _ => none }
def fnExactGetItemRow : OpenClaim := { program := "ytfinniedlbkhcaa", sum := "df892eac01c6180629e0acbc9349321e3e6eb5a8ef8e9c01c4fc5f1a320c5a93", func := "loop.example/tallychains/laws.FnExactGetItem", spec := "fnExactGetItem", unfollowed := true, recurses := true, apart := false }
def FnExactGetItemSaid : Prop := fnExactGetItemRow.holds Try.pinned (OpenSpec.ofChange fnExactGetItemSpec)

/-- ITS FALSE NEIGHBOUR: 'it returns false'. Refute it at one input. -/
def fnExactGetItemWrong : ChangeSpec := { name := "fnExactGetItem", fn := fun _ => fun
  | [d1, d2] => { results := [.lit (.bool false)], args := [d1, d2] }
  | _ => none }
def FnExactGetItemWrongFalsely : Prop := fnExactGetItemRow.holds Try.pinned (OpenSpec.ofChange fnExactGetItemWrong)

/-- 'laws.FnExactPutItem': WHATEVER THE INPUT: true; the input reads as it did. -/
def fnExactPutItemSpec : ChangeSpec := { name := "fnExactPutItem", fn := fun _ => fun
  | [d1, d2, d3] => { results := [.lit (.bool true)], args := [d1, d2, d3] }
  | _ => none }
def fnExactPutItemRow : OpenClaim := { program := "ytfinniedlbkhcaa", sum := "df892eac01c6180629e0acbc9349321e3e6eb5a8ef8e9c01c4fc5f1a320c5a93", func := "loop.example/tallychains/laws.FnExactPutItem", spec := "fnExactPutItem", unfollowed := true, recurses := true, apart := false }
def FnExactPutItemSaid : Prop := fnExactPutItemRow.holds Try.pinned (OpenSpec.ofChange fnExactPutItemSpec)

/-- ITS FALSE NEIGHBOUR: 'it returns false'. Refute it at one input. -/
def fnExactPutItemWrong : ChangeSpec := { name := "fnExactPutItem", fn := fun _ => fun
  | [d1, d2, d3] => { results := [.lit (.bool false)], args := [d1, d2, d3] }
  | _ => none }
def FnExactPutItemWrongFalsely : Prop := fnExactPutItemRow.holds Try.pinned (OpenSpec.ofChange fnExactPutItemWrong)

/-- 'laws.FnExactDropItem': WHATEVER THE INPUT: true; the input reads as it did. -/
def fnExactDropItemSpec : ChangeSpec := { name := "fnExactDropItem", fn := fun _ => fun
  | [d1, d2] => { results := [.lit (.bool true)], args := [d1, d2] }
  | _ => none }
def fnExactDropItemRow : OpenClaim := { program := "ytfinniedlbkhcaa", sum := "df892eac01c6180629e0acbc9349321e3e6eb5a8ef8e9c01c4fc5f1a320c5a93", func := "loop.example/tallychains/laws.FnExactDropItem", spec := "fnExactDropItem", unfollowed := true, recurses := true, apart := false }
def FnExactDropItemSaid : Prop := fnExactDropItemRow.holds Try.pinned (OpenSpec.ofChange fnExactDropItemSpec)

/-- ITS FALSE NEIGHBOUR: 'it returns false'. Refute it at one input. -/
def fnExactDropItemWrong : ChangeSpec := { name := "fnExactDropItem", fn := fun _ => fun
  | [d1, d2] => { results := [.lit (.bool false)], args := [d1, d2] }
  | _ => none }
def FnExactDropItemWrongFalsely : Prop := fnExactDropItemRow.holds Try.pinned (OpenSpec.ofChange fnExactDropItemWrong)

/-- 'laws.FnExactMoveItem': WHATEVER THE INPUT: true; the input reads as it did. -/
def fnExactMoveItemSpec : ChangeSpec := { name := "fnExactMoveItem", fn := fun _ => fun
  | [d1, d2, d3] => { results := [.lit (.bool true)], args := [d1, d2, d3] }
  | _ => none }
def fnExactMoveItemRow : OpenClaim := { program := "ytfinniedlbkhcaa", sum := "df892eac01c6180629e0acbc9349321e3e6eb5a8ef8e9c01c4fc5f1a320c5a93", func := "loop.example/tallychains/laws.FnExactMoveItem", spec := "fnExactMoveItem", unfollowed := true, recurses := true, apart := false }
def FnExactMoveItemSaid : Prop := fnExactMoveItemRow.holds Try.pinned (OpenSpec.ofChange fnExactMoveItemSpec)

/-- ITS FALSE NEIGHBOUR: 'it returns false'. Refute it at one input. -/
def fnExactMoveItemWrong : ChangeSpec := { name := "fnExactMoveItem", fn := fun _ => fun
  | [d1, d2, d3] => { results := [.lit (.bool false)], args := [d1, d2, d3] }
  | _ => none }
def FnExactMoveItemWrongFalsely : Prop := fnExactMoveItemRow.holds Try.pinned (OpenSpec.ofChange fnExactMoveItemWrong)

/-- 'laws.FnExactPopItem': WHATEVER THE INPUT: true; the input reads as it did. -/
def fnExactPopItemSpec : ChangeSpec := { name := "fnExactPopItem", fn := fun _ => fun
  | [d1, d2] => { results := [.lit (.bool true)], args := [d1, d2] }
  | _ => none }
def fnExactPopItemRow : OpenClaim := { program := "ytfinniedlbkhcaa", sum := "df892eac01c6180629e0acbc9349321e3e6eb5a8ef8e9c01c4fc5f1a320c5a93", func := "loop.example/tallychains/laws.FnExactPopItem", spec := "fnExactPopItem", apart := false }
def FnExactPopItemSaid : Prop := fnExactPopItemRow.holds Try.pinned (OpenSpec.ofChange fnExactPopItemSpec)

/-- ITS FALSE NEIGHBOUR: 'it returns false'. Refute it at one input. -/
def fnExactPopItemWrong : ChangeSpec := { name := "fnExactPopItem", fn := fun _ => fun
  | [d1, d2] => { results := [.lit (.bool false)], args := [d1, d2] }
  | _ => none }
def FnExactPopItemWrongFalsely : Prop := fnExactPopItemRow.holds Try.pinned (OpenSpec.ofChange fnExactPopItemWrong)

/-- 'laws.FnExactPlaceOf': WHATEVER THE INPUT: true; the input reads as it did. -/
def fnExactPlaceOfSpec : ChangeSpec := { name := "fnExactPlaceOf", fn := fun _ => fun
  | [d1, d2] => { results := [.lit (.bool true)], args := [d1, d2] }
  | _ => none }
def fnExactPlaceOfRow : OpenClaim := { program := "ytfinniedlbkhcaa", sum := "df892eac01c6180629e0acbc9349321e3e6eb5a8ef8e9c01c4fc5f1a320c5a93", func := "loop.example/tallychains/laws.FnExactPlaceOf", spec := "fnExactPlaceOf", unfollowed := true, recurses := true, apart := false }
def FnExactPlaceOfSaid : Prop := fnExactPlaceOfRow.holds Try.pinned (OpenSpec.ofChange fnExactPlaceOfSpec)

/-- ITS FALSE NEIGHBOUR: 'it returns false'. Refute it at one input. -/
def fnExactPlaceOfWrong : ChangeSpec := { name := "fnExactPlaceOf", fn := fun _ => fun
  | [d1, d2] => { results := [.lit (.bool false)], args := [d1, d2] }
  | _ => none }
def FnExactPlaceOfWrongFalsely : Prop := fnExactPlaceOfRow.holds Try.pinned (OpenSpec.ofChange fnExactPlaceOfWrong)

/-- 'laws.FnExactSameOrder': WHATEVER THE INPUT: true; the input reads as it did. -/
def fnExactSameOrderSpec : ChangeSpec := { name := "fnExactSameOrder", fn := fun _ => fun
  | [d1, d2] => { results := [.lit (.bool true)], args := [d1, d2] }
  | _ => none }
def fnExactSameOrderRow : OpenClaim := { program := "ytfinniedlbkhcaa", sum := "df892eac01c6180629e0acbc9349321e3e6eb5a8ef8e9c01c4fc5f1a320c5a93", func := "loop.example/tallychains/laws.FnExactSameOrder", spec := "fnExactSameOrder", apart := false }
def FnExactSameOrderSaid : Prop := fnExactSameOrderRow.holds Try.pinned (OpenSpec.ofChange fnExactSameOrderSpec)

/-- ITS FALSE NEIGHBOUR: 'it returns false'. Refute it at one input. -/
def fnExactSameOrderWrong : ChangeSpec := { name := "fnExactSameOrder", fn := fun _ => fun
  | [d1, d2] => { results := [.lit (.bool false)], args := [d1, d2] }
  | _ => none }
def FnExactSameOrderWrongFalsely : Prop := fnExactSameOrderRow.holds Try.pinned (OpenSpec.ofChange fnExactSameOrderWrong)

/-- 'laws.FnExactSameItems': WHATEVER THE INPUT: true; the input reads as it did. -/
def fnExactSameItemsSpec : ChangeSpec := { name := "fnExactSameItems", fn := fun _ => fun
  | [d1, d2] => { results := [.lit (.bool true)], args := [d1, d2] }
  | _ => none }
def fnExactSameItemsRow : OpenClaim := { program := "ytfinniedlbkhcaa", sum := "df892eac01c6180629e0acbc9349321e3e6eb5a8ef8e9c01c4fc5f1a320c5a93", func := "loop.example/tallychains/laws.FnExactSameItems", spec := "fnExactSameItems", unfollowed := true, recurses := true, apart := false }
def FnExactSameItemsSaid : Prop := fnExactSameItemsRow.holds Try.pinned (OpenSpec.ofChange fnExactSameItemsSpec)

/-- ITS FALSE NEIGHBOUR: 'it returns false'. Refute it at one input. -/
def fnExactSameItemsWrong : ChangeSpec := { name := "fnExactSameItems", fn := fun _ => fun
  | [d1, d2] => { results := [.lit (.bool false)], args := [d1, d2] }
  | _ => none }
def FnExactSameItemsWrongFalsely : Prop := fnExactSameItemsRow.holds Try.pinned (OpenSpec.ofChange fnExactSameItemsWrong)

/-- 'laws.FnExactOverItems': WHATEVER THE INPUT: true; the input reads as it did. -/
def fnExactOverItemsSpec : ChangeSpec := { name := "fnExactOverItems", fn := fun _ => fun
  | [d1, d2] => { results := [.lit (.bool true)], args := [d1, d2] }
  | _ => none }
def fnExactOverItemsRow : OpenClaim := { program := "ytfinniedlbkhcaa", sum := "df892eac01c6180629e0acbc9349321e3e6eb5a8ef8e9c01c4fc5f1a320c5a93", func := "loop.example/tallychains/laws.FnExactOverItems", spec := "fnExactOverItems", unfollowed := true, recurses := true, apart := false }
def FnExactOverItemsSaid : Prop := fnExactOverItemsRow.holds Try.pinned (OpenSpec.ofChange fnExactOverItemsSpec)

/-- ITS FALSE NEIGHBOUR: 'it returns false'. Refute it at one input. -/
def fnExactOverItemsWrong : ChangeSpec := { name := "fnExactOverItems", fn := fun _ => fun
  | [d1, d2] => { results := [.lit (.bool false)], args := [d1, d2] }
  | _ => none }
def FnExactOverItemsWrongFalsely : Prop := fnExactOverItemsRow.holds Try.pinned (OpenSpec.ofChange fnExactOverItemsWrong)

/-- 'laws.FnExactDefaultItem': WHATEVER THE INPUT: true; the input reads as it did. -/
def fnExactDefaultItemSpec : ChangeSpec := { name := "fnExactDefaultItem", fn := fun _ => fun
  | [d1, d2, d3] => { results := [.lit (.bool true)], args := [d1, d2, d3] }
  | _ => none }
def fnExactDefaultItemRow : OpenClaim := { program := "ytfinniedlbkhcaa", sum := "df892eac01c6180629e0acbc9349321e3e6eb5a8ef8e9c01c4fc5f1a320c5a93", func := "loop.example/tallychains/laws.FnExactDefaultItem", spec := "fnExactDefaultItem", unfollowed := true, recurses := true, apart := false }
def FnExactDefaultItemSaid : Prop := fnExactDefaultItemRow.holds Try.pinned (OpenSpec.ofChange fnExactDefaultItemSpec)

/-- ITS FALSE NEIGHBOUR: 'it returns false'. Refute it at one input. -/
def fnExactDefaultItemWrong : ChangeSpec := { name := "fnExactDefaultItem", fn := fun _ => fun
  | [d1, d2, d3] => { results := [.lit (.bool false)], args := [d1, d2, d3] }
  | _ => none }
def FnExactDefaultItemWrongFalsely : Prop := fnExactDefaultItemRow.holds Try.pinned (OpenSpec.ofChange fnExactDefaultItemWrong)

/-- 'laws.FnExactRenameItem': WHATEVER THE INPUT: true; the input reads as it did. -/
def fnExactRenameItemSpec : ChangeSpec := { name := "fnExactRenameItem", fn := fun _ => fun
  | [d1, d2, d3] => { results := [.lit (.bool true)], args := [d1, d2, d3] }
  | _ => none }
def fnExactRenameItemRow : OpenClaim := { program := "ytfinniedlbkhcaa", sum := "df892eac01c6180629e0acbc9349321e3e6eb5a8ef8e9c01c4fc5f1a320c5a93", func := "loop.example/tallychains/laws.FnExactRenameItem", spec := "fnExactRenameItem", unfollowed := true, recurses := true, apart := false }
def FnExactRenameItemSaid : Prop := fnExactRenameItemRow.holds Try.pinned (OpenSpec.ofChange fnExactRenameItemSpec)

/-- ITS FALSE NEIGHBOUR: 'it returns false'. Refute it at one input. -/
def fnExactRenameItemWrong : ChangeSpec := { name := "fnExactRenameItem", fn := fun _ => fun
  | [d1, d2, d3] => { results := [.lit (.bool false)], args := [d1, d2, d3] }
  | _ => none }
def FnExactRenameItemWrongFalsely : Prop := fnExactRenameItemRow.holds Try.pinned (OpenSpec.ofChange fnExactRenameItemWrong)

/-- 'laws.FnExactTurnItems': WHATEVER THE INPUT: true; the input reads as it did. -/
def fnExactTurnItemsSpec : ChangeSpec := { name := "fnExactTurnItems", fn := fun _ => fun
  | [d] => { results := [.lit (.bool true)], args := [d] }
  | _ => none }
def fnExactTurnItemsRow : OpenClaim := { program := "ytfinniedlbkhcaa", sum := "df892eac01c6180629e0acbc9349321e3e6eb5a8ef8e9c01c4fc5f1a320c5a93", func := "loop.example/tallychains/laws.FnExactTurnItems", spec := "fnExactTurnItems", apart := false }
def FnExactTurnItemsSaid : Prop := fnExactTurnItemsRow.holds Try.pinned (OpenSpec.ofChange fnExactTurnItemsSpec)

/-- ITS FALSE NEIGHBOUR: 'it returns false'. Refute it at one input. -/
def fnExactTurnItemsWrong : ChangeSpec := { name := "fnExactTurnItems", fn := fun _ => fun
  | [d] => { results := [.lit (.bool false)], args := [d] }
  | _ => none }
def FnExactTurnItemsWrongFalsely : Prop := fnExactTurnItemsRow.holds Try.pinned (OpenSpec.ofChange fnExactTurnItemsWrong)

/-- 'laws.FnExactSortKeys': WHATEVER THE INPUT: true; the input reads as it did. -/
def fnExactSortKeysSpec : ChangeSpec := { name := "fnExactSortKeys", fn := fun _ => fun
  | [d] => { results := [.lit (.bool true)], args := [d] }
  | _ => none }
def fnExactSortKeysRow : OpenClaim := { program := "ytfinniedlbkhcaa", sum := "df892eac01c6180629e0acbc9349321e3e6eb5a8ef8e9c01c4fc5f1a320c5a93", func := "loop.example/tallychains/laws.FnExactSortKeys", spec := "fnExactSortKeys", unfollowed := true, recurses := true, apart := false }
def FnExactSortKeysSaid : Prop := fnExactSortKeysRow.holds Try.pinned (OpenSpec.ofChange fnExactSortKeysSpec)

/-- ITS FALSE NEIGHBOUR: 'it returns false'. Refute it at one input. -/
def fnExactSortKeysWrong : ChangeSpec := { name := "fnExactSortKeys", fn := fun _ => fun
  | [d] => { results := [.lit (.bool false)], args := [d] }
  | _ => none }
def FnExactSortKeysWrongFalsely : Prop := fnExactSortKeysRow.holds Try.pinned (OpenSpec.ofChange fnExactSortKeysWrong)

/-- 'laws.FnExactInKeyOrder': WHATEVER THE INPUT: true; the input reads as it did. -/
def fnExactInKeyOrderSpec : ChangeSpec := { name := "fnExactInKeyOrder", fn := fun _ => fun
  | [d1, d2] => { results := [.lit (.bool true)], args := [d1, d2] }
  | _ => none }
def fnExactInKeyOrderRow : OpenClaim := { program := "ytfinniedlbkhcaa", sum := "df892eac01c6180629e0acbc9349321e3e6eb5a8ef8e9c01c4fc5f1a320c5a93", func := "loop.example/tallychains/laws.FnExactInKeyOrder", spec := "fnExactInKeyOrder", unfollowed := true, recurses := true, apart := false }
def FnExactInKeyOrderSaid : Prop := fnExactInKeyOrderRow.holds Try.pinned (OpenSpec.ofChange fnExactInKeyOrderSpec)

/-- ITS FALSE NEIGHBOUR: 'it returns false'. Refute it at one input. -/
def fnExactInKeyOrderWrong : ChangeSpec := { name := "fnExactInKeyOrder", fn := fun _ => fun
  | [d1, d2] => { results := [.lit (.bool false)], args := [d1, d2] }
  | _ => none }
def FnExactInKeyOrderWrongFalsely : Prop := fnExactInKeyOrderRow.holds Try.pinned (OpenSpec.ofChange fnExactInKeyOrderWrong)

/-- 'laws.FnExactValidCache': WHATEVER THE INPUT: true; the input reads as it did. -/
def fnExactValidCacheSpec : ChangeSpec := { name := "fnExactValidCache", fn := fun _ => fun
  | [d] => { results := [.lit (.bool true)], args := [d] }
  | _ => none }
def fnExactValidCacheRow : OpenClaim := { program := "ytfinniedlbkhcaa", sum := "df892eac01c6180629e0acbc9349321e3e6eb5a8ef8e9c01c4fc5f1a320c5a93", func := "loop.example/tallychains/laws.FnExactValidCache", spec := "fnExactValidCache", apart := false }
def FnExactValidCacheSaid : Prop := fnExactValidCacheRow.holds Try.pinned (OpenSpec.ofChange fnExactValidCacheSpec)

/-- ITS FALSE NEIGHBOUR: 'it returns false'. Refute it at one input. -/
def fnExactValidCacheWrong : ChangeSpec := { name := "fnExactValidCache", fn := fun _ => fun
  | [d] => { results := [.lit (.bool false)], args := [d] }
  | _ => none }
def FnExactValidCacheWrongFalsely : Prop := fnExactValidCacheRow.holds Try.pinned (OpenSpec.ofChange fnExactValidCacheWrong)

/-- 'laws.FnExactLookUp': WHATEVER THE INPUT: true; the input reads as it did. -/
def fnExactLookUpSpec : ChangeSpec := { name := "fnExactLookUp", fn := fun _ => fun
  | [d1, d2] => { results := [.lit (.bool true)], args := [d1, d2] }
  | _ => none }
def fnExactLookUpRow : OpenClaim := { program := "ytfinniedlbkhcaa", sum := "df892eac01c6180629e0acbc9349321e3e6eb5a8ef8e9c01c4fc5f1a320c5a93", func := "loop.example/tallychains/laws.FnExactLookUp", spec := "fnExactLookUp", unfollowed := true, recurses := true, apart := false }
def FnExactLookUpSaid : Prop := fnExactLookUpRow.holds Try.pinned (OpenSpec.ofChange fnExactLookUpSpec)

/-- ITS FALSE NEIGHBOUR: 'it returns false'. Refute it at one input. -/
def fnExactLookUpWrong : ChangeSpec := { name := "fnExactLookUp", fn := fun _ => fun
  | [d1, d2] => { results := [.lit (.bool false)], args := [d1, d2] }
  | _ => none }
def FnExactLookUpWrongFalsely : Prop := fnExactLookUpRow.holds Try.pinned (OpenSpec.ofChange fnExactLookUpWrong)

/-- 'laws.FnExactStoreItem': WHATEVER THE INPUT: true; the input reads as it did. -/
def fnExactStoreItemSpec : ChangeSpec := { name := "fnExactStoreItem", fn := fun _ => fun
  | [d1, d2, d3] => { results := [.lit (.bool true)], args := [d1, d2, d3] }
  | _ => none }
def fnExactStoreItemRow : OpenClaim := { program := "ytfinniedlbkhcaa", sum := "df892eac01c6180629e0acbc9349321e3e6eb5a8ef8e9c01c4fc5f1a320c5a93", func := "loop.example/tallychains/laws.FnExactStoreItem", spec := "fnExactStoreItem", unfollowed := true, recurses := true, apart := false }
def FnExactStoreItemSaid : Prop := fnExactStoreItemRow.holds Try.pinned (OpenSpec.ofChange fnExactStoreItemSpec)

/-- ITS FALSE NEIGHBOUR: 'it returns false'. Refute it at one input. -/
def fnExactStoreItemWrong : ChangeSpec := { name := "fnExactStoreItem", fn := fun _ => fun
  | [d1, d2, d3] => { results := [.lit (.bool false)], args := [d1, d2, d3] }
  | _ => none }
def FnExactStoreItemWrongFalsely : Prop := fnExactStoreItemRow.holds Try.pinned (OpenSpec.ofChange fnExactStoreItemWrong)

/-- 'laws.FnExactResizeCache': WHATEVER THE INPUT: true; the input reads as it did. -/
def fnExactResizeCacheSpec : ChangeSpec := { name := "fnExactResizeCache", fn := fun _ => fun
  | [d1, d2] => { results := [.lit (.bool true)], args := [d1, d2] }
  | _ => none }
def fnExactResizeCacheRow : OpenClaim := { program := "ytfinniedlbkhcaa", sum := "df892eac01c6180629e0acbc9349321e3e6eb5a8ef8e9c01c4fc5f1a320c5a93", func := "loop.example/tallychains/laws.FnExactResizeCache", spec := "fnExactResizeCache", unfollowed := true, recurses := true, apart := false }
def FnExactResizeCacheSaid : Prop := fnExactResizeCacheRow.holds Try.pinned (OpenSpec.ofChange fnExactResizeCacheSpec)

/-- ITS FALSE NEIGHBOUR: 'it returns false'. Refute it at one input. -/
def fnExactResizeCacheWrong : ChangeSpec := { name := "fnExactResizeCache", fn := fun _ => fun
  | [d1, d2] => { results := [.lit (.bool false)], args := [d1, d2] }
  | _ => none }
def FnExactResizeCacheWrongFalsely : Prop := fnExactResizeCacheRow.holds Try.pinned (OpenSpec.ofChange fnExactResizeCacheWrong)

/-- 'laws.FnExactRunCache': WHATEVER THE INPUT: true; the input reads as it did. -/
def fnExactRunCacheSpec : ChangeSpec := { name := "fnExactRunCache", fn := fun _ => fun
  | [d1, d2] => { results := [.lit (.bool true)], args := [d1, d2] }
  | _ => none }
def fnExactRunCacheRow : OpenClaim := { program := "ytfinniedlbkhcaa", sum := "df892eac01c6180629e0acbc9349321e3e6eb5a8ef8e9c01c4fc5f1a320c5a93", func := "loop.example/tallychains/laws.FnExactRunCache", spec := "fnExactRunCache", unfollowed := true, recurses := true, apart := false }
def FnExactRunCacheSaid : Prop := fnExactRunCacheRow.holds Try.pinned (OpenSpec.ofChange fnExactRunCacheSpec)

/-- ITS FALSE NEIGHBOUR: 'it returns false'. Refute it at one input. -/
def fnExactRunCacheWrong : ChangeSpec := { name := "fnExactRunCache", fn := fun _ => fun
  | [d1, d2] => { results := [.lit (.bool false)], args := [d1, d2] }
  | _ => none }
def FnExactRunCacheWrongFalsely : Prop := fnExactRunCacheRow.holds Try.pinned (OpenSpec.ofChange fnExactRunCacheWrong)

/- THE SECOND FORM. 'bulk': how many values and letters a reading holds, each counted each time it is reached (what is shared counts as often as it is met; a slice's spare places count too). A statement '..UptoSaid' is the law's where the arguments, and the package variables that the reading takes, are together of bulk at most 1048576: NARROWER than '..Said'. Prove '..Said' where nothing that the law and all that it calls make is longer than what came in: it says more and counts as full. Else prove '..UptoSaid'. A law counts once. -/
mutual
def uptoBulk {H : Type} : DataW H → Nat
  | .lit (.string bytes) => bytes.length + 1
  | .lit _ => 1
  | .nil => 1
  | .ptr d => uptoBulk d + 1
  | .slice elems spare => uptoBulkAll elems + uptoBulkAll spare + 1
  | .agg parts => uptoBulkAll parts + 1
  | .iface _ d => uptoBulk d + 1
  | .map entries => uptoBulkEntries entries + 1
  | .held _ => 1
def uptoBulkAll {H : Type} : List (DataW H) → Nat
  | [] => 0
  | d :: r => uptoBulk d + uptoBulkAll r
def uptoBulkEntries {H : Type} : List (Lit × DataW H) → Nat
  | [] => 0
  | x :: r => uptoBulkEntry x + uptoBulkEntries r
def uptoBulkEntry {H : Type} : Lit × DataW H → Nat
  | (.string bytes, d) => bytes.length + uptoBulk d + 1
  | (_, d) => uptoBulk d + 1
 end
def uptoSmall : (H : Type) → List (DataW H) → Bool := fun _ ds => decide (uptoBulkAll ds ≤ 1048576)
def OpenSpec.upto (s : _root_.Go.ChangeSpec) : _root_.Go.OpenSpec := { _root_.Go.OpenSpec.ofChange s with cond := some uptoSmall }

/-- 'laws.FnExactMostCommon', WHERE WHAT IT READS IS OF BULK AT MOST 1048576: true; the input reads as it did. -/
def fnExactMostCommonUptoRow : OpenClaim := { program := "ytfinniedlbkhcaa", sum := "df892eac01c6180629e0acbc9349321e3e6eb5a8ef8e9c01c4fc5f1a320c5a93", func := "loop.example/tallychains/laws.FnExactMostCommon", spec := "fnExactMostCommon", unfollowed := true, recurses := true, apart := false, narrowed := true }
def FnExactMostCommonUptoSaid : Prop := fnExactMostCommonUptoRow.holds Try.pinned (OpenSpec.upto fnExactMostCommonSpec)

/-- 'laws.FnExactGetItem', WHERE WHAT IT READS IS OF BULK AT MOST 1048576: true; the input reads as it did. -/
def fnExactGetItemUptoRow : OpenClaim := { program := "ytfinniedlbkhcaa", sum := "df892eac01c6180629e0acbc9349321e3e6eb5a8ef8e9c01c4fc5f1a320c5a93", func := "loop.example/tallychains/laws.FnExactGetItem", spec := "fnExactGetItem", unfollowed := true, recurses := true, apart := false, narrowed := true }
def FnExactGetItemUptoSaid : Prop := fnExactGetItemUptoRow.holds Try.pinned (OpenSpec.upto fnExactGetItemSpec)

/-- 'laws.FnExactPutItem', WHERE WHAT IT READS IS OF BULK AT MOST 1048576: true; the input reads as it did. -/
def fnExactPutItemUptoRow : OpenClaim := { program := "ytfinniedlbkhcaa", sum := "df892eac01c6180629e0acbc9349321e3e6eb5a8ef8e9c01c4fc5f1a320c5a93", func := "loop.example/tallychains/laws.FnExactPutItem", spec := "fnExactPutItem", unfollowed := true, recurses := true, apart := false, narrowed := true }
def FnExactPutItemUptoSaid : Prop := fnExactPutItemUptoRow.holds Try.pinned (OpenSpec.upto fnExactPutItemSpec)

/-- 'laws.FnExactDropItem', WHERE WHAT IT READS IS OF BULK AT MOST 1048576: true; the input reads as it did. -/
def fnExactDropItemUptoRow : OpenClaim := { program := "ytfinniedlbkhcaa", sum := "df892eac01c6180629e0acbc9349321e3e6eb5a8ef8e9c01c4fc5f1a320c5a93", func := "loop.example/tallychains/laws.FnExactDropItem", spec := "fnExactDropItem", unfollowed := true, recurses := true, apart := false, narrowed := true }
def FnExactDropItemUptoSaid : Prop := fnExactDropItemUptoRow.holds Try.pinned (OpenSpec.upto fnExactDropItemSpec)

/-- 'laws.FnExactMoveItem', WHERE WHAT IT READS IS OF BULK AT MOST 1048576: true; the input reads as it did. -/
def fnExactMoveItemUptoRow : OpenClaim := { program := "ytfinniedlbkhcaa", sum := "df892eac01c6180629e0acbc9349321e3e6eb5a8ef8e9c01c4fc5f1a320c5a93", func := "loop.example/tallychains/laws.FnExactMoveItem", spec := "fnExactMoveItem", unfollowed := true, recurses := true, apart := false, narrowed := true }
def FnExactMoveItemUptoSaid : Prop := fnExactMoveItemUptoRow.holds Try.pinned (OpenSpec.upto fnExactMoveItemSpec)

/-- 'laws.FnExactPopItem', WHERE WHAT IT READS IS OF BULK AT MOST 1048576: true; the input reads as it did. -/
def fnExactPopItemUptoRow : OpenClaim := { program := "ytfinniedlbkhcaa", sum := "df892eac01c6180629e0acbc9349321e3e6eb5a8ef8e9c01c4fc5f1a320c5a93", func := "loop.example/tallychains/laws.FnExactPopItem", spec := "fnExactPopItem", apart := false, narrowed := true }
def FnExactPopItemUptoSaid : Prop := fnExactPopItemUptoRow.holds Try.pinned (OpenSpec.upto fnExactPopItemSpec)

/-- 'laws.FnExactPlaceOf', WHERE WHAT IT READS IS OF BULK AT MOST 1048576: true; the input reads as it did. -/
def fnExactPlaceOfUptoRow : OpenClaim := { program := "ytfinniedlbkhcaa", sum := "df892eac01c6180629e0acbc9349321e3e6eb5a8ef8e9c01c4fc5f1a320c5a93", func := "loop.example/tallychains/laws.FnExactPlaceOf", spec := "fnExactPlaceOf", unfollowed := true, recurses := true, apart := false, narrowed := true }
def FnExactPlaceOfUptoSaid : Prop := fnExactPlaceOfUptoRow.holds Try.pinned (OpenSpec.upto fnExactPlaceOfSpec)

/-- 'laws.FnExactSameOrder', WHERE WHAT IT READS IS OF BULK AT MOST 1048576: true; the input reads as it did. -/
def fnExactSameOrderUptoRow : OpenClaim := { program := "ytfinniedlbkhcaa", sum := "df892eac01c6180629e0acbc9349321e3e6eb5a8ef8e9c01c4fc5f1a320c5a93", func := "loop.example/tallychains/laws.FnExactSameOrder", spec := "fnExactSameOrder", apart := false, narrowed := true }
def FnExactSameOrderUptoSaid : Prop := fnExactSameOrderUptoRow.holds Try.pinned (OpenSpec.upto fnExactSameOrderSpec)

/-- 'laws.FnExactSameItems', WHERE WHAT IT READS IS OF BULK AT MOST 1048576: true; the input reads as it did. -/
def fnExactSameItemsUptoRow : OpenClaim := { program := "ytfinniedlbkhcaa", sum := "df892eac01c6180629e0acbc9349321e3e6eb5a8ef8e9c01c4fc5f1a320c5a93", func := "loop.example/tallychains/laws.FnExactSameItems", spec := "fnExactSameItems", unfollowed := true, recurses := true, apart := false, narrowed := true }
def FnExactSameItemsUptoSaid : Prop := fnExactSameItemsUptoRow.holds Try.pinned (OpenSpec.upto fnExactSameItemsSpec)

/-- 'laws.FnExactOverItems', WHERE WHAT IT READS IS OF BULK AT MOST 1048576: true; the input reads as it did. -/
def fnExactOverItemsUptoRow : OpenClaim := { program := "ytfinniedlbkhcaa", sum := "df892eac01c6180629e0acbc9349321e3e6eb5a8ef8e9c01c4fc5f1a320c5a93", func := "loop.example/tallychains/laws.FnExactOverItems", spec := "fnExactOverItems", unfollowed := true, recurses := true, apart := false, narrowed := true }
def FnExactOverItemsUptoSaid : Prop := fnExactOverItemsUptoRow.holds Try.pinned (OpenSpec.upto fnExactOverItemsSpec)

/-- 'laws.FnExactDefaultItem', WHERE WHAT IT READS IS OF BULK AT MOST 1048576: true; the input reads as it did. -/
def fnExactDefaultItemUptoRow : OpenClaim := { program := "ytfinniedlbkhcaa", sum := "df892eac01c6180629e0acbc9349321e3e6eb5a8ef8e9c01c4fc5f1a320c5a93", func := "loop.example/tallychains/laws.FnExactDefaultItem", spec := "fnExactDefaultItem", unfollowed := true, recurses := true, apart := false, narrowed := true }
def FnExactDefaultItemUptoSaid : Prop := fnExactDefaultItemUptoRow.holds Try.pinned (OpenSpec.upto fnExactDefaultItemSpec)

/-- 'laws.FnExactRenameItem', WHERE WHAT IT READS IS OF BULK AT MOST 1048576: true; the input reads as it did. -/
def fnExactRenameItemUptoRow : OpenClaim := { program := "ytfinniedlbkhcaa", sum := "df892eac01c6180629e0acbc9349321e3e6eb5a8ef8e9c01c4fc5f1a320c5a93", func := "loop.example/tallychains/laws.FnExactRenameItem", spec := "fnExactRenameItem", unfollowed := true, recurses := true, apart := false, narrowed := true }
def FnExactRenameItemUptoSaid : Prop := fnExactRenameItemUptoRow.holds Try.pinned (OpenSpec.upto fnExactRenameItemSpec)

/-- 'laws.FnExactTurnItems', WHERE WHAT IT READS IS OF BULK AT MOST 1048576: true; the input reads as it did. -/
def fnExactTurnItemsUptoRow : OpenClaim := { program := "ytfinniedlbkhcaa", sum := "df892eac01c6180629e0acbc9349321e3e6eb5a8ef8e9c01c4fc5f1a320c5a93", func := "loop.example/tallychains/laws.FnExactTurnItems", spec := "fnExactTurnItems", apart := false, narrowed := true }
def FnExactTurnItemsUptoSaid : Prop := fnExactTurnItemsUptoRow.holds Try.pinned (OpenSpec.upto fnExactTurnItemsSpec)

/-- 'laws.FnExactSortKeys', WHERE WHAT IT READS IS OF BULK AT MOST 1048576: true; the input reads as it did. -/
def fnExactSortKeysUptoRow : OpenClaim := { program := "ytfinniedlbkhcaa", sum := "df892eac01c6180629e0acbc9349321e3e6eb5a8ef8e9c01c4fc5f1a320c5a93", func := "loop.example/tallychains/laws.FnExactSortKeys", spec := "fnExactSortKeys", unfollowed := true, recurses := true, apart := false, narrowed := true }
def FnExactSortKeysUptoSaid : Prop := fnExactSortKeysUptoRow.holds Try.pinned (OpenSpec.upto fnExactSortKeysSpec)

/-- 'laws.FnExactInKeyOrder', WHERE WHAT IT READS IS OF BULK AT MOST 1048576: true; the input reads as it did. -/
def fnExactInKeyOrderUptoRow : OpenClaim := { program := "ytfinniedlbkhcaa", sum := "df892eac01c6180629e0acbc9349321e3e6eb5a8ef8e9c01c4fc5f1a320c5a93", func := "loop.example/tallychains/laws.FnExactInKeyOrder", spec := "fnExactInKeyOrder", unfollowed := true, recurses := true, apart := false, narrowed := true }
def FnExactInKeyOrderUptoSaid : Prop := fnExactInKeyOrderUptoRow.holds Try.pinned (OpenSpec.upto fnExactInKeyOrderSpec)

/-- 'laws.FnExactValidCache', WHERE WHAT IT READS IS OF BULK AT MOST 1048576: true; the input reads as it did. -/
def fnExactValidCacheUptoRow : OpenClaim := { program := "ytfinniedlbkhcaa", sum := "df892eac01c6180629e0acbc9349321e3e6eb5a8ef8e9c01c4fc5f1a320c5a93", func := "loop.example/tallychains/laws.FnExactValidCache", spec := "fnExactValidCache", apart := false, narrowed := true }
def FnExactValidCacheUptoSaid : Prop := fnExactValidCacheUptoRow.holds Try.pinned (OpenSpec.upto fnExactValidCacheSpec)

/-- 'laws.FnExactLookUp', WHERE WHAT IT READS IS OF BULK AT MOST 1048576: true; the input reads as it did. -/
def fnExactLookUpUptoRow : OpenClaim := { program := "ytfinniedlbkhcaa", sum := "df892eac01c6180629e0acbc9349321e3e6eb5a8ef8e9c01c4fc5f1a320c5a93", func := "loop.example/tallychains/laws.FnExactLookUp", spec := "fnExactLookUp", unfollowed := true, recurses := true, apart := false, narrowed := true }
def FnExactLookUpUptoSaid : Prop := fnExactLookUpUptoRow.holds Try.pinned (OpenSpec.upto fnExactLookUpSpec)

/-- 'laws.FnExactStoreItem', WHERE WHAT IT READS IS OF BULK AT MOST 1048576: true; the input reads as it did. -/
def fnExactStoreItemUptoRow : OpenClaim := { program := "ytfinniedlbkhcaa", sum := "df892eac01c6180629e0acbc9349321e3e6eb5a8ef8e9c01c4fc5f1a320c5a93", func := "loop.example/tallychains/laws.FnExactStoreItem", spec := "fnExactStoreItem", unfollowed := true, recurses := true, apart := false, narrowed := true }
def FnExactStoreItemUptoSaid : Prop := fnExactStoreItemUptoRow.holds Try.pinned (OpenSpec.upto fnExactStoreItemSpec)

/-- 'laws.FnExactResizeCache', WHERE WHAT IT READS IS OF BULK AT MOST 1048576: true; the input reads as it did. -/
def fnExactResizeCacheUptoRow : OpenClaim := { program := "ytfinniedlbkhcaa", sum := "df892eac01c6180629e0acbc9349321e3e6eb5a8ef8e9c01c4fc5f1a320c5a93", func := "loop.example/tallychains/laws.FnExactResizeCache", spec := "fnExactResizeCache", unfollowed := true, recurses := true, apart := false, narrowed := true }
def FnExactResizeCacheUptoSaid : Prop := fnExactResizeCacheUptoRow.holds Try.pinned (OpenSpec.upto fnExactResizeCacheSpec)

/-- 'laws.FnExactRunCache', WHERE WHAT IT READS IS OF BULK AT MOST 1048576: true; the input reads as it did. -/
def fnExactRunCacheUptoRow : OpenClaim := { program := "ytfinniedlbkhcaa", sum := "df892eac01c6180629e0acbc9349321e3e6eb5a8ef8e9c01c4fc5f1a320c5a93", func := "loop.example/tallychains/laws.FnExactRunCache", spec := "fnExactRunCache", unfollowed := true, recurses := true, apart := false, narrowed := true }
def FnExactRunCacheUptoSaid : Prop := fnExactRunCacheUptoRow.holds Try.pinned (OpenSpec.upto fnExactRunCacheSpec)

end Rows
end Go.Proofs.Ytfinniedlbkhcaa
