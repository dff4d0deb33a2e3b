/-
  No cell of these rows narrows 'for every input' (looked for: loops, veiled, ifaces, maps, wideKeys, modest, calm, conditions, laid).
  DERIVED. THE GIVEN ROWS OF THIS SEAT. 10 by the template 'for every input the law returns true; each argument reads behind the call as it read before'; 0 by the template 'total and deterministic' (their statements: YtfocobgceelnoaaTotals.lean).
  GIVEN WITH THE SEED: the statements are not yours to turn. If you find one false, say at which input.
  Laid BY PROGRAM, IN A SANDBOX (cutbox-rows.mjs): the forced cells as the released guide's own fill.sh prints them over the translation d88b65902d6df128… (all of the seat's roots in one cut). By AI agents, Wed Nov 11 2026. No macro, syntax, notation, axiom, sorry.
-/
import Derived.Test.YtfocobgceelnoaaChecked
import GoSem.Claim
import GoSem.ClaimJoined
import GoSem.ClaimMapViews
import Derived.JoinedTies
import Derived.KernelRfl
namespace Go.Proofs.Ytfocobgceelnoaa
/- THE CELL 'sum', in the pinned program and in every row, IS THE sha256 OF THE DUMP (.gsa) THAT YtfocobgceelnoaaProg.lean LOADS. Nothing in Lean hashes anything: it is a label: what it is worth is what the hold of that sum in a sandbox is worth. -/
noncomputable def Try.pinned : Pinned := { name := "ytfocobgceelnoaa", sum := "d88b65902d6df128b59b69025b507d59da64eecd0d662e42517da5fda0325092", checked := Try.checked }
namespace Rows
def none {H : Type} : Left H := { results := [], args := [] }

/-- 'laws.FnExactNewChild': WHATEVER THE INPUT: true; the input reads as it did. -/
def fnExactNewChildSpec : ChangeSpec := { name := "fnExactNewChild", fn := fun _ => fun
  | [d1, d2] => { results := [.lit (.bool true)], args := [d1, d2] }
  | _ => none }
def fnExactNewChildRow : OpenClaim := { program := "ytfocobgceelnoaa", sum := "d88b65902d6df128b59b69025b507d59da64eecd0d662e42517da5fda0325092", func := "loop.example/tallychains/laws.FnExactNewChild", spec := "fnExactNewChild", apart := false }
def FnExactNewChildSaid : Prop := fnExactNewChildRow.holds Try.pinned (OpenSpec.ofChange fnExactNewChildSpec)

/-- ITS FALSE NEIGHBOUR: 'it returns false'. Refute it at one input. -/
def fnExactNewChildWrong : ChangeSpec := { name := "fnExactNewChild", fn := fun _ => fun
  | [d1, d2] => { results := [.lit (.bool false)], args := [d1, d2] }
  | _ => none }
def FnExactNewChildWrongFalsely : Prop := fnExactNewChildRow.holds Try.pinned (OpenSpec.ofChange fnExactNewChildWrong)

/-- 'laws.FnExactJoinChains': WHATEVER THE INPUT: true; the input reads as it did. -/
def fnExactJoinChainsSpec : ChangeSpec := { name := "fnExactJoinChains", fn := fun _ => fun
  | [d1, d2] => { results := [.lit (.bool true)], args := [d1, d2] }
  | _ => none }
def fnExactJoinChainsRow : OpenClaim := { program := "ytfocobgceelnoaa", sum := "d88b65902d6df128b59b69025b507d59da64eecd0d662e42517da5fda0325092", func := "loop.example/tallychains/laws.FnExactJoinChains", spec := "fnExactJoinChains", apart := false }
def FnExactJoinChainsSaid : Prop := fnExactJoinChainsRow.holds Try.pinned (OpenSpec.ofChange fnExactJoinChainsSpec)

/-- ITS FALSE NEIGHBOUR: 'it returns false'. Refute it at one input. -/
def fnExactJoinChainsWrong : ChangeSpec := { name := "fnExactJoinChains", fn := fun _ => fun
  | [d1, d2] => { results := [.lit (.bool false)], args := [d1, d2] }
  | _ => none }
def FnExactJoinChainsWrongFalsely : Prop := fnExactJoinChainsRow.holds Try.pinned (OpenSpec.ofChange fnExactJoinChainsWrong)

/-- 'laws.FnExactShowAll': WHATEVER THE INPUT: true; the input reads as it did. -/
def fnExactShowAllSpec : ChangeSpec := { name := "fnExactShowAll", fn := fun _ => fun
  | [d] => { results := [.lit (.bool true)], args := [d] }
  | _ => none }
def fnExactShowAllRow : OpenClaim := { program := "ytfocobgceelnoaa", sum := "d88b65902d6df128b59b69025b507d59da64eecd0d662e42517da5fda0325092", func := "loop.example/tallychains/laws.FnExactShowAll", spec := "fnExactShowAll", unfollowed := true, recurses := true, apart := false }
def FnExactShowAllSaid : Prop := fnExactShowAllRow.holds Try.pinned (OpenSpec.ofChange fnExactShowAllSpec)

/-- ITS FALSE NEIGHBOUR: 'it returns false'. Refute it at one input. -/
def fnExactShowAllWrong : ChangeSpec := { name := "fnExactShowAll", fn := fun _ => fun
  | [d] => { results := [.lit (.bool false)], args := [d] }
  | _ => none }
def FnExactShowAllWrongFalsely : Prop := fnExactShowAllRow.holds Try.pinned (OpenSpec.ofChange fnExactShowAllWrong)

/-- 'laws.FnExactChainItems': WHATEVER THE INPUT: true; the input reads as it did. -/
def fnExactChainItemsSpec : ChangeSpec := { name := "fnExactChainItems", fn := fun _ => fun
  | [d] => { results := [.lit (.bool true)], args := [d] }
  | _ => none }
def fnExactChainItemsRow : OpenClaim := { program := "ytfocobgceelnoaa", sum := "d88b65902d6df128b59b69025b507d59da64eecd0d662e42517da5fda0325092", func := "loop.example/tallychains/laws.FnExactChainItems", spec := "fnExactChainItems", unfollowed := true, recurses := true, apart := false }
def FnExactChainItemsSaid : Prop := fnExactChainItemsRow.holds Try.pinned (OpenSpec.ofChange fnExactChainItemsSpec)

/-- ITS FALSE NEIGHBOUR: 'it returns false'. Refute it at one input. -/
def fnExactChainItemsWrong : ChangeSpec := { name := "fnExactChainItems", fn := fun _ => fun
  | [d] => { results := [.lit (.bool false)], args := [d] }
  | _ => none }
def FnExactChainItemsWrongFalsely : Prop := fnExactChainItemsRow.holds Try.pinned (OpenSpec.ofChange fnExactChainItemsWrong)

/-- 'laws.FnExactChainKeys': WHATEVER THE INPUT: true; the input reads as it did. -/
def fnExactChainKeysSpec : ChangeSpec := { name := "fnExactChainKeys", fn := fun _ => fun
  | [d] => { results := [.lit (.bool true)], args := [d] }
  | _ => none }
def fnExactChainKeysRow : OpenClaim := { program := "ytfocobgceelnoaa", sum := "d88b65902d6df128b59b69025b507d59da64eecd0d662e42517da5fda0325092", func := "loop.example/tallychains/laws.FnExactChainKeys", spec := "fnExactChainKeys", unfollowed := true, recurses := true, apart := false }
def FnExactChainKeysSaid : Prop := fnExactChainKeysRow.holds Try.pinned (OpenSpec.ofChange fnExactChainKeysSpec)

/-- ITS FALSE NEIGHBOUR: 'it returns false'. Refute it at one input. -/
def fnExactChainKeysWrong : ChangeSpec := { name := "fnExactChainKeys", fn := fun _ => fun
  | [d] => { results := [.lit (.bool false)], args := [d] }
  | _ => none }
def FnExactChainKeysWrongFalsely : Prop := fnExactChainKeysRow.holds Try.pinned (OpenSpec.ofChange fnExactChainKeysWrong)

/-- 'laws.FnExactCollapseChain': WHATEVER THE INPUT: true; the input reads as it did. -/
def fnExactCollapseChainSpec : ChangeSpec := { name := "fnExactCollapseChain", fn := fun _ => fun
  | [d] => { results := [.lit (.bool true)], args := [d] }
  | _ => none }
def fnExactCollapseChainRow : OpenClaim := { program := "ytfocobgceelnoaa", sum := "d88b65902d6df128b59b69025b507d59da64eecd0d662e42517da5fda0325092", func := "loop.example/tallychains/laws.FnExactCollapseChain", spec := "fnExactCollapseChain", unfollowed := true, recurses := true, apart := false }
def FnExactCollapseChainSaid : Prop := fnExactCollapseChainRow.holds Try.pinned (OpenSpec.ofChange fnExactCollapseChainSpec)

/-- ITS FALSE NEIGHBOUR: 'it returns false'. Refute it at one input. -/
def fnExactCollapseChainWrong : ChangeSpec := { name := "fnExactCollapseChain", fn := fun _ => fun
  | [d] => { results := [.lit (.bool false)], args := [d] }
  | _ => none }
def FnExactCollapseChainWrongFalsely : Prop := fnExactCollapseChainRow.holds Try.pinned (OpenSpec.ofChange fnExactCollapseChainWrong)

/-- 'laws.FnExactSameChain': WHATEVER THE INPUT: true; the input reads as it did. -/
def fnExactSameChainSpec : ChangeSpec := { name := "fnExactSameChain", fn := fun _ => fun
  | [d1, d2] => { results := [.lit (.bool true)], args := [d1, d2] }
  | _ => none }
def fnExactSameChainRow : OpenClaim := { program := "ytfocobgceelnoaa", sum := "d88b65902d6df128b59b69025b507d59da64eecd0d662e42517da5fda0325092", func := "loop.example/tallychains/laws.FnExactSameChain", spec := "fnExactSameChain", unfollowed := true, recurses := true, apart := false }
def FnExactSameChainSaid : Prop := fnExactSameChainRow.holds Try.pinned (OpenSpec.ofChange fnExactSameChainSpec)

/-- ITS FALSE NEIGHBOUR: 'it returns false'. Refute it at one input. -/
def fnExactSameChainWrong : ChangeSpec := { name := "fnExactSameChain", fn := fun _ => fun
  | [d1, d2] => { results := [.lit (.bool false)], args := [d1, d2] }
  | _ => none }
def FnExactSameChainWrongFalsely : Prop := fnExactSameChainRow.holds Try.pinned (OpenSpec.ofChange fnExactSameChainWrong)

/-- 'laws.FnValidChain': WHATEVER THE INPUT: true; the input reads as it did. -/
def fnValidChainSpec : ChangeSpec := { name := "fnValidChain", fn := fun _ => fun
  | [d] => { results := [.lit (.bool true)], args := [d] }
  | _ => none }
def fnValidChainRow : OpenClaim := { program := "ytfocobgceelnoaa", sum := "d88b65902d6df128b59b69025b507d59da64eecd0d662e42517da5fda0325092", func := "loop.example/tallychains/laws.FnValidChain", spec := "fnValidChain", apart := false }
def FnValidChainSaid : Prop := fnValidChainRow.holds Try.pinned (OpenSpec.ofChange fnValidChainSpec)

/-- ITS FALSE NEIGHBOUR: 'it returns false'. Refute it at one input. -/
def fnValidChainWrong : ChangeSpec := { name := "fnValidChain", fn := fun _ => fun
  | [d] => { results := [.lit (.bool false)], args := [d] }
  | _ => none }
def FnValidChainWrongFalsely : Prop := fnValidChainRow.holds Try.pinned (OpenSpec.ofChange fnValidChainWrong)

/-- 'laws.FnWhereIs': WHATEVER THE INPUT: true; the input reads as it did. -/
def fnWhereIsSpec : ChangeSpec := { name := "fnWhereIs", fn := fun _ => fun
  | [d] => { results := [.lit (.bool true)], args := [d] }
  | _ => none }
def fnWhereIsRow : OpenClaim := { program := "ytfocobgceelnoaa", sum := "d88b65902d6df128b59b69025b507d59da64eecd0d662e42517da5fda0325092", func := "loop.example/tallychains/laws.FnWhereIs", spec := "fnWhereIs", unfollowed := true, recurses := true, apart := false }
def FnWhereIsSaid : Prop := fnWhereIsRow.holds Try.pinned (OpenSpec.ofChange fnWhereIsSpec)

/-- ITS FALSE NEIGHBOUR: 'it returns false'. Refute it at one input. -/
def fnWhereIsWrong : ChangeSpec := { name := "fnWhereIs", fn := fun _ => fun
  | [d] => { results := [.lit (.bool false)], args := [d] }
  | _ => none }
def FnWhereIsWrongFalsely : Prop := fnWhereIsRow.holds Try.pinned (OpenSpec.ofChange fnWhereIsWrong)

/-- 'laws.FnHowOften': WHATEVER THE INPUT: true; the input reads as it did. -/
def fnHowOftenSpec : ChangeSpec := { name := "fnHowOften", fn := fun _ => fun
  | [d] => { results := [.lit (.bool true)], args := [d] }
  | _ => none }
def fnHowOftenRow : OpenClaim := { program := "ytfocobgceelnoaa", sum := "d88b65902d6df128b59b69025b507d59da64eecd0d662e42517da5fda0325092", func := "loop.example/tallychains/laws.FnHowOften", spec := "fnHowOften", unfollowed := true, recurses := true, apart := false }
def FnHowOftenSaid : Prop := fnHowOftenRow.holds Try.pinned (OpenSpec.ofChange fnHowOftenSpec)

/-- ITS FALSE NEIGHBOUR: 'it returns false'. Refute it at one input. -/
def fnHowOftenWrong : ChangeSpec := { name := "fnHowOften", fn := fun _ => fun
  | [d] => { results := [.lit (.bool false)], args := [d] }
  | _ => none }
def FnHowOftenWrongFalsely : Prop := fnHowOftenRow.holds Try.pinned (OpenSpec.ofChange fnHowOftenWrong)

/- THE SECOND FORM. 'bulk': how many values and letters a reading holds, each counted each time it is reached (what is shared counts as often as it is met; a slice's spare places count too). A statement '..UptoSaid' is the law's where the arguments, and the package variables that the reading takes, are together of bulk at most 1048576: NARROWER than '..Said'. Prove '..Said' where nothing that the law and all that it calls make is longer than what came in: it says more and counts as full. Else prove '..UptoSaid'. A law counts once. -/
mutual
def uptoBulk {H : Type} : DataW H → Nat
  | .lit (.string bytes) => bytes.length + 1
  | .lit _ => 1
  | .nil => 1
  | .ptr d => uptoBulk d + 1
  | .slice elems spare => uptoBulkAll elems + uptoBulkAll spare + 1
  | .agg parts => uptoBulkAll parts + 1
  | .iface _ d => uptoBulk d + 1
  | .map entries => uptoBulkEntries entries + 1
  | .held _ => 1
def uptoBulkAll {H : Type} : List (DataW H) → Nat
  | [] => 0
  | d :: r => uptoBulk d + uptoBulkAll r
def uptoBulkEntries {H : Type} : List (Lit × DataW H) → Nat
  | [] => 0
  | x :: r => uptoBulkEntry x + uptoBulkEntries r
def uptoBulkEntry {H : Type} : Lit × DataW H → Nat
  | (.string bytes, d) => bytes.length + uptoBulk d + 1
  | (_, d) => uptoBulk d + 1
 end
def uptoSmall : (H : Type) → List (DataW H) → Bool := fun _ ds => decide (uptoBulkAll ds ≤ 1048576)
def OpenSpec.upto (s : _root_.Go.ChangeSpec) : _root_.Go.OpenSpec := { _root_.Go.OpenSpec.ofChange s with cond := some uptoSmall }

/-- 'laws.FnExactNewChild', WHERE WHAT IT READS IS OF BULK AT MOST 1048576: true; the input reads as it did. -/
def fnExactNewChildUptoRow : OpenClaim := { program := "ytfocobgceelnoaa", sum := "d88b65902d6df128b59b69025b507d59da64eecd0d662e42517da5fda0325092", func := "loop.example/tallychains/laws.FnExactNewChild", spec := "fnExactNewChild", apart := false, narrowed := true }
def FnExactNewChildUptoSaid : Prop := fnExactNewChildUptoRow.holds Try.pinned (OpenSpec.upto fnExactNewChildSpec)

/-- 'laws.FnExactJoinChains', WHERE WHAT IT READS IS OF BULK AT MOST 1048576: true; the input reads as it did. -/
def fnExactJoinChainsUptoRow : OpenClaim := { program := "ytfocobgceelnoaa", sum := "d88b65902d6df128b59b69025b507d59da64eecd0d662e42517da5fda0325092", func := "loop.example/tallychains/laws.FnExactJoinChains", spec := "fnExactJoinChains", apart := false, narrowed := true }
def FnExactJoinChainsUptoSaid : Prop := fnExactJoinChainsUptoRow.holds Try.pinned (OpenSpec.upto fnExactJoinChainsSpec)

/-- 'laws.FnExactShowAll', WHERE WHAT IT READS IS OF BULK AT MOST 1048576: true; the input reads as it did. -/
def fnExactShowAllUptoRow : OpenClaim := { program := "ytfocobgceelnoaa", sum := "d88b65902d6df128b59b69025b507d59da64eecd0d662e42517da5fda0325092", func := "loop.example/tallychains/laws.FnExactShowAll", spec := "fnExactShowAll", unfollowed := true, recurses := true, apart := false, narrowed := true }
def FnExactShowAllUptoSaid : Prop := fnExactShowAllUptoRow.holds Try.pinned (OpenSpec.upto fnExactShowAllSpec)

/-- 'laws.FnExactChainItems', WHERE WHAT IT READS IS OF BULK AT MOST 1048576: true; the input reads as it did. -/
def fnExactChainItemsUptoRow : OpenClaim := { program := "ytfocobgceelnoaa", sum := "d88b65902d6df128b59b69025b507d59da64eecd0d662e42517da5fda0325092", func := "loop.example/tallychains/laws.FnExactChainItems", spec := "fnExactChainItems", unfollowed := true, recurses := true, apart := false, narrowed := true }
def FnExactChainItemsUptoSaid : Prop := fnExactChainItemsUptoRow.holds Try.pinned (OpenSpec.upto fnExactChainItemsSpec)

/-- 'laws.FnExactChainKeys', WHERE WHAT IT READS IS OF BULK AT MOST 1048576: true; the input reads as it did. -/
def fnExactChainKeysUptoRow : OpenClaim := { program := "ytfocobgceelnoaa", sum := "d88b65902d6df128b59b69025b507d59da64eecd0d662e42517da5fda0325092", func := "loop.example/tallychains/laws.FnExactChainKeys", spec := "fnExactChainKeys", unfollowed := true, recurses := true, apart := false, narrowed := true }
def FnExactChainKeysUptoSaid : Prop := fnExactChainKeysUptoRow.holds Try.pinned (OpenSpec.upto fnExactChainKeysSpec)

/-- 'laws.FnExactCollapseChain', WHERE WHAT IT READS IS OF BULK AT MOST 1048576: true; the input reads as it did. -/
def fnExactCollapseChainUptoRow : OpenClaim := { program := "ytfocobgceelnoaa", sum := "d88b65902d6df128b59b69025b507d59da64eecd0d662e42517da5fda0325092", func := "loop.example/tallychains/laws.FnExactCollapseChain", spec := "fnExactCollapseChain", unfollowed := true, recurses := true, apart := false, narrowed := true }
def FnExactCollapseChainUptoSaid : Prop := fnExactCollapseChainUptoRow.holds Try.pinned (OpenSpec.upto fnExactCollapseChainSpec)

/-- 'laws.FnExactSameChain', WHERE WHAT IT READS IS OF BULK AT MOST 1048576: true; the input reads as it did. -/
def fnExactSameChainUptoRow : OpenClaim := { program := "ytfocobgceelnoaa", sum := "d88b65902d6df128b59b69025b507d59da64eecd0d662e42517da5fda0325092", func := "loop.example/tallychains/laws.FnExactSameChain", spec := "fnExactSameChain", unfollowed := true, recurses := true, apart := false, narrowed := true }
def FnExactSameChainUptoSaid : Prop := fnExactSameChainUptoRow.holds Try.pinned (OpenSpec.upto fnExactSameChainSpec)

/-- 'laws.FnValidChain', WHERE WHAT IT READS IS OF BULK AT MOST 1048576: true; the input reads as it did. -/
def fnValidChainUptoRow : OpenClaim := { program := "ytfocobgceelnoaa", sum := "d88b65902d6df128b59b69025b507d59da64eecd0d662e42517da5fda0325092", func := "loop.example/tallychains/laws.FnValidChain", spec := "fnValidChain", apart := false, narrowed := true }
def FnValidChainUptoSaid : Prop := fnValidChainUptoRow.holds Try.pinned (OpenSpec.upto fnValidChainSpec)

/-- 'laws.FnWhereIs', WHERE WHAT IT READS IS OF BULK AT MOST 1048576: true; the input reads as it did. -/
def fnWhereIsUptoRow : OpenClaim := { program := "ytfocobgceelnoaa", sum := "d88b65902d6df128b59b69025b507d59da64eecd0d662e42517da5fda0325092", func := "loop.example/tallychains/laws.FnWhereIs", spec := "fnWhereIs", unfollowed := true, recurses := true, apart := false, narrowed := true }
def FnWhereIsUptoSaid : Prop := fnWhereIsUptoRow.holds Try.pinned (OpenSpec.upto fnWhereIsSpec)

/-- 'laws.FnHowOften', WHERE WHAT IT READS IS OF BULK AT MOST 1048576: true; the input reads as it did. -/
def fnHowOftenUptoRow : OpenClaim := { program := "ytfocobgceelnoaa", sum := "d88b65902d6df128b59b69025b507d59da64eecd0d662e42517da5fda0325092", func := "loop.example/tallychains/laws.FnHowOften", spec := "fnHowOften", unfollowed := true, recurses := true, apart := false, narrowed := true }
def FnHowOftenUptoSaid : Prop := fnHowOftenUptoRow.holds Try.pinned (OpenSpec.upto fnHowOftenSpec)

end Rows
end Go.Proofs.Ytfocobgceelnoaa
