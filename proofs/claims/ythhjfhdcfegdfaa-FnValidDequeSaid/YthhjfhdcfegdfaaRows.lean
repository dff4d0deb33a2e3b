/-
  No cell of these rows narrows 'for every input' (looked for: loops, veiled, ifaces, maps, wideKeys, modest, calm, conditions, laid).
  DERIVED. THE GIVEN ROWS OF THIS SEAT. 7 by the template 'for every input the law returns true; each argument reads behind the call as it read before'; 0 by the template 'total and deterministic' (their statements: YthhjfhdcfegdfaaTotals.lean).
  GIVEN WITH THE SEED: the statements are not yours to turn. If you find one false, say at which input.
  Laid BY PROGRAM, IN A SANDBOX (cutbox-rows.mjs): the forced cells as the released guide's own fill.sh prints them over the translation f0cabb79d5b1e975… (all of the seat's roots in one cut). By AI agents, Wed Nov 11 2026. No macro, syntax, notation, axiom, sorry.
-/
import Derived.Test.YthhjfhdcfegdfaaChecked
import GoSem.Claim
import GoSem.ClaimJoined
import GoSem.ClaimMapViews
import Derived.JoinedTies
import Derived.KernelRfl
namespace Go.Proofs.Ythhjfhdcfegdfaa
/- THE CELL 'sum', in the pinned program and in every row, IS THE sha256 OF THE DUMP (.gsa) THAT YthhjfhdcfegdfaaProg.lean LOADS. Nothing in Lean hashes anything: it is a label: what it is worth is what the hold of that sum in a sandbox is worth. -/
noncomputable def Try.pinned : Pinned := { name := "ythhjfhdcfegdfaa", sum := "f0cabb79d5b1e975496e815c78683d5f0969ce2774e9203e43084acfd9c4592d", checked := Try.checked }
namespace Rows
def none {H : Type} : Left H := { results := [], args := [] }

/-- 'laws.FnValidChain': WHATEVER THE INPUT: true; the input reads as it did. -/
def fnValidChainSpec : ChangeSpec := { name := "fnValidChain", fn := fun _ => fun
  | [d] => { results := [.lit (.bool true)], args := [d] }
  | _ => none }
def fnValidChainRow : OpenClaim := { program := "ythhjfhdcfegdfaa", sum := "f0cabb79d5b1e975496e815c78683d5f0969ce2774e9203e43084acfd9c4592d", func := "loop.example/tallychains/laws.FnValidChain", spec := "fnValidChain", apart := false }
def FnValidChainSaid : Prop := fnValidChainRow.holds Try.pinned (OpenSpec.ofChange fnValidChainSpec)

/-- ITS FALSE NEIGHBOUR: 'it returns false'. Refute it at one input. -/
def fnValidChainWrong : ChangeSpec := { name := "fnValidChain", fn := fun _ => fun
  | [d] => { results := [.lit (.bool false)], args := [d] }
  | _ => none }
def FnValidChainWrongFalsely : Prop := fnValidChainRow.holds Try.pinned (OpenSpec.ofChange fnValidChainWrong)

/-- 'laws.FnWhereIs': WHATEVER THE INPUT: true; the input reads as it did. -/
def fnWhereIsSpec : ChangeSpec := { name := "fnWhereIs", fn := fun _ => fun
  | [d] => { results := [.lit (.bool true)], args := [d] }
  | _ => none }
def fnWhereIsRow : OpenClaim := { program := "ythhjfhdcfegdfaa", sum := "f0cabb79d5b1e975496e815c78683d5f0969ce2774e9203e43084acfd9c4592d", func := "loop.example/tallychains/laws.FnWhereIs", spec := "fnWhereIs", unfollowed := true, recurses := true, apart := false }
def FnWhereIsSaid : Prop := fnWhereIsRow.holds Try.pinned (OpenSpec.ofChange fnWhereIsSpec)

/-- ITS FALSE NEIGHBOUR: 'it returns false'. Refute it at one input. -/
def fnWhereIsWrong : ChangeSpec := { name := "fnWhereIs", fn := fun _ => fun
  | [d] => { results := [.lit (.bool false)], args := [d] }
  | _ => none }
def FnWhereIsWrongFalsely : Prop := fnWhereIsRow.holds Try.pinned (OpenSpec.ofChange fnWhereIsWrong)

/-- 'laws.FnChainPut': WHATEVER THE INPUT: true; the input reads as it did. -/
def fnChainPutSpec : ChangeSpec := { name := "fnChainPut", fn := fun _ => fun
  | [d] => { results := [.lit (.bool true)], args := [d] }
  | _ => none }
def fnChainPutRow : OpenClaim := { program := "ythhjfhdcfegdfaa", sum := "f0cabb79d5b1e975496e815c78683d5f0969ce2774e9203e43084acfd9c4592d", func := "loop.example/tallychains/laws.FnChainPut", spec := "fnChainPut", unfollowed := true, recurses := true, apart := false }
def FnChainPutSaid : Prop := fnChainPutRow.holds Try.pinned (OpenSpec.ofChange fnChainPutSpec)

/-- ITS FALSE NEIGHBOUR: 'it returns false'. Refute it at one input. -/
def fnChainPutWrong : ChangeSpec := { name := "fnChainPut", fn := fun _ => fun
  | [d] => { results := [.lit (.bool false)], args := [d] }
  | _ => none }
def FnChainPutWrongFalsely : Prop := fnChainPutRow.holds Try.pinned (OpenSpec.ofChange fnChainPutWrong)

/-- 'laws.FnDeepDrop': WHATEVER THE INPUT: true; the input reads as it did. -/
def fnDeepDropSpec : ChangeSpec := { name := "fnDeepDrop", fn := fun _ => fun
  | [d] => { results := [.lit (.bool true)], args := [d] }
  | _ => none }
def fnDeepDropRow : OpenClaim := { program := "ythhjfhdcfegdfaa", sum := "f0cabb79d5b1e975496e815c78683d5f0969ce2774e9203e43084acfd9c4592d", func := "loop.example/tallychains/laws.FnDeepDrop", spec := "fnDeepDrop", unfollowed := true, recurses := true, apart := false }
def FnDeepDropSaid : Prop := fnDeepDropRow.holds Try.pinned (OpenSpec.ofChange fnDeepDropSpec)

/-- ITS FALSE NEIGHBOUR: 'it returns false'. Refute it at one input. -/
def fnDeepDropWrong : ChangeSpec := { name := "fnDeepDrop", fn := fun _ => fun
  | [d] => { results := [.lit (.bool false)], args := [d] }
  | _ => none }
def FnDeepDropWrongFalsely : Prop := fnDeepDropRow.holds Try.pinned (OpenSpec.ofChange fnDeepDropWrong)

/-- 'laws.FnHowOften': WHATEVER THE INPUT: true; the input reads as it did. -/
def fnHowOftenSpec : ChangeSpec := { name := "fnHowOften", fn := fun _ => fun
  | [d] => { results := [.lit (.bool true)], args := [d] }
  | _ => none }
def fnHowOftenRow : OpenClaim := { program := "ythhjfhdcfegdfaa", sum := "f0cabb79d5b1e975496e815c78683d5f0969ce2774e9203e43084acfd9c4592d", func := "loop.example/tallychains/laws.FnHowOften", spec := "fnHowOften", unfollowed := true, recurses := true, apart := false }
def FnHowOftenSaid : Prop := fnHowOftenRow.holds Try.pinned (OpenSpec.ofChange fnHowOftenSpec)

/-- ITS FALSE NEIGHBOUR: 'it returns false'. Refute it at one input. -/
def fnHowOftenWrong : ChangeSpec := { name := "fnHowOften", fn := fun _ => fun
  | [d] => { results := [.lit (.bool false)], args := [d] }
  | _ => none }
def FnHowOftenWrongFalsely : Prop := fnHowOftenRow.holds Try.pinned (OpenSpec.ofChange fnHowOftenWrong)

/-- 'laws.FnHiddenIn': WHATEVER THE INPUT: true; the input reads as it did. -/
def fnHiddenInSpec : ChangeSpec := { name := "fnHiddenIn", fn := fun _ => fun
  | [d] => { results := [.lit (.bool true)], args := [d] }
  | _ => none }
def fnHiddenInRow : OpenClaim := { program := "ythhjfhdcfegdfaa", sum := "f0cabb79d5b1e975496e815c78683d5f0969ce2774e9203e43084acfd9c4592d", func := "loop.example/tallychains/laws.FnHiddenIn", spec := "fnHiddenIn", unfollowed := true, recurses := true, apart := false }
def FnHiddenInSaid : Prop := fnHiddenInRow.holds Try.pinned (OpenSpec.ofChange fnHiddenInSpec)

/-- ITS FALSE NEIGHBOUR: 'it returns false'. Refute it at one input. -/
def fnHiddenInWrong : ChangeSpec := { name := "fnHiddenIn", fn := fun _ => fun
  | [d] => { results := [.lit (.bool false)], args := [d] }
  | _ => none }
def FnHiddenInWrongFalsely : Prop := fnHiddenInRow.holds Try.pinned (OpenSpec.ofChange fnHiddenInWrong)

/-- 'laws.FnValidDeque': WHATEVER THE INPUT: true; the input reads as it did. -/
def fnValidDequeSpec : ChangeSpec := { name := "fnValidDeque", fn := fun _ => fun
  | [d] => { results := [.lit (.bool true)], args := [d] }
  | _ => none }
def fnValidDequeRow : OpenClaim := { program := "ythhjfhdcfegdfaa", sum := "f0cabb79d5b1e975496e815c78683d5f0969ce2774e9203e43084acfd9c4592d", func := "loop.example/tallychains/laws.FnValidDeque", spec := "fnValidDeque", apart := false }
def FnValidDequeSaid : Prop := fnValidDequeRow.holds Try.pinned (OpenSpec.ofChange fnValidDequeSpec)

/-- ITS FALSE NEIGHBOUR: 'it returns false'. Refute it at one input. -/
def fnValidDequeWrong : ChangeSpec := { name := "fnValidDeque", fn := fun _ => fun
  | [d] => { results := [.lit (.bool false)], args := [d] }
  | _ => none }
def FnValidDequeWrongFalsely : Prop := fnValidDequeRow.holds Try.pinned (OpenSpec.ofChange fnValidDequeWrong)

/- THE SECOND FORM. 'bulk': how many values and letters a reading holds, each counted each time it is reached (what is shared counts as often as it is met; a slice's spare places count too). A statement '..UptoSaid' is the law's where the arguments, and the package variables that the reading takes, are together of bulk at most 1048576: NARROWER than '..Said'. Prove '..Said' where nothing that the law and all that it calls make is longer than what came in: it says more and counts as full. Else prove '..UptoSaid'. A law counts once. -/
mutual
def uptoBulk {H : Type} : DataW H → Nat
  | .lit (.string bytes) => bytes.length + 1
  | .lit _ => 1
  | .nil => 1
  | .ptr d => uptoBulk d + 1
  | .slice elems spare => uptoBulkAll elems + uptoBulkAll spare + 1
  | .agg parts => uptoBulkAll parts + 1
  | .iface _ d => uptoBulk d + 1
  | .map entries => uptoBulkEntries entries + 1
  | .held _ => 1
def uptoBulkAll {H : Type} : List (DataW H) → Nat
  | [] => 0
  | d :: r => uptoBulk d + uptoBulkAll r
def uptoBulkEntries {H : Type} : List (Lit × DataW H) → Nat
  | [] => 0
  | x :: r => uptoBulkEntry x + uptoBulkEntries r
def uptoBulkEntry {H : Type} : Lit × DataW H → Nat
  | (.string bytes, d) => bytes.length + uptoBulk d + 1
  | (_, d) => uptoBulk d + 1
 end
def uptoSmall : (H : Type) → List (DataW H) → Bool := fun _ ds => decide (uptoBulkAll ds ≤ 1048576)
def OpenSpec.upto (s : _root_.Go.ChangeSpec) : _root_.Go.OpenSpec := { _root_.Go.OpenSpec.ofChange s with cond := some uptoSmall }

/-- 'laws.FnValidChain', WHERE WHAT IT READS IS OF BULK AT MOST 1048576: true; the input reads as it did. -/
def fnValidChainUptoRow : OpenClaim := { program := "ythhjfhdcfegdfaa", sum := "f0cabb79d5b1e975496e815c78683d5f0969ce2774e9203e43084acfd9c4592d", func := "loop.example/tallychains/laws.FnValidChain", spec := "fnValidChain", apart := false, narrowed := true }
def FnValidChainUptoSaid : Prop := fnValidChainUptoRow.holds Try.pinned (OpenSpec.upto fnValidChainSpec)

/-- 'laws.FnWhereIs', WHERE WHAT IT READS IS OF BULK AT MOST 1048576: true; the input reads as it did. -/
def fnWhereIsUptoRow : OpenClaim := { program := "ythhjfhdcfegdfaa", sum := "f0cabb79d5b1e975496e815c78683d5f0969ce2774e9203e43084acfd9c4592d", func := "loop.example/tallychains/laws.FnWhereIs", spec := "fnWhereIs", unfollowed := true, recurses := true, apart := false, narrowed := true }
def FnWhereIsUptoSaid : Prop := fnWhereIsUptoRow.holds Try.pinned (OpenSpec.upto fnWhereIsSpec)

/-- 'laws.FnChainPut', WHERE WHAT IT READS IS OF BULK AT MOST 1048576: true; the input reads as it did. -/
def fnChainPutUptoRow : OpenClaim := { program := "ythhjfhdcfegdfaa", sum := "f0cabb79d5b1e975496e815c78683d5f0969ce2774e9203e43084acfd9c4592d", func := "loop.example/tallychains/laws.FnChainPut", spec := "fnChainPut", unfollowed := true, recurses := true, apart := false, narrowed := true }
def FnChainPutUptoSaid : Prop := fnChainPutUptoRow.holds Try.pinned (OpenSpec.upto fnChainPutSpec)

/-- 'laws.FnDeepDrop', WHERE WHAT IT READS IS OF BULK AT MOST 1048576: true; the input reads as it did. -/
def fnDeepDropUptoRow : OpenClaim := { program := "ythhjfhdcfegdfaa", sum := "f0cabb79d5b1e975496e815c78683d5f0969ce2774e9203e43084acfd9c4592d", func := "loop.example/tallychains/laws.FnDeepDrop", spec := "fnDeepDrop", unfollowed := true, recurses := true, apart := false, narrowed := true }
def FnDeepDropUptoSaid : Prop := fnDeepDropUptoRow.holds Try.pinned (OpenSpec.upto fnDeepDropSpec)

/-- 'laws.FnHowOften', WHERE WHAT IT READS IS OF BULK AT MOST 1048576: true; the input reads as it did. -/
def fnHowOftenUptoRow : OpenClaim := { program := "ythhjfhdcfegdfaa", sum := "f0cabb79d5b1e975496e815c78683d5f0969ce2774e9203e43084acfd9c4592d", func := "loop.example/tallychains/laws.FnHowOften", spec := "fnHowOften", unfollowed := true, recurses := true, apart := false, narrowed := true }
def FnHowOftenUptoSaid : Prop := fnHowOftenUptoRow.holds Try.pinned (OpenSpec.upto fnHowOftenSpec)

/-- 'laws.FnHiddenIn', WHERE WHAT IT READS IS OF BULK AT MOST 1048576: true; the input reads as it did. -/
def fnHiddenInUptoRow : OpenClaim := { program := "ythhjfhdcfegdfaa", sum := "f0cabb79d5b1e975496e815c78683d5f0969ce2774e9203e43084acfd9c4592d", func := "loop.example/tallychains/laws.FnHiddenIn", spec := "fnHiddenIn", unfollowed := true, recurses := true, apart := false, narrowed := true }
def FnHiddenInUptoSaid : Prop := fnHiddenInUptoRow.holds Try.pinned (OpenSpec.upto fnHiddenInSpec)

/-- 'laws.FnValidDeque', WHERE WHAT IT READS IS OF BULK AT MOST 1048576: true; the input reads as it did. -/
def fnValidDequeUptoRow : OpenClaim := { program := "ythhjfhdcfegdfaa", sum := "f0cabb79d5b1e975496e815c78683d5f0969ce2774e9203e43084acfd9c4592d", func := "loop.example/tallychains/laws.FnValidDeque", spec := "fnValidDeque", apart := false, narrowed := true }
def FnValidDequeUptoSaid : Prop := fnValidDequeUptoRow.holds Try.pinned (OpenSpec.upto fnValidDequeSpec)

end Rows
end Go.Proofs.Ythhjfhdcfegdfaa
