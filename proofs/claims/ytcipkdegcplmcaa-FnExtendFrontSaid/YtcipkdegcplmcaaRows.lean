/-
  No cell of these rows narrows 'for every input' (looked for: loops, veiled, ifaces, maps, wideKeys, modest, calm, conditions, laid).
  DERIVED. THE GIVEN ROWS OF THIS SEAT. 10 by the template 'for every input the law returns true; each argument reads behind the call as it read before'; 0 by the template 'total and deterministic' (their statements: YtcipkdegcplmcaaTotals.lean).
  GIVEN WITH THE SEED: the statements are not yours to turn. If you find one false, say at which input.
  Laid BY PROGRAM, IN A SANDBOX (cutbox-rows.mjs): the forced cells as the released guide's own fill.sh prints them over the translation 478589798f8f8b1c… (all of the seat's roots in one cut). By AI agents, Wed Nov 11 2026. No macro, syntax, notation, axiom, sorry.
-/
import Derived.Test.YtcipkdegcplmcaaChecked
import GoSem.Claim
import GoSem.ClaimJoined
import GoSem.ClaimMapViews
import Derived.JoinedTies
import Derived.KernelRfl
namespace Go.Proofs.Ytcipkdegcplmcaa
/- THE CELL 'sum', in the pinned program and in every row, IS THE sha256 OF THE DUMP (.gsa) THAT YtcipkdegcplmcaaProg.lean LOADS. Nothing in Lean hashes anything: it is a label: what it is worth is what the hold of that sum in a sandbox is worth. -/
noncomputable def Try.pinned : Pinned := { name := "ytcipkdegcplmcaa", sum := "478589798f8f8b1c3ca21f1c25b49418bd99988e09287c5cafd298a8c45d2ac0", checked := Try.checked }
namespace Rows
def none {H : Type} : Left H := { results := [], args := [] }

/-- 'laws.FnExtendBack': WHATEVER THE INPUT: true; the input reads as it did. -/
def fnExtendBackSpec : ChangeSpec := { name := "fnExtendBack", fn := fun _ => fun
  | [d] => { results := [.lit (.bool true)], args := [d] }
  | _ => none }
def fnExtendBackRow : OpenClaim := { program := "ytcipkdegcplmcaa", sum := "478589798f8f8b1c3ca21f1c25b49418bd99988e09287c5cafd298a8c45d2ac0", func := "loop.example/tallychains/laws.FnExtendBack", spec := "fnExtendBack", apart := false }
def FnExtendBackSaid : Prop := fnExtendBackRow.holds Try.pinned (OpenSpec.ofChange fnExtendBackSpec)

/-- ITS FALSE NEIGHBOUR: 'it returns false'. Refute it at one input. -/
def fnExtendBackWrong : ChangeSpec := { name := "fnExtendBack", fn := fun _ => fun
  | [d] => { results := [.lit (.bool false)], args := [d] }
  | _ => none }
def FnExtendBackWrongFalsely : Prop := fnExtendBackRow.holds Try.pinned (OpenSpec.ofChange fnExtendBackWrong)

/-- 'laws.FnExtendFront': WHATEVER THE INPUT: true; the input reads as it did. -/
def fnExtendFrontSpec : ChangeSpec := { name := "fnExtendFront", fn := fun _ => fun
  | [d] => { results := [.lit (.bool true)], args := [d] }
  | _ => none }
def fnExtendFrontRow : OpenClaim := { program := "ytcipkdegcplmcaa", sum := "478589798f8f8b1c3ca21f1c25b49418bd99988e09287c5cafd298a8c45d2ac0", func := "loop.example/tallychains/laws.FnExtendFront", spec := "fnExtendFront", apart := false }
def FnExtendFrontSaid : Prop := fnExtendFrontRow.holds Try.pinned (OpenSpec.ofChange fnExtendFrontSpec)

/-- ITS FALSE NEIGHBOUR: 'it returns false'. Refute it at one input. -/
def fnExtendFrontWrong : ChangeSpec := { name := "fnExtendFront", fn := fun _ => fun
  | [d] => { results := [.lit (.bool false)], args := [d] }
  | _ => none }
def FnExtendFrontWrongFalsely : Prop := fnExtendFrontRow.holds Try.pinned (OpenSpec.ofChange fnExtendFrontWrong)

/-- 'laws.FnSetAt': WHATEVER THE INPUT: true; the input reads as it did. -/
def fnSetAtSpec : ChangeSpec := { name := "fnSetAt", fn := fun _ => fun
  | [d] => { results := [.lit (.bool true)], args := [d] }
  | _ => none }
def fnSetAtRow : OpenClaim := { program := "ytcipkdegcplmcaa", sum := "478589798f8f8b1c3ca21f1c25b49418bd99988e09287c5cafd298a8c45d2ac0", func := "loop.example/tallychains/laws.FnSetAt", spec := "fnSetAt", apart := false }
def FnSetAtSaid : Prop := fnSetAtRow.holds Try.pinned (OpenSpec.ofChange fnSetAtSpec)

/-- ITS FALSE NEIGHBOUR: 'it returns false'. Refute it at one input. -/
def fnSetAtWrong : ChangeSpec := { name := "fnSetAt", fn := fun _ => fun
  | [d] => { results := [.lit (.bool false)], args := [d] }
  | _ => none }
def FnSetAtWrongFalsely : Prop := fnSetAtRow.holds Try.pinned (OpenSpec.ofChange fnSetAtWrong)

/-- 'laws.FnDeleteAt': WHATEVER THE INPUT: true; the input reads as it did. -/
def fnDeleteAtSpec : ChangeSpec := { name := "fnDeleteAt", fn := fun _ => fun
  | [d] => { results := [.lit (.bool true)], args := [d] }
  | _ => none }
def fnDeleteAtRow : OpenClaim := { program := "ytcipkdegcplmcaa", sum := "478589798f8f8b1c3ca21f1c25b49418bd99988e09287c5cafd298a8c45d2ac0", func := "loop.example/tallychains/laws.FnDeleteAt", spec := "fnDeleteAt", apart := false }
def FnDeleteAtSaid : Prop := fnDeleteAtRow.holds Try.pinned (OpenSpec.ofChange fnDeleteAtSpec)

/-- ITS FALSE NEIGHBOUR: 'it returns false'. Refute it at one input. -/
def fnDeleteAtWrong : ChangeSpec := { name := "fnDeleteAt", fn := fun _ => fun
  | [d] => { results := [.lit (.bool false)], args := [d] }
  | _ => none }
def FnDeleteAtWrongFalsely : Prop := fnDeleteAtRow.holds Try.pinned (OpenSpec.ofChange fnDeleteAtWrong)

/-- 'laws.FnInsertAt': WHATEVER THE INPUT: true; the input reads as it did. -/
def fnInsertAtSpec : ChangeSpec := { name := "fnInsertAt", fn := fun _ => fun
  | [d] => { results := [.lit (.bool true)], args := [d] }
  | _ => none }
def fnInsertAtRow : OpenClaim := { program := "ytcipkdegcplmcaa", sum := "478589798f8f8b1c3ca21f1c25b49418bd99988e09287c5cafd298a8c45d2ac0", func := "loop.example/tallychains/laws.FnInsertAt", spec := "fnInsertAt", apart := false }
def FnInsertAtSaid : Prop := fnInsertAtRow.holds Try.pinned (OpenSpec.ofChange fnInsertAtSpec)

/-- ITS FALSE NEIGHBOUR: 'it returns false'. Refute it at one input. -/
def fnInsertAtWrong : ChangeSpec := { name := "fnInsertAt", fn := fun _ => fun
  | [d] => { results := [.lit (.bool false)], args := [d] }
  | _ => none }
def FnInsertAtWrongFalsely : Prop := fnInsertAtRow.holds Try.pinned (OpenSpec.ofChange fnInsertAtWrong)

/-- 'laws.FnCountIn': WHATEVER THE INPUT: true; the input reads as it did. -/
def fnCountInSpec : ChangeSpec := { name := "fnCountIn", fn := fun _ => fun
  | [d] => { results := [.lit (.bool true)], args := [d] }
  | _ => none }
def fnCountInRow : OpenClaim := { program := "ytcipkdegcplmcaa", sum := "478589798f8f8b1c3ca21f1c25b49418bd99988e09287c5cafd298a8c45d2ac0", func := "loop.example/tallychains/laws.FnCountIn", spec := "fnCountIn", apart := false }
def FnCountInSaid : Prop := fnCountInRow.holds Try.pinned (OpenSpec.ofChange fnCountInSpec)

/-- ITS FALSE NEIGHBOUR: 'it returns false'. Refute it at one input. -/
def fnCountInWrong : ChangeSpec := { name := "fnCountIn", fn := fun _ => fun
  | [d] => { results := [.lit (.bool false)], args := [d] }
  | _ => none }
def FnCountInWrongFalsely : Prop := fnCountInRow.holds Try.pinned (OpenSpec.ofChange fnCountInWrong)

/-- 'laws.FnAddDeques': WHATEVER THE INPUT: true; the input reads as it did. -/
def fnAddDequesSpec : ChangeSpec := { name := "fnAddDeques", fn := fun _ => fun
  | [d] => { results := [.lit (.bool true)], args := [d] }
  | _ => none }
def fnAddDequesRow : OpenClaim := { program := "ytcipkdegcplmcaa", sum := "478589798f8f8b1c3ca21f1c25b49418bd99988e09287c5cafd298a8c45d2ac0", func := "loop.example/tallychains/laws.FnAddDeques", spec := "fnAddDeques", apart := false }
def FnAddDequesSaid : Prop := fnAddDequesRow.holds Try.pinned (OpenSpec.ofChange fnAddDequesSpec)

/-- ITS FALSE NEIGHBOUR: 'it returns false'. Refute it at one input. -/
def fnAddDequesWrong : ChangeSpec := { name := "fnAddDeques", fn := fun _ => fun
  | [d] => { results := [.lit (.bool false)], args := [d] }
  | _ => none }
def FnAddDequesWrongFalsely : Prop := fnAddDequesRow.holds Try.pinned (OpenSpec.ofChange fnAddDequesWrong)

/-- 'laws.FnRepeatDeque': WHATEVER THE INPUT: true; the input reads as it did. -/
def fnRepeatDequeSpec : ChangeSpec := { name := "fnRepeatDeque", fn := fun _ => fun
  | [d] => { results := [.lit (.bool true)], args := [d] }
  | _ => none }
def fnRepeatDequeRow : OpenClaim := { program := "ytcipkdegcplmcaa", sum := "478589798f8f8b1c3ca21f1c25b49418bd99988e09287c5cafd298a8c45d2ac0", func := "loop.example/tallychains/laws.FnRepeatDeque", spec := "fnRepeatDeque", apart := false }
def FnRepeatDequeSaid : Prop := fnRepeatDequeRow.holds Try.pinned (OpenSpec.ofChange fnRepeatDequeSpec)

/-- ITS FALSE NEIGHBOUR: 'it returns false'. Refute it at one input. -/
def fnRepeatDequeWrong : ChangeSpec := { name := "fnRepeatDeque", fn := fun _ => fun
  | [d] => { results := [.lit (.bool false)], args := [d] }
  | _ => none }
def FnRepeatDequeWrongFalsely : Prop := fnRepeatDequeRow.holds Try.pinned (OpenSpec.ofChange fnRepeatDequeWrong)

/-- 'laws.FnCompareDeques': WHATEVER THE INPUT: true; the input reads as it did. -/
def fnCompareDequesSpec : ChangeSpec := { name := "fnCompareDeques", fn := fun _ => fun
  | [d] => { results := [.lit (.bool true)], args := [d] }
  | _ => none }
def fnCompareDequesRow : OpenClaim := { program := "ytcipkdegcplmcaa", sum := "478589798f8f8b1c3ca21f1c25b49418bd99988e09287c5cafd298a8c45d2ac0", func := "loop.example/tallychains/laws.FnCompareDeques", spec := "fnCompareDeques", apart := false }
def FnCompareDequesSaid : Prop := fnCompareDequesRow.holds Try.pinned (OpenSpec.ofChange fnCompareDequesSpec)

/-- ITS FALSE NEIGHBOUR: 'it returns false'. Refute it at one input. -/
def fnCompareDequesWrong : ChangeSpec := { name := "fnCompareDeques", fn := fun _ => fun
  | [d] => { results := [.lit (.bool false)], args := [d] }
  | _ => none }
def FnCompareDequesWrongFalsely : Prop := fnCompareDequesRow.holds Try.pinned (OpenSpec.ofChange fnCompareDequesWrong)

/-- 'laws.FnWindowSums': WHATEVER THE INPUT: true; the input reads as it did. -/
def fnWindowSumsSpec : ChangeSpec := { name := "fnWindowSums", fn := fun _ => fun
  | [d] => { results := [.lit (.bool true)], args := [d] }
  | _ => none }
def fnWindowSumsRow : OpenClaim := { program := "ytcipkdegcplmcaa", sum := "478589798f8f8b1c3ca21f1c25b49418bd99988e09287c5cafd298a8c45d2ac0", func := "loop.example/tallychains/laws.FnWindowSums", spec := "fnWindowSums", apart := false }
def FnWindowSumsSaid : Prop := fnWindowSumsRow.holds Try.pinned (OpenSpec.ofChange fnWindowSumsSpec)

/-- ITS FALSE NEIGHBOUR: 'it returns false'. Refute it at one input. -/
def fnWindowSumsWrong : ChangeSpec := { name := "fnWindowSums", fn := fun _ => fun
  | [d] => { results := [.lit (.bool false)], args := [d] }
  | _ => none }
def FnWindowSumsWrongFalsely : Prop := fnWindowSumsRow.holds Try.pinned (OpenSpec.ofChange fnWindowSumsWrong)

/- THE SECOND FORM. 'bulk': how many values and letters a reading holds, each counted each time it is reached (what is shared counts as often as it is met; a slice's spare places count too). A statement '..UptoSaid' is the law's where the arguments, and the package variables that the reading takes, are together of bulk at most 1048576: NARROWER than '..Said'. Prove '..Said' where nothing that the law and all that it calls make is longer than what came in: it says more and counts as full. Else prove '..UptoSaid'. A law counts once. -/
mutual
def uptoBulk {H : Type} : DataW H → Nat
  | .lit (.string bytes) => bytes.length + 1
  | .lit _ => 1
  | .nil => 1
  | .ptr d => uptoBulk d + 1
  | .slice elems spare => uptoBulkAll elems + uptoBulkAll spare + 1
  | .agg parts => uptoBulkAll parts + 1
  | .iface _ d => uptoBulk d + 1
  | .map entries => uptoBulkEntries entries + 1
  | .held _ => 1
def uptoBulkAll {H : Type} : List (DataW H) → Nat
  | [] => 0
  | d :: r => uptoBulk d + uptoBulkAll r
def uptoBulkEntries {H : Type} : List (Lit × DataW H) → Nat
  | [] => 0
  | x :: r => uptoBulkEntry x + uptoBulkEntries r
def uptoBulkEntry {H : Type} : Lit × DataW H → Nat
  | (.string bytes, d) => bytes.length + uptoBulk d + 1
  | (_, d) => uptoBulk d + 1
 end
def uptoSmall : (H : Type) → List (DataW H) → Bool := fun _ ds => decide (uptoBulkAll ds ≤ 1048576)
def OpenSpec.upto (s : _root_.Go.ChangeSpec) : _root_.Go.OpenSpec := { _root_.Go.OpenSpec.ofChange s with cond := some uptoSmall }

/-- 'laws.FnExtendBack', WHERE WHAT IT READS IS OF BULK AT MOST 1048576: true; the input reads as it did. -/
def fnExtendBackUptoRow : OpenClaim := { program := "ytcipkdegcplmcaa", sum := "478589798f8f8b1c3ca21f1c25b49418bd99988e09287c5cafd298a8c45d2ac0", func := "loop.example/tallychains/laws.FnExtendBack", spec := "fnExtendBack", apart := false, narrowed := true }
def FnExtendBackUptoSaid : Prop := fnExtendBackUptoRow.holds Try.pinned (OpenSpec.upto fnExtendBackSpec)

/-- 'laws.FnExtendFront', WHERE WHAT IT READS IS OF BULK AT MOST 1048576: true; the input reads as it did. -/
def fnExtendFrontUptoRow : OpenClaim := { program := "ytcipkdegcplmcaa", sum := "478589798f8f8b1c3ca21f1c25b49418bd99988e09287c5cafd298a8c45d2ac0", func := "loop.example/tallychains/laws.FnExtendFront", spec := "fnExtendFront", apart := false, narrowed := true }
def FnExtendFrontUptoSaid : Prop := fnExtendFrontUptoRow.holds Try.pinned (OpenSpec.upto fnExtendFrontSpec)

/-- 'laws.FnSetAt', WHERE WHAT IT READS IS OF BULK AT MOST 1048576: true; the input reads as it did. -/
def fnSetAtUptoRow : OpenClaim := { program := "ytcipkdegcplmcaa", sum := "478589798f8f8b1c3ca21f1c25b49418bd99988e09287c5cafd298a8c45d2ac0", func := "loop.example/tallychains/laws.FnSetAt", spec := "fnSetAt", apart := false, narrowed := true }
def FnSetAtUptoSaid : Prop := fnSetAtUptoRow.holds Try.pinned (OpenSpec.upto fnSetAtSpec)

/-- 'laws.FnDeleteAt', WHERE WHAT IT READS IS OF BULK AT MOST 1048576: true; the input reads as it did. -/
def fnDeleteAtUptoRow : OpenClaim := { program := "ytcipkdegcplmcaa", sum := "478589798f8f8b1c3ca21f1c25b49418bd99988e09287c5cafd298a8c45d2ac0", func := "loop.example/tallychains/laws.FnDeleteAt", spec := "fnDeleteAt", apart := false, narrowed := true }
def FnDeleteAtUptoSaid : Prop := fnDeleteAtUptoRow.holds Try.pinned (OpenSpec.upto fnDeleteAtSpec)

/-- 'laws.FnInsertAt', WHERE WHAT IT READS IS OF BULK AT MOST 1048576: true; the input reads as it did. -/
def fnInsertAtUptoRow : OpenClaim := { program := "ytcipkdegcplmcaa", sum := "478589798f8f8b1c3ca21f1c25b49418bd99988e09287c5cafd298a8c45d2ac0", func := "loop.example/tallychains/laws.FnInsertAt", spec := "fnInsertAt", apart := false, narrowed := true }
def FnInsertAtUptoSaid : Prop := fnInsertAtUptoRow.holds Try.pinned (OpenSpec.upto fnInsertAtSpec)

/-- 'laws.FnCountIn', WHERE WHAT IT READS IS OF BULK AT MOST 1048576: true; the input reads as it did. -/
def fnCountInUptoRow : OpenClaim := { program := "ytcipkdegcplmcaa", sum := "478589798f8f8b1c3ca21f1c25b49418bd99988e09287c5cafd298a8c45d2ac0", func := "loop.example/tallychains/laws.FnCountIn", spec := "fnCountIn", apart := false, narrowed := true }
def FnCountInUptoSaid : Prop := fnCountInUptoRow.holds Try.pinned (OpenSpec.upto fnCountInSpec)

/-- 'laws.FnAddDeques', WHERE WHAT IT READS IS OF BULK AT MOST 1048576: true; the input reads as it did. -/
def fnAddDequesUptoRow : OpenClaim := { program := "ytcipkdegcplmcaa", sum := "478589798f8f8b1c3ca21f1c25b49418bd99988e09287c5cafd298a8c45d2ac0", func := "loop.example/tallychains/laws.FnAddDeques", spec := "fnAddDeques", apart := false, narrowed := true }
def FnAddDequesUptoSaid : Prop := fnAddDequesUptoRow.holds Try.pinned (OpenSpec.upto fnAddDequesSpec)

/-- 'laws.FnRepeatDeque', WHERE WHAT IT READS IS OF BULK AT MOST 1048576: true; the input reads as it did. -/
def fnRepeatDequeUptoRow : OpenClaim := { program := "ytcipkdegcplmcaa", sum := "478589798f8f8b1c3ca21f1c25b49418bd99988e09287c5cafd298a8c45d2ac0", func := "loop.example/tallychains/laws.FnRepeatDeque", spec := "fnRepeatDeque", apart := false, narrowed := true }
def FnRepeatDequeUptoSaid : Prop := fnRepeatDequeUptoRow.holds Try.pinned (OpenSpec.upto fnRepeatDequeSpec)

/-- 'laws.FnCompareDeques', WHERE WHAT IT READS IS OF BULK AT MOST 1048576: true; the input reads as it did. -/
def fnCompareDequesUptoRow : OpenClaim := { program := "ytcipkdegcplmcaa", sum := "478589798f8f8b1c3ca21f1c25b49418bd99988e09287c5cafd298a8c45d2ac0", func := "loop.example/tallychains/laws.FnCompareDeques", spec := "fnCompareDeques", apart := false, narrowed := true }
def FnCompareDequesUptoSaid : Prop := fnCompareDequesUptoRow.holds Try.pinned (OpenSpec.upto fnCompareDequesSpec)

/-- 'laws.FnWindowSums', WHERE WHAT IT READS IS OF BULK AT MOST 1048576: true; the input reads as it did. -/
def fnWindowSumsUptoRow : OpenClaim := { program := "ytcipkdegcplmcaa", sum := "478589798f8f8b1c3ca21f1c25b49418bd99988e09287c5cafd298a8c45d2ac0", func := "loop.example/tallychains/laws.FnWindowSums", spec := "fnWindowSums", apart := false, narrowed := true }
def FnWindowSumsUptoSaid : Prop := fnWindowSumsUptoRow.holds Try.pinned (OpenSpec.upto fnWindowSumsSpec)

end Rows
end Go.Proofs.Ytcipkdegcplmcaa
