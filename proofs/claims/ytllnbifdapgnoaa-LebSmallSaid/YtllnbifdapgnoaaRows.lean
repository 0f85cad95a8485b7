/-
  No cell of these rows narrows 'for every input' (looked for: loops, veiled, ifaces, maps, wideKeys, modest, calm, conditions, laid).
  DERIVED. THE GIVEN ROWS OF THIS SEAT. 7 by the template 'for every input the law returns true; each argument reads behind the call as it read before'; 0 by the template 'total and deterministic' (their statements: YtllnbifdapgnoaaTotals.lean).
  GIVEN WITH THE SEED: the statements are not yours to turn. If you find one false, say at which input.
  Laid BY PROGRAM, IN A SANDBOX (cutbox-rows.mjs): the forced cells as the released guide's own fill.sh prints them over the translation 043d095936bdfba4… (all of the seat's roots in one cut). By AI agents, Wed Nov 11 2026. No macro, syntax, notation, axiom, sorry.
-/
import Derived.Test.YtllnbifdapgnoaaChecked
import GoSem.Claim
import GoSem.ClaimJoined
import GoSem.ClaimMapViews
import Derived.JoinedTies
import Derived.KernelRfl
namespace Go.Proofs.Ytllnbifdapgnoaa
/- THE CELL 'sum', in the pinned program and in every row, IS THE sha256 OF THE DUMP (.gsa) THAT YtllnbifdapgnoaaProg.lean LOADS. Nothing in Lean hashes anything: it is a label: what it is worth is what the hold of that sum in a sandbox is worth. -/
noncomputable def Try.pinned : Pinned := { name := "ytllnbifdapgnoaa", sum := "043d095936bdfba4329bdb24b3c1008047c28d246656cb1e872f981c1e5a2fa5", checked := Try.checked }
namespace Rows
def none {H : Type} : Left H := { results := [], args := [] }

/-- 'bellcranklaw01.LebWrites': WHATEVER THE INPUT: true; the input reads as it did. -/
def lebWritesSpec : ChangeSpec := { name := "lebWrites", fn := fun _ => fun
  | [d1, d2] => { results := [.lit (.bool true)], args := [d1, d2] }
  | _ => none }
def lebWritesRow : OpenClaim := { program := "ytllnbifdapgnoaa", sum := "043d095936bdfba4329bdb24b3c1008047c28d246656cb1e872f981c1e5a2fa5", func := "bellcrank/bellcranklaw01.LebWrites", spec := "lebWrites", apart := false }
def LebWritesSaid : Prop := lebWritesRow.holds Try.pinned (OpenSpec.ofChange lebWritesSpec)

/-- ITS FALSE NEIGHBOUR: 'it returns false'. Refute it at one input. -/
def lebWritesWrong : ChangeSpec := { name := "lebWrites", fn := fun _ => fun
  | [d1, d2] => { results := [.lit (.bool false)], args := [d1, d2] }
  | _ => none }
def LebWritesWrongFalsely : Prop := lebWritesRow.holds Try.pinned (OpenSpec.ofChange lebWritesWrong)

/-- 'bellcranklaw01.LebReads': WHATEVER THE INPUT: true; the input reads as it did. -/
def lebReadsSpec : ChangeSpec := { name := "lebReads", fn := fun _ => fun
  | [d1, d2, d3] => { results := [.lit (.bool true)], args := [d1, d2, d3] }
  | _ => none }
def lebReadsRow : OpenClaim := { program := "ytllnbifdapgnoaa", sum := "043d095936bdfba4329bdb24b3c1008047c28d246656cb1e872f981c1e5a2fa5", func := "bellcrank/bellcranklaw01.LebReads", spec := "lebReads", apart := false }
def LebReadsSaid : Prop := lebReadsRow.holds Try.pinned (OpenSpec.ofChange lebReadsSpec)

/-- ITS FALSE NEIGHBOUR: 'it returns false'. Refute it at one input. -/
def lebReadsWrong : ChangeSpec := { name := "lebReads", fn := fun _ => fun
  | [d1, d2, d3] => { results := [.lit (.bool false)], args := [d1, d2, d3] }
  | _ => none }
def LebReadsWrongFalsely : Prop := lebReadsRow.holds Try.pinned (OpenSpec.ofChange lebReadsWrong)

/-- 'bellcranklaw01.LebBack': WHATEVER THE INPUT: true; the input reads as it did. -/
def lebBackSpec : ChangeSpec := { name := "lebBack", fn := fun _ => fun
  | [d1, d2, d3] => { results := [.lit (.bool true)], args := [d1, d2, d3] }
  | _ => none }
def lebBackRow : OpenClaim := { program := "ytllnbifdapgnoaa", sum := "043d095936bdfba4329bdb24b3c1008047c28d246656cb1e872f981c1e5a2fa5", func := "bellcrank/bellcranklaw01.LebBack", spec := "lebBack", apart := false }
def LebBackSaid : Prop := lebBackRow.holds Try.pinned (OpenSpec.ofChange lebBackSpec)

/-- ITS FALSE NEIGHBOUR: 'it returns false'. Refute it at one input. -/
def lebBackWrong : ChangeSpec := { name := "lebBack", fn := fun _ => fun
  | [d1, d2, d3] => { results := [.lit (.bool false)], args := [d1, d2, d3] }
  | _ => none }
def LebBackWrongFalsely : Prop := lebBackRow.holds Try.pinned (OpenSpec.ofChange lebBackWrong)

/-- 'bellcranklaw01.LebSmall': WHATEVER THE INPUT: true; the input reads as it did. -/
def lebSmallSpec : ChangeSpec := { name := "lebSmall", fn := fun _ => fun
  | [d] => { results := [.lit (.bool true)], args := [d] }
  | _ => none }
def lebSmallRow : OpenClaim := { program := "ytllnbifdapgnoaa", sum := "043d095936bdfba4329bdb24b3c1008047c28d246656cb1e872f981c1e5a2fa5", func := "bellcrank/bellcranklaw01.LebSmall", spec := "lebSmall", apart := false }
def LebSmallSaid : Prop := lebSmallRow.holds Try.pinned (OpenSpec.ofChange lebSmallSpec)

/-- ITS FALSE NEIGHBOUR: 'it returns false'. Refute it at one input. -/
def lebSmallWrong : ChangeSpec := { name := "lebSmall", fn := fun _ => fun
  | [d] => { results := [.lit (.bool false)], args := [d] }
  | _ => none }
def LebSmallWrongFalsely : Prop := lebSmallRow.holds Try.pinned (OpenSpec.ofChange lebSmallWrong)

/-- 'bellcranklaw01.LebHeads': WHATEVER THE INPUT: true; the input reads as it did. -/
def lebHeadsSpec : ChangeSpec := { name := "lebHeads", fn := fun _ => fun
  | [d1, d2] => { results := [.lit (.bool true)], args := [d1, d2] }
  | _ => none }
def lebHeadsRow : OpenClaim := { program := "ytllnbifdapgnoaa", sum := "043d095936bdfba4329bdb24b3c1008047c28d246656cb1e872f981c1e5a2fa5", func := "bellcrank/bellcranklaw01.LebHeads", spec := "lebHeads", apart := false }
def LebHeadsSaid : Prop := lebHeadsRow.holds Try.pinned (OpenSpec.ofChange lebHeadsSpec)

/-- ITS FALSE NEIGHBOUR: 'it returns false'. Refute it at one input. -/
def lebHeadsWrong : ChangeSpec := { name := "lebHeads", fn := fun _ => fun
  | [d1, d2] => { results := [.lit (.bool false)], args := [d1, d2] }
  | _ => none }
def LebHeadsWrongFalsely : Prop := lebHeadsRow.holds Try.pinned (OpenSpec.ofChange lebHeadsWrong)

/-- 'bellcranklaw01.LebPadded': WHATEVER THE INPUT: true; the input reads as it did. -/
def lebPaddedSpec : ChangeSpec := { name := "lebPadded", fn := fun _ => fun
  | [d1, d2] => { results := [.lit (.bool true)], args := [d1, d2] }
  | _ => none }
def lebPaddedRow : OpenClaim := { program := "ytllnbifdapgnoaa", sum := "043d095936bdfba4329bdb24b3c1008047c28d246656cb1e872f981c1e5a2fa5", func := "bellcrank/bellcranklaw01.LebPadded", spec := "lebPadded", apart := false }
def LebPaddedSaid : Prop := lebPaddedRow.holds Try.pinned (OpenSpec.ofChange lebPaddedSpec)

/-- ITS FALSE NEIGHBOUR: 'it returns false'. Refute it at one input. -/
def lebPaddedWrong : ChangeSpec := { name := "lebPadded", fn := fun _ => fun
  | [d1, d2] => { results := [.lit (.bool false)], args := [d1, d2] }
  | _ => none }
def LebPaddedWrongFalsely : Prop := lebPaddedRow.holds Try.pinned (OpenSpec.ofChange lebPaddedWrong)

/-- 'bellcranklaw01.LebOwn': WHATEVER THE INPUT: true; the input reads as it did. -/
def lebOwnSpec : ChangeSpec := { name := "lebOwn", fn := fun _ => fun
  | [d1, d2] => { results := [.lit (.bool true)], args := [d1, d2] }
  | _ => none }
def lebOwnRow : OpenClaim := { program := "ytllnbifdapgnoaa", sum := "043d095936bdfba4329bdb24b3c1008047c28d246656cb1e872f981c1e5a2fa5", func := "bellcrank/bellcranklaw01.LebOwn", spec := "lebOwn", apart := false }
def LebOwnSaid : Prop := lebOwnRow.holds Try.pinned (OpenSpec.ofChange lebOwnSpec)

/-- ITS FALSE NEIGHBOUR: 'it returns false'. Refute it at one input. -/
def lebOwnWrong : ChangeSpec := { name := "lebOwn", fn := fun _ => fun
  | [d1, d2] => { results := [.lit (.bool false)], args := [d1, d2] }
  | _ => none }
def LebOwnWrongFalsely : Prop := lebOwnRow.holds Try.pinned (OpenSpec.ofChange lebOwnWrong)

/- THE SECOND FORM. 'bulk': how many values and letters a reading holds, each counted each time it is reached (what is shared counts as often as it is met; a slice's spare places count too). A statement '..UptoSaid' is the law's where the arguments, and the package variables that the reading takes, are together of bulk at most 1048576: NARROWER than '..Said'. Prove '..Said' where nothing that the law and all that it calls make is longer than what came in: it says more and counts as full. Else prove '..UptoSaid'. A law counts once. -/
mutual
def uptoBulk {H : Type} : DataW H → Nat
  | .lit (.string bytes) => bytes.length + 1
  | .lit _ => 1
  | .nil => 1
  | .ptr d => uptoBulk d + 1
  | .slice elems spare => uptoBulkAll elems + uptoBulkAll spare + 1
  | .agg parts => uptoBulkAll parts + 1
  | .iface _ d => uptoBulk d + 1
  | .map entries => uptoBulkEntries entries + 1
  | .held _ => 1
def uptoBulkAll {H : Type} : List (DataW H) → Nat
  | [] => 0
  | d :: r => uptoBulk d + uptoBulkAll r
def uptoBulkEntries {H : Type} : List (Lit × DataW H) → Nat
  | [] => 0
  | x :: r => uptoBulkEntry x + uptoBulkEntries r
def uptoBulkEntry {H : Type} : Lit × DataW H → Nat
  | (.string bytes, d) => bytes.length + uptoBulk d + 1
  | (_, d) => uptoBulk d + 1
 end
def uptoSmall : (H : Type) → List (DataW H) → Bool := fun _ ds => decide (uptoBulkAll ds ≤ 1048576)
def OpenSpec.upto (s : _root_.Go.ChangeSpec) : _root_.Go.OpenSpec := { _root_.Go.OpenSpec.ofChange s with cond := some uptoSmall }

/-- 'bellcranklaw01.LebWrites', WHERE WHAT IT READS IS OF BULK AT MOST 1048576: true; the input reads as it did. -/
def lebWritesUptoRow : OpenClaim := { program := "ytllnbifdapgnoaa", sum := "043d095936bdfba4329bdb24b3c1008047c28d246656cb1e872f981c1e5a2fa5", func := "bellcrank/bellcranklaw01.LebWrites", spec := "lebWrites", apart := false, narrowed := true }
def LebWritesUptoSaid : Prop := lebWritesUptoRow.holds Try.pinned (OpenSpec.upto lebWritesSpec)

/-- 'bellcranklaw01.LebReads', WHERE WHAT IT READS IS OF BULK AT MOST 1048576: true; the input reads as it did. -/
def lebReadsUptoRow : OpenClaim := { program := "ytllnbifdapgnoaa", sum := "043d095936bdfba4329bdb24b3c1008047c28d246656cb1e872f981c1e5a2fa5", func := "bellcrank/bellcranklaw01.LebReads", spec := "lebReads", apart := false, narrowed := true }
def LebReadsUptoSaid : Prop := lebReadsUptoRow.holds Try.pinned (OpenSpec.upto lebReadsSpec)

/-- 'bellcranklaw01.LebBack', WHERE WHAT IT READS IS OF BULK AT MOST 1048576: true; the input reads as it did. -/
def lebBackUptoRow : OpenClaim := { program := "ytllnbifdapgnoaa", sum := "043d095936bdfba4329bdb24b3c1008047c28d246656cb1e872f981c1e5a2fa5", func := "bellcrank/bellcranklaw01.LebBack", spec := "lebBack", apart := false, narrowed := true }
def LebBackUptoSaid : Prop := lebBackUptoRow.holds Try.pinned (OpenSpec.upto lebBackSpec)

/-- 'bellcranklaw01.LebSmall', WHERE WHAT IT READS IS OF BULK AT MOST 1048576: true; the input reads as it did. -/
def lebSmallUptoRow : OpenClaim := { program := "ytllnbifdapgnoaa", sum := "043d095936bdfba4329bdb24b3c1008047c28d246656cb1e872f981c1e5a2fa5", func := "bellcrank/bellcranklaw01.LebSmall", spec := "lebSmall", apart := false, narrowed := true }
def LebSmallUptoSaid : Prop := lebSmallUptoRow.holds Try.pinned (OpenSpec.upto lebSmallSpec)

/-- 'bellcranklaw01.LebHeads', WHERE WHAT IT READS IS OF BULK AT MOST 1048576: true; the input reads as it did. -/
def lebHeadsUptoRow : OpenClaim := { program := "ytllnbifdapgnoaa", sum := "043d095936bdfba4329bdb24b3c1008047c28d246656cb1e872f981c1e5a2fa5", func := "bellcrank/bellcranklaw01.LebHeads", spec := "lebHeads", apart := false, narrowed := true }
def LebHeadsUptoSaid : Prop := lebHeadsUptoRow.holds Try.pinned (OpenSpec.upto lebHeadsSpec)

/-- 'bellcranklaw01.LebPadded', WHERE WHAT IT READS IS OF BULK AT MOST 1048576: true; the input reads as it did. -/
def lebPaddedUptoRow : OpenClaim := { program := "ytllnbifdapgnoaa", sum := "043d095936bdfba4329bdb24b3c1008047c28d246656cb1e872f981c1e5a2fa5", func := "bellcrank/bellcranklaw01.LebPadded", spec := "lebPadded", apart := false, narrowed := true }
def LebPaddedUptoSaid : Prop := lebPaddedUptoRow.holds Try.pinned (OpenSpec.upto lebPaddedSpec)

/-- 'bellcranklaw01.LebOwn', WHERE WHAT IT READS IS OF BULK AT MOST 1048576: true; the input reads as it did. -/
def lebOwnUptoRow : OpenClaim := { program := "ytllnbifdapgnoaa", sum := "043d095936bdfba4329bdb24b3c1008047c28d246656cb1e872f981c1e5a2fa5", func := "bellcrank/bellcranklaw01.LebOwn", spec := "lebOwn", apart := false, narrowed := true }
def LebOwnUptoSaid : Prop := lebOwnUptoRow.holds Try.pinned (OpenSpec.upto lebOwnSpec)

end Rows
end Go.Proofs.Ytllnbifdapgnoaa
