/-
  No cell of these rows narrows 'for every input' (looked for: loops, veiled, ifaces, maps, wideKeys, modest, calm, conditions, laid).
  DERIVED. THE GIVEN ROWS OF THIS SEAT. 7 by the template 'for every input the law returns true; each argument reads behind the call as it read before'; 0 by the template 'total and deterministic' (their statements: YtmknjiefdhhgkaaTotals.lean).
  GIVEN WITH THE SEED: the statements are not yours to turn. If you find one false, say at which input.
  Laid BY PROGRAM, IN A SANDBOX (cutbox-rows.mjs): the forced cells as the released guide's own fill.sh prints them over the translation 92ae744680b40f8f… (all of the seat's roots in one cut). By AI agents, Wed Nov 11 2026. No macro, syntax, notation, axiom, sorry.
-/
import Derived.Test.YtmknjiefdhhgkaaChecked
import GoSem.Claim
import GoSem.ClaimJoined
import GoSem.ClaimMapViews
import Derived.JoinedTies
import Derived.KernelRfl
namespace Go.Proofs.Ytmknjiefdhhgkaa
/- THE CELL 'sum', in the pinned program and in every row, IS THE sha256 OF THE DUMP (.gsa) THAT YtmknjiefdhhgkaaProg.lean LOADS. Nothing in Lean hashes anything: it is a label: what it is worth is what the hold of that sum in a sandbox is worth. -/
noncomputable def Try.pinned : Pinned := { name := "ytmknjiefdhhgkaa", sum := "92ae744680b40f8f7675820619aa51494462fee277b95f9f84d0ac7d99654011", checked := Try.checked }
namespace Rows
def none {H : Type} : Left H := { results := [], args := [] }

/-- 'bellcranklaw03.MemAccesses': WHATEVER THE INPUT: true; the input reads as it did. -/
def memAccessesSpec : ChangeSpec := { name := "memAccesses", fn := fun _ => fun
  | [d1, d2, d3] => { results := [.lit (.bool true)], args := [d1, d2, d3] }
  | _ => none }
def memAccessesRow : OpenClaim := { program := "ytmknjiefdhhgkaa", sum := "92ae744680b40f8f7675820619aa51494462fee277b95f9f84d0ac7d99654011", func := "bellcrank/bellcranklaw03.MemAccesses", spec := "memAccesses", unfollowed := true, recurses := true, apart := false }
def MemAccessesSaid : Prop := memAccessesRow.holds Try.pinned (OpenSpec.ofChange memAccessesSpec)

/-- ITS FALSE NEIGHBOUR: 'it returns false'. Refute it at one input. -/
def memAccessesWrong : ChangeSpec := { name := "memAccesses", fn := fun _ => fun
  | [d1, d2, d3] => { results := [.lit (.bool false)], args := [d1, d2, d3] }
  | _ => none }
def MemAccessesWrongFalsely : Prop := memAccessesRow.holds Try.pinned (OpenSpec.ofChange memAccessesWrong)

/-- 'bellcranklaw03.MemLoads': WHATEVER THE INPUT: true; the input reads as it did. -/
def memLoadsSpec : ChangeSpec := { name := "memLoads", fn := fun _ => fun
  | [d1, d2] => { results := [.lit (.bool true)], args := [d1, d2] }
  | _ => none }
def memLoadsRow : OpenClaim := { program := "ytmknjiefdhhgkaa", sum := "92ae744680b40f8f7675820619aa51494462fee277b95f9f84d0ac7d99654011", func := "bellcrank/bellcranklaw03.MemLoads", spec := "memLoads", unfollowed := true, recurses := true, apart := false }
def MemLoadsSaid : Prop := memLoadsRow.holds Try.pinned (OpenSpec.ofChange memLoadsSpec)

/-- ITS FALSE NEIGHBOUR: 'it returns false'. Refute it at one input. -/
def memLoadsWrong : ChangeSpec := { name := "memLoads", fn := fun _ => fun
  | [d1, d2] => { results := [.lit (.bool false)], args := [d1, d2] }
  | _ => none }
def MemLoadsWrongFalsely : Prop := memLoadsRow.holds Try.pinned (OpenSpec.ofChange memLoadsWrong)

/-- 'bellcranklaw03.MemStores': WHATEVER THE INPUT: true; the input reads as it did. -/
def memStoresSpec : ChangeSpec := { name := "memStores", fn := fun _ => fun
  | [d1, d2] => { results := [.lit (.bool true)], args := [d1, d2] }
  | _ => none }
def memStoresRow : OpenClaim := { program := "ytmknjiefdhhgkaa", sum := "92ae744680b40f8f7675820619aa51494462fee277b95f9f84d0ac7d99654011", func := "bellcrank/bellcranklaw03.MemStores", spec := "memStores", unfollowed := true, recurses := true, apart := false }
def MemStoresSaid : Prop := memStoresRow.holds Try.pinned (OpenSpec.ofChange memStoresSpec)

/-- ITS FALSE NEIGHBOUR: 'it returns false'. Refute it at one input. -/
def memStoresWrong : ChangeSpec := { name := "memStores", fn := fun _ => fun
  | [d1, d2] => { results := [.lit (.bool false)], args := [d1, d2] }
  | _ => none }
def MemStoresWrongFalsely : Prop := memStoresRow.holds Try.pinned (OpenSpec.ofChange memStoresWrong)

/-- 'bellcranklaw03.MemGrows': WHATEVER THE INPUT: true; the input reads as it did. -/
def memGrowsSpec : ChangeSpec := { name := "memGrows", fn := fun _ => fun
  | [d1, d2, d3] => { results := [.lit (.bool true)], args := [d1, d2, d3] }
  | _ => none }
def memGrowsRow : OpenClaim := { program := "ytmknjiefdhhgkaa", sum := "92ae744680b40f8f7675820619aa51494462fee277b95f9f84d0ac7d99654011", func := "bellcrank/bellcranklaw03.MemGrows", spec := "memGrows", unfollowed := true, recurses := true, apart := false }
def MemGrowsSaid : Prop := memGrowsRow.holds Try.pinned (OpenSpec.ofChange memGrowsSpec)

/-- ITS FALSE NEIGHBOUR: 'it returns false'. Refute it at one input. -/
def memGrowsWrong : ChangeSpec := { name := "memGrows", fn := fun _ => fun
  | [d1, d2, d3] => { results := [.lit (.bool false)], args := [d1, d2, d3] }
  | _ => none }
def MemGrowsWrongFalsely : Prop := memGrowsRow.holds Try.pinned (OpenSpec.ofChange memGrowsWrong)

/-- 'bellcranklaw03.MemBack': WHATEVER THE INPUT: true; the input reads as it did. -/
def memBackSpec : ChangeSpec := { name := "memBack", fn := fun _ => fun
  | [d1, d2] => { results := [.lit (.bool true)], args := [d1, d2] }
  | _ => none }
def memBackRow : OpenClaim := { program := "ytmknjiefdhhgkaa", sum := "92ae744680b40f8f7675820619aa51494462fee277b95f9f84d0ac7d99654011", func := "bellcrank/bellcranklaw03.MemBack", spec := "memBack", unfollowed := true, recurses := true, apart := false }
def MemBackSaid : Prop := memBackRow.holds Try.pinned (OpenSpec.ofChange memBackSpec)

/-- ITS FALSE NEIGHBOUR: 'it returns false'. Refute it at one input. -/
def memBackWrong : ChangeSpec := { name := "memBack", fn := fun _ => fun
  | [d1, d2] => { results := [.lit (.bool false)], args := [d1, d2] }
  | _ => none }
def MemBackWrongFalsely : Prop := memBackRow.holds Try.pinned (OpenSpec.ofChange memBackWrong)

/-- 'bellcranklaw03.MemLonger': WHATEVER THE INPUT: true; the input reads as it did. -/
def memLongerSpec : ChangeSpec := { name := "memLonger", fn := fun _ => fun
  | [d1, d2, d3] => { results := [.lit (.bool true)], args := [d1, d2, d3] }
  | _ => none }
def memLongerRow : OpenClaim := { program := "ytmknjiefdhhgkaa", sum := "92ae744680b40f8f7675820619aa51494462fee277b95f9f84d0ac7d99654011", func := "bellcrank/bellcranklaw03.MemLonger", spec := "memLonger", unfollowed := true, recurses := true, apart := false }
def MemLongerSaid : Prop := memLongerRow.holds Try.pinned (OpenSpec.ofChange memLongerSpec)

/-- ITS FALSE NEIGHBOUR: 'it returns false'. Refute it at one input. -/
def memLongerWrong : ChangeSpec := { name := "memLonger", fn := fun _ => fun
  | [d1, d2, d3] => { results := [.lit (.bool false)], args := [d1, d2, d3] }
  | _ => none }
def MemLongerWrongFalsely : Prop := memLongerRow.holds Try.pinned (OpenSpec.ofChange memLongerWrong)

/-- 'bellcranklaw03.MemOwn': WHATEVER THE INPUT: true; the input reads as it did. -/
def memOwnSpec : ChangeSpec := { name := "memOwn", fn := fun _ => fun
  | [d1, d2] => { results := [.lit (.bool true)], args := [d1, d2] }
  | _ => none }
def memOwnRow : OpenClaim := { program := "ytmknjiefdhhgkaa", sum := "92ae744680b40f8f7675820619aa51494462fee277b95f9f84d0ac7d99654011", func := "bellcrank/bellcranklaw03.MemOwn", spec := "memOwn", unfollowed := true, recurses := true, apart := false }
def MemOwnSaid : Prop := memOwnRow.holds Try.pinned (OpenSpec.ofChange memOwnSpec)

/-- ITS FALSE NEIGHBOUR: 'it returns false'. Refute it at one input. -/
def memOwnWrong : ChangeSpec := { name := "memOwn", fn := fun _ => fun
  | [d1, d2] => { results := [.lit (.bool false)], args := [d1, d2] }
  | _ => none }
def MemOwnWrongFalsely : Prop := memOwnRow.holds Try.pinned (OpenSpec.ofChange memOwnWrong)

/- THE SECOND FORM. 'bulk': how many values and letters a reading holds, each counted each time it is reached (what is shared counts as often as it is met; a slice's spare places count too). A statement '..UptoSaid' is the law's where the arguments, and the package variables that the reading takes, are together of bulk at most 1048576: NARROWER than '..Said'. Prove '..Said' where nothing that the law and all that it calls make is longer than what came in: it says more and counts as full. Else prove '..UptoSaid'. A law counts once. -/
mutual
def uptoBulk {H : Type} : DataW H → Nat
  | .lit (.string bytes) => bytes.length + 1
  | .lit _ => 1
  | .nil => 1
  | .ptr d => uptoBulk d + 1
  | .slice elems spare => uptoBulkAll elems + uptoBulkAll spare + 1
  | .agg parts => uptoBulkAll parts + 1
  | .iface _ d => uptoBulk d + 1
  | .map entries => uptoBulkEntries entries + 1
  | .held _ => 1
def uptoBulkAll {H : Type} : List (DataW H) → Nat
  | [] => 0
  | d :: r => uptoBulk d + uptoBulkAll r
def uptoBulkEntries {H : Type} : List (Lit × DataW H) → Nat
  | [] => 0
  | x :: r => uptoBulkEntry x + uptoBulkEntries r
def uptoBulkEntry {H : Type} : Lit × DataW H → Nat
  | (.string bytes, d) => bytes.length + uptoBulk d + 1
  | (_, d) => uptoBulk d + 1
 end
def uptoSmall : (H : Type) → List (DataW H) → Bool := fun _ ds => decide (uptoBulkAll ds ≤ 1048576)
def OpenSpec.upto (s : _root_.Go.ChangeSpec) : _root_.Go.OpenSpec := { _root_.Go.OpenSpec.ofChange s with cond := some uptoSmall }

/-- 'bellcranklaw03.MemAccesses', WHERE WHAT IT READS IS OF BULK AT MOST 1048576: true; the input reads as it did. -/
def memAccessesUptoRow : OpenClaim := { program := "ytmknjiefdhhgkaa", sum := "92ae744680b40f8f7675820619aa51494462fee277b95f9f84d0ac7d99654011", func := "bellcrank/bellcranklaw03.MemAccesses", spec := "memAccesses", unfollowed := true, recurses := true, apart := false, narrowed := true }
def MemAccessesUptoSaid : Prop := memAccessesUptoRow.holds Try.pinned (OpenSpec.upto memAccessesSpec)

/-- 'bellcranklaw03.MemLoads', WHERE WHAT IT READS IS OF BULK AT MOST 1048576: true; the input reads as it did. -/
def memLoadsUptoRow : OpenClaim := { program := "ytmknjiefdhhgkaa", sum := "92ae744680b40f8f7675820619aa51494462fee277b95f9f84d0ac7d99654011", func := "bellcrank/bellcranklaw03.MemLoads", spec := "memLoads", unfollowed := true, recurses := true, apart := false, narrowed := true }
def MemLoadsUptoSaid : Prop := memLoadsUptoRow.holds Try.pinned (OpenSpec.upto memLoadsSpec)

/-- 'bellcranklaw03.MemStores', WHERE WHAT IT READS IS OF BULK AT MOST 1048576: true; the input reads as it did. -/
def memStoresUptoRow : OpenClaim := { program := "ytmknjiefdhhgkaa", sum := "92ae744680b40f8f7675820619aa51494462fee277b95f9f84d0ac7d99654011", func := "bellcrank/bellcranklaw03.MemStores", spec := "memStores", unfollowed := true, recurses := true, apart := false, narrowed := true }
def MemStoresUptoSaid : Prop := memStoresUptoRow.holds Try.pinned (OpenSpec.upto memStoresSpec)

/-- 'bellcranklaw03.MemGrows', WHERE WHAT IT READS IS OF BULK AT MOST 1048576: true; the input reads as it did. -/
def memGrowsUptoRow : OpenClaim := { program := "ytmknjiefdhhgkaa", sum := "92ae744680b40f8f7675820619aa51494462fee277b95f9f84d0ac7d99654011", func := "bellcrank/bellcranklaw03.MemGrows", spec := "memGrows", unfollowed := true, recurses := true, apart := false, narrowed := true }
def MemGrowsUptoSaid : Prop := memGrowsUptoRow.holds Try.pinned (OpenSpec.upto memGrowsSpec)

/-- 'bellcranklaw03.MemBack', WHERE WHAT IT READS IS OF BULK AT MOST 1048576: true; the input reads as it did. -/
def memBackUptoRow : OpenClaim := { program := "ytmknjiefdhhgkaa", sum := "92ae744680b40f8f7675820619aa51494462fee277b95f9f84d0ac7d99654011", func := "bellcrank/bellcranklaw03.MemBack", spec := "memBack", unfollowed := true, recurses := true, apart := false, narrowed := true }
def MemBackUptoSaid : Prop := memBackUptoRow.holds Try.pinned (OpenSpec.upto memBackSpec)

/-- 'bellcranklaw03.MemLonger', WHERE WHAT IT READS IS OF BULK AT MOST 1048576: true; the input reads as it did. -/
def memLongerUptoRow : OpenClaim := { program := "ytmknjiefdhhgkaa", sum := "92ae744680b40f8f7675820619aa51494462fee277b95f9f84d0ac7d99654011", func := "bellcrank/bellcranklaw03.MemLonger", spec := "memLonger", unfollowed := true, recurses := true, apart := false, narrowed := true }
def MemLongerUptoSaid : Prop := memLongerUptoRow.holds Try.pinned (OpenSpec.upto memLongerSpec)

/-- 'bellcranklaw03.MemOwn', WHERE WHAT IT READS IS OF BULK AT MOST 1048576: true; the input reads as it did. -/
def memOwnUptoRow : OpenClaim := { program := "ytmknjiefdhhgkaa", sum := "92ae744680b40f8f7675820619aa51494462fee277b95f9f84d0ac7d99654011", func := "bellcrank/bellcranklaw03.MemOwn", spec := "memOwn", unfollowed := true, recurses := true, apart := false, narrowed := true }
def MemOwnUptoSaid : Prop := memOwnUptoRow.holds Try.pinned (OpenSpec.upto memOwnSpec)

end Rows
end Go.Proofs.Ytmknjiefdhhgkaa
