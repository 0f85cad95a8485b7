/-
  NARROWER THAN 'FOR EVERY INPUT', by the rows' own cells (each row's printed sentence says how): WasmHeads: laid · WasmFirst: laid · TypingFinds: loops, laid · TypingExports: loops, laid · TypingNops: loops, laid · TypingDead: loops, laid · TopRound: laid.
  DERIVED. THE GIVEN ROWS OF THIS SEAT. 7 by the template 'for every input the law returns true; each argument reads behind the call as it read before'; 0 by the template 'total and deterministic' (their statements: YtgcmdnkmnghhaaaGreatDoorTotals.lean).
  GIVEN WITH THE SEED: the statements are not yours to turn. If you find one false, say at which input.
  Laid BY PROGRAM, IN A SANDBOX (cutbox-rows.mjs): the forced cells as the released guide's own fill.sh prints them over the translation 63b25db2ff852cfd… (all of the seat's roots in one cut). By AI agents, Wed Nov 11 2026. No macro, syntax, notation, axiom, sorry.
-/
import Derived.Test.YtgcmdnkmnghhaaaGreatDoorChecked
import GoSem.Claim
import GoSem.ClaimJoined
import GoSem.ClaimMapViews
import Derived.JoinedTies
import Derived.KernelRfl
namespace Go.Proofs.YtgcmdnkmnghhaaaGreatDoor
/- THE CELL 'sum', in the pinned program and in every row, IS THE sha256 OF THE DUMP (.gsa) THAT YtgcmdnkmnghhaaaGreatDoorProg.lean LOADS. Nothing in Lean hashes anything: it is a label: what it is worth is what the hold of that sum in a sandbox is worth. -/
noncomputable def Tryz.pinned : Pinned := { name := "ytgcmdnkmnghhaaagreatdoor", sum := "63b25db2ff852cfddd4020ca98b1ac5665c98b6d4b8c9a159ed3c68b2b2034be", checked := Tryz.checked }
namespace Rows
def none {H : Type} : Left H := { results := [], args := [] }

/- WHAT THE LISTED PACKAGE-LEVEL VARIABLES READ AS WHEN THE CALL BEGINS. Each datum BY PROGRAM (the guide's laid-datum.mjs) off the statement by which the dump's own 'gosem.cut.vars' lays the variable. In a bare row this is a premise. The card (YtgcmdnkmnghhaaaGreatDoorCards.lean) ties it to the program's text. -/
def laid_bellcrank_num_runs {H : Type} : DataW H := .slice [.agg [.lit (.int .i64 69), .lit (.int .i64 69), .lit (.int .i64 69), .lit (.int .i64 127), .lit (.int .i64 1), .lit (.int .i64 127)], .agg [.lit (.int .i64 70), .lit (.int .i64 79), .lit (.int .i64 70), .lit (.int .i64 127), .lit (.int .i64 2), .lit (.int .i64 127)], .agg [.lit (.int .i64 80), .lit (.int .i64 80), .lit (.int .i64 69), .lit (.int .i64 126), .lit (.int .i64 1), .lit (.int .i64 127)], .agg [.lit (.int .i64 81), .lit (.int .i64 90), .lit (.int .i64 70), .lit (.int .i64 126), .lit (.int .i64 2), .lit (.int .i64 127)], .agg [.lit (.int .i64 103), .lit (.int .i64 105), .lit (.int .i64 103), .lit (.int .i64 127), .lit (.int .i64 1), .lit (.int .i64 127)], .agg [.lit (.int .i64 106), .lit (.int .i64 120), .lit (.int .i64 106), .lit (.int .i64 127), .lit (.int .i64 2), .lit (.int .i64 127)], .agg [.lit (.int .i64 121), .lit (.int .i64 123), .lit (.int .i64 103), .lit (.int .i64 126), .lit (.int .i64 1), .lit (.int .i64 126)], .agg [.lit (.int .i64 124), .lit (.int .i64 138), .lit (.int .i64 106), .lit (.int .i64 126), .lit (.int .i64 2), .lit (.int .i64 126)], .agg [.lit (.int .i64 167), .lit (.int .i64 167), .lit (.int .i64 167), .lit (.int .i64 126), .lit (.int .i64 1), .lit (.int .i64 127)], .agg [.lit (.int .i64 172), .lit (.int .i64 173), .lit (.int .i64 172), .lit (.int .i64 127), .lit (.int .i64 1), .lit (.int .i64 126)], .agg [.lit (.int .i64 192), .lit (.int .i64 193), .lit (.int .i64 192), .lit (.int .i64 127), .lit (.int .i64 1), .lit (.int .i64 127)], .agg [.lit (.int .i64 194), .lit (.int .i64 196), .lit (.int .i64 192), .lit (.int .i64 126), .lit (.int .i64 1), .lit (.int .i64 126)]] []

/-- 'bellcranklaw04.WasmHeads': WHATEVER THE INPUT: true; the input reads as it did. -/
def wasmHeadsSpec : ChangeSpec := { name := "wasmHeads", fn := fun _ => fun
  | [d1, d2] => { results := [.lit (.bool true)], args := [d1, d2] }
  | _ => none }
def wasmHeadsRow : OpenClaim := { program := "ytgcmdnkmnghhaaagreatdoor", sum := "63b25db2ff852cfddd4020ca98b1ac5665c98b6d4b8c9a159ed3c68b2b2034be", func := "bellcrank/bellcranklaw04.WasmHeads", spec := "wasmHeads", unfollowed := true, recurses := true, named := ["bellcrank/num.runs"], apart := false, laid := [("bellcrank/num.runs", laid_bellcrank_num_runs)] }
def WasmHeadsSaid : Prop := wasmHeadsRow.holds Tryz.pinned (OpenSpec.ofChange wasmHeadsSpec)

/-- ITS FALSE NEIGHBOUR: 'it returns false'. Refute it at one input. -/
def wasmHeadsWrong : ChangeSpec := { name := "wasmHeads", fn := fun _ => fun
  | [d1, d2] => { results := [.lit (.bool false)], args := [d1, d2] }
  | _ => none }
def WasmHeadsWrongFalsely : Prop := wasmHeadsRow.holds Tryz.pinned (OpenSpec.ofChange wasmHeadsWrong)

/-- 'bellcranklaw04.WasmFirst': WHATEVER THE INPUT: true; the input reads as it did. -/
def wasmFirstSpec : ChangeSpec := { name := "wasmFirst", fn := fun _ => fun
  | [d1, d2, d3] => { results := [.lit (.bool true)], args := [d1, d2, d3] }
  | _ => none }
def wasmFirstRow : OpenClaim := { program := "ytgcmdnkmnghhaaagreatdoor", sum := "63b25db2ff852cfddd4020ca98b1ac5665c98b6d4b8c9a159ed3c68b2b2034be", func := "bellcrank/bellcranklaw04.WasmFirst", spec := "wasmFirst", unfollowed := true, recurses := true, named := ["bellcrank/num.runs"], apart := false, laid := [("bellcrank/num.runs", laid_bellcrank_num_runs)] }
def WasmFirstSaid : Prop := wasmFirstRow.holds Tryz.pinned (OpenSpec.ofChange wasmFirstSpec)

/-- ITS FALSE NEIGHBOUR: 'it returns false'. Refute it at one input. -/
def wasmFirstWrong : ChangeSpec := { name := "wasmFirst", fn := fun _ => fun
  | [d1, d2, d3] => { results := [.lit (.bool false)], args := [d1, d2, d3] }
  | _ => none }
def WasmFirstWrongFalsely : Prop := wasmFirstRow.holds Tryz.pinned (OpenSpec.ofChange wasmFirstWrong)

/-- 'bellcranklaw05.TypingFinds': WHATEVER THE INPUT: true; the input reads as it did. -/
def typingFindsSpec : ChangeSpec := { name := "typingFinds", fn := fun _ => fun
  | [d1, d2, d3] => { results := [.lit (.bool true)], args := [d1, d2, d3] }
  | _ => none }
def typingFindsRow : OpenClaim := { program := "ytgcmdnkmnghhaaagreatdoor", sum := "63b25db2ff852cfddd4020ca98b1ac5665c98b6d4b8c9a159ed3c68b2b2034be", func := "bellcrank/bellcranklaw05.TypingFinds", spec := "typingFinds", unfollowed := true, recurses := true, named := ["bellcrank/num.runs"], loops := true, apart := false, laid := [("bellcrank/num.runs", laid_bellcrank_num_runs)] }
def TypingFindsSaid : Prop := typingFindsRow.holds Tryz.pinned (OpenSpec.ofChange typingFindsSpec)

/-- ITS FALSE NEIGHBOUR: 'it returns false'. Refute it at one input. -/
def typingFindsWrong : ChangeSpec := { name := "typingFinds", fn := fun _ => fun
  | [d1, d2, d3] => { results := [.lit (.bool false)], args := [d1, d2, d3] }
  | _ => none }
def TypingFindsWrongFalsely : Prop := typingFindsRow.holds Tryz.pinned (OpenSpec.ofChange typingFindsWrong)

/-- 'bellcranklaw05.TypingExports': WHATEVER THE INPUT: true; the input reads as it did. -/
def typingExportsSpec : ChangeSpec := { name := "typingExports", fn := fun _ => fun
  | [d] => { results := [.lit (.bool true)], args := [d] }
  | _ => none }
def typingExportsRow : OpenClaim := { program := "ytgcmdnkmnghhaaagreatdoor", sum := "63b25db2ff852cfddd4020ca98b1ac5665c98b6d4b8c9a159ed3c68b2b2034be", func := "bellcrank/bellcranklaw05.TypingExports", spec := "typingExports", unfollowed := true, recurses := true, named := ["bellcrank/num.runs"], loops := true, apart := false, laid := [("bellcrank/num.runs", laid_bellcrank_num_runs)] }
def TypingExportsSaid : Prop := typingExportsRow.holds Tryz.pinned (OpenSpec.ofChange typingExportsSpec)

/-- ITS FALSE NEIGHBOUR: 'it returns false'. Refute it at one input. -/
def typingExportsWrong : ChangeSpec := { name := "typingExports", fn := fun _ => fun
  | [d] => { results := [.lit (.bool false)], args := [d] }
  | _ => none }
def TypingExportsWrongFalsely : Prop := typingExportsRow.holds Tryz.pinned (OpenSpec.ofChange typingExportsWrong)

/-- 'bellcranklaw05.TypingNops': WHATEVER THE INPUT: true; the input reads as it did. -/
def typingNopsSpec : ChangeSpec := { name := "typingNops", fn := fun _ => fun
  | [d1, d2, d3] => { results := [.lit (.bool true)], args := [d1, d2, d3] }
  | _ => none }
def typingNopsRow : OpenClaim := { program := "ytgcmdnkmnghhaaagreatdoor", sum := "63b25db2ff852cfddd4020ca98b1ac5665c98b6d4b8c9a159ed3c68b2b2034be", func := "bellcrank/bellcranklaw05.TypingNops", spec := "typingNops", unfollowed := true, recurses := true, named := ["bellcrank/num.runs"], loops := true, apart := false, laid := [("bellcrank/num.runs", laid_bellcrank_num_runs)] }
def TypingNopsSaid : Prop := typingNopsRow.holds Tryz.pinned (OpenSpec.ofChange typingNopsSpec)

/-- ITS FALSE NEIGHBOUR: 'it returns false'. Refute it at one input. -/
def typingNopsWrong : ChangeSpec := { name := "typingNops", fn := fun _ => fun
  | [d1, d2, d3] => { results := [.lit (.bool false)], args := [d1, d2, d3] }
  | _ => none }
def TypingNopsWrongFalsely : Prop := typingNopsRow.holds Tryz.pinned (OpenSpec.ofChange typingNopsWrong)

/-- 'bellcranklaw05.TypingDead': WHATEVER THE INPUT: true; the input reads as it did. -/
def typingDeadSpec : ChangeSpec := { name := "typingDead", fn := fun _ => fun
  | [d1, d2] => { results := [.lit (.bool true)], args := [d1, d2] }
  | _ => none }
def typingDeadRow : OpenClaim := { program := "ytgcmdnkmnghhaaagreatdoor", sum := "63b25db2ff852cfddd4020ca98b1ac5665c98b6d4b8c9a159ed3c68b2b2034be", func := "bellcrank/bellcranklaw05.TypingDead", spec := "typingDead", unfollowed := true, recurses := true, named := ["bellcrank/num.runs"], loops := true, apart := false, laid := [("bellcrank/num.runs", laid_bellcrank_num_runs)] }
def TypingDeadSaid : Prop := typingDeadRow.holds Tryz.pinned (OpenSpec.ofChange typingDeadSpec)

/-- ITS FALSE NEIGHBOUR: 'it returns false'. Refute it at one input. -/
def typingDeadWrong : ChangeSpec := { name := "typingDead", fn := fun _ => fun
  | [d1, d2] => { results := [.lit (.bool false)], args := [d1, d2] }
  | _ => none }
def TypingDeadWrongFalsely : Prop := typingDeadRow.holds Tryz.pinned (OpenSpec.ofChange typingDeadWrong)

/-- 'bellcranktop.TopRound': WHATEVER THE INPUT: true; the input reads as it did. -/
def topRoundSpec : ChangeSpec := { name := "topRound", fn := fun _ => fun
  | [d] => { results := [.lit (.bool true)], args := [d] }
  | _ => none }
def topRoundRow : OpenClaim := { program := "ytgcmdnkmnghhaaagreatdoor", sum := "63b25db2ff852cfddd4020ca98b1ac5665c98b6d4b8c9a159ed3c68b2b2034be", func := "bellcrank/bellcranktop.TopRound", spec := "topRound", unfollowed := true, recurses := true, named := ["bellcrank/num.runs"], apart := false, laid := [("bellcrank/num.runs", laid_bellcrank_num_runs)] }
def TopRoundSaid : Prop := topRoundRow.holds Tryz.pinned (OpenSpec.ofChange topRoundSpec)

/-- ITS FALSE NEIGHBOUR: 'it returns false'. Refute it at one input. -/
def topRoundWrong : ChangeSpec := { name := "topRound", fn := fun _ => fun
  | [d] => { results := [.lit (.bool false)], args := [d] }
  | _ => none }
def TopRoundWrongFalsely : Prop := topRoundRow.holds Tryz.pinned (OpenSpec.ofChange topRoundWrong)

/- THE SECOND FORM. 'bulk': how many values and letters a reading holds, each counted each time it is reached (what is shared counts as often as it is met; a slice's spare places count too). A statement '..UptoSaid' is the law's where the arguments, and the package variables that the reading takes, are together of bulk at most 1048576: NARROWER than '..Said'. Prove '..Said' where nothing that the law and all that it calls make is longer than what came in: it says more and counts as full. Else prove '..UptoSaid'. A law counts once. -/
mutual
def uptoBulk {H : Type} : DataW H → Nat
  | .lit (.string bytes) => bytes.length + 1
  | .lit _ => 1
  | .nil => 1
  | .ptr d => uptoBulk d + 1
  | .slice elems spare => uptoBulkAll elems + uptoBulkAll spare + 1
  | .agg parts => uptoBulkAll parts + 1
  | .iface _ d => uptoBulk d + 1
  | .map entries => uptoBulkEntries entries + 1
  | .held _ => 1
def uptoBulkAll {H : Type} : List (DataW H) → Nat
  | [] => 0
  | d :: r => uptoBulk d + uptoBulkAll r
def uptoBulkEntries {H : Type} : List (Lit × DataW H) → Nat
  | [] => 0
  | x :: r => uptoBulkEntry x + uptoBulkEntries r
def uptoBulkEntry {H : Type} : Lit × DataW H → Nat
  | (.string bytes, d) => bytes.length + uptoBulk d + 1
  | (_, d) => uptoBulk d + 1
 end
def uptoSmall : (H : Type) → List (DataW H) → Bool := fun _ ds => decide (uptoBulkAll ds ≤ 1048576)
def OpenSpec.upto (s : _root_.Go.ChangeSpec) : _root_.Go.OpenSpec := { _root_.Go.OpenSpec.ofChange s with cond := some uptoSmall }

/-- 'bellcranklaw04.WasmHeads', WHERE WHAT IT READS IS OF BULK AT MOST 1048576: true; the input reads as it did. -/
def wasmHeadsUptoRow : OpenClaim := { program := "ytgcmdnkmnghhaaagreatdoor", sum := "63b25db2ff852cfddd4020ca98b1ac5665c98b6d4b8c9a159ed3c68b2b2034be", func := "bellcrank/bellcranklaw04.WasmHeads", spec := "wasmHeads", unfollowed := true, recurses := true, named := ["bellcrank/num.runs"], apart := false, laid := [("bellcrank/num.runs", laid_bellcrank_num_runs)], narrowed := true }
def WasmHeadsUptoSaid : Prop := wasmHeadsUptoRow.holds Tryz.pinned (OpenSpec.upto wasmHeadsSpec)

/-- 'bellcranklaw04.WasmFirst', WHERE WHAT IT READS IS OF BULK AT MOST 1048576: true; the input reads as it did. -/
def wasmFirstUptoRow : OpenClaim := { program := "ytgcmdnkmnghhaaagreatdoor", sum := "63b25db2ff852cfddd4020ca98b1ac5665c98b6d4b8c9a159ed3c68b2b2034be", func := "bellcrank/bellcranklaw04.WasmFirst", spec := "wasmFirst", unfollowed := true, recurses := true, named := ["bellcrank/num.runs"], apart := false, laid := [("bellcrank/num.runs", laid_bellcrank_num_runs)], narrowed := true }
def WasmFirstUptoSaid : Prop := wasmFirstUptoRow.holds Tryz.pinned (OpenSpec.upto wasmFirstSpec)

/-- 'bellcranklaw05.TypingFinds', WHERE WHAT IT READS IS OF BULK AT MOST 1048576: true; the input reads as it did. -/
def typingFindsUptoRow : OpenClaim := { program := "ytgcmdnkmnghhaaagreatdoor", sum := "63b25db2ff852cfddd4020ca98b1ac5665c98b6d4b8c9a159ed3c68b2b2034be", func := "bellcrank/bellcranklaw05.TypingFinds", spec := "typingFinds", unfollowed := true, recurses := true, named := ["bellcrank/num.runs"], loops := true, apart := false, laid := [("bellcrank/num.runs", laid_bellcrank_num_runs)], narrowed := true }
def TypingFindsUptoSaid : Prop := typingFindsUptoRow.holds Tryz.pinned (OpenSpec.upto typingFindsSpec)

/-- 'bellcranklaw05.TypingExports', WHERE WHAT IT READS IS OF BULK AT MOST 1048576: true; the input reads as it did. -/
def typingExportsUptoRow : OpenClaim := { program := "ytgcmdnkmnghhaaagreatdoor", sum := "63b25db2ff852cfddd4020ca98b1ac5665c98b6d4b8c9a159ed3c68b2b2034be", func := "bellcrank/bellcranklaw05.TypingExports", spec := "typingExports", unfollowed := true, recurses := true, named := ["bellcrank/num.runs"], loops := true, apart := false, laid := [("bellcrank/num.runs", laid_bellcrank_num_runs)], narrowed := true }
def TypingExportsUptoSaid : Prop := typingExportsUptoRow.holds Tryz.pinned (OpenSpec.upto typingExportsSpec)

/-- 'bellcranklaw05.TypingNops', WHERE WHAT IT READS IS OF BULK AT MOST 1048576: true; the input reads as it did. -/
def typingNopsUptoRow : OpenClaim := { program := "ytgcmdnkmnghhaaagreatdoor", sum := "63b25db2ff852cfddd4020ca98b1ac5665c98b6d4b8c9a159ed3c68b2b2034be", func := "bellcrank/bellcranklaw05.TypingNops", spec := "typingNops", unfollowed := true, recurses := true, named := ["bellcrank/num.runs"], loops := true, apart := false, laid := [("bellcrank/num.runs", laid_bellcrank_num_runs)], narrowed := true }
def TypingNopsUptoSaid : Prop := typingNopsUptoRow.holds Tryz.pinned (OpenSpec.upto typingNopsSpec)

/-- 'bellcranklaw05.TypingDead', WHERE WHAT IT READS IS OF BULK AT MOST 1048576: true; the input reads as it did. -/
def typingDeadUptoRow : OpenClaim := { program := "ytgcmdnkmnghhaaagreatdoor", sum := "63b25db2ff852cfddd4020ca98b1ac5665c98b6d4b8c9a159ed3c68b2b2034be", func := "bellcrank/bellcranklaw05.TypingDead", spec := "typingDead", unfollowed := true, recurses := true, named := ["bellcrank/num.runs"], loops := true, apart := false, laid := [("bellcrank/num.runs", laid_bellcrank_num_runs)], narrowed := true }
def TypingDeadUptoSaid : Prop := typingDeadUptoRow.holds Tryz.pinned (OpenSpec.upto typingDeadSpec)

/-- 'bellcranktop.TopRound', WHERE WHAT IT READS IS OF BULK AT MOST 1048576: true; the input reads as it did. -/
def topRoundUptoRow : OpenClaim := { program := "ytgcmdnkmnghhaaagreatdoor", sum := "63b25db2ff852cfddd4020ca98b1ac5665c98b6d4b8c9a159ed3c68b2b2034be", func := "bellcrank/bellcranktop.TopRound", spec := "topRound", unfollowed := true, recurses := true, named := ["bellcrank/num.runs"], apart := false, laid := [("bellcrank/num.runs", laid_bellcrank_num_runs)], narrowed := true }
def TopRoundUptoSaid : Prop := topRoundUptoRow.holds Tryz.pinned (OpenSpec.upto topRoundSpec)

end Rows
end Go.Proofs.YtgcmdnkmnghhaaaGreatDoor
