/-
  DERIVED. GIVEN WITH THE SEED: THE CARDS: each row of YtgcmdnkmnghhaaaGreatDoorRows.lean that lists a variable, with what it lists TIED to the program's text (the seventh form; the later family's looks); each row that meets fmt, with fmt's text TOLD by the authors' own Lean function (tested against real Go, not proved from fmt's source: count such statements apart). THE CARD IS WHAT COUNTS. Prove the row's statement (the work); the ties are given (YtgcmdnkmnghhaaaGreatDoorTie.lean); close each card by the builder's one call (the guide's Derived/Test/ToyasCard.lean, 'card_holds'). Laid BY PROGRAM, IN A SANDBOX (cutbox-door.mjs). By AI agents, Wed Nov 11 2026. No macro, syntax, notation, axiom, sorry.
-/
import Derived.Test.YtgcmdnkmnghhaaaGreatDoorRows
import GoSem.ClaimSeven
namespace Go.Proofs.YtgcmdnkmnghhaaaGreatDoor
namespace Rows

/-- THE TIED CARD OF 'bellcranklaw04.WasmHeads'. -/
def wasmHeadsCard : Claim7 := { stood := { row := wasmHeadsRow, standIns := [], harness := (true, "a7d55dc6085b87c1de8bb51b565f65120e8f39c5bcc402d906656019da765394"), looks := true }, kinds := [], alts := [], laidByText := true, laidKinds := [.data], laidTests := true, laidLooks := .later }
def WasmHeadsCardSaid : Prop := Claim7.holds Tryz.pinned (.plain (OpenSpec.ofChange wasmHeadsSpec)) wasmHeadsCard

/-- THE TIED CARD OF 'bellcranklaw04.WasmFirst'. -/
def wasmFirstCard : Claim7 := { stood := { row := wasmFirstRow, standIns := [], harness := (true, "a7d55dc6085b87c1de8bb51b565f65120e8f39c5bcc402d906656019da765394"), looks := true }, kinds := [], alts := [], laidByText := true, laidKinds := [.data], laidTests := true, laidLooks := .later }
def WasmFirstCardSaid : Prop := Claim7.holds Tryz.pinned (.plain (OpenSpec.ofChange wasmFirstSpec)) wasmFirstCard

/-- THE TIED CARD OF 'bellcranklaw05.TypingFinds'. -/
def typingFindsCard : Claim7 := { stood := { row := typingFindsRow, standIns := [], harness := (true, "a7d55dc6085b87c1de8bb51b565f65120e8f39c5bcc402d906656019da765394"), looks := true }, kinds := [], alts := [], laidByText := true, laidKinds := [.data], laidTests := true, laidLooks := .later }
def TypingFindsCardSaid : Prop := Claim7.holds Tryz.pinned (.plain (OpenSpec.ofChange typingFindsSpec)) typingFindsCard

/-- THE TIED CARD OF 'bellcranklaw05.TypingExports'. -/
def typingExportsCard : Claim7 := { stood := { row := typingExportsRow, standIns := [], harness := (true, "a7d55dc6085b87c1de8bb51b565f65120e8f39c5bcc402d906656019da765394"), looks := true }, kinds := [], alts := [], laidByText := true, laidKinds := [.data], laidTests := true, laidLooks := .later }
def TypingExportsCardSaid : Prop := Claim7.holds Tryz.pinned (.plain (OpenSpec.ofChange typingExportsSpec)) typingExportsCard

/-- THE TIED CARD OF 'bellcranklaw05.TypingNops'. -/
def typingNopsCard : Claim7 := { stood := { row := typingNopsRow, standIns := [], harness := (true, "a7d55dc6085b87c1de8bb51b565f65120e8f39c5bcc402d906656019da765394"), looks := true }, kinds := [], alts := [], laidByText := true, laidKinds := [.data], laidTests := true, laidLooks := .later }
def TypingNopsCardSaid : Prop := Claim7.holds Tryz.pinned (.plain (OpenSpec.ofChange typingNopsSpec)) typingNopsCard

/-- THE TIED CARD OF 'bellcranklaw05.TypingDead'. -/
def typingDeadCard : Claim7 := { stood := { row := typingDeadRow, standIns := [], harness := (true, "a7d55dc6085b87c1de8bb51b565f65120e8f39c5bcc402d906656019da765394"), looks := true }, kinds := [], alts := [], laidByText := true, laidKinds := [.data], laidTests := true, laidLooks := .later }
def TypingDeadCardSaid : Prop := Claim7.holds Tryz.pinned (.plain (OpenSpec.ofChange typingDeadSpec)) typingDeadCard

/-- THE TIED CARD OF 'bellcranktop.TopRound'. -/
def topRoundCard : Claim7 := { stood := { row := topRoundRow, standIns := [], harness := (true, "a7d55dc6085b87c1de8bb51b565f65120e8f39c5bcc402d906656019da765394"), looks := true }, kinds := [], alts := [], laidByText := true, laidKinds := [.data], laidTests := true, laidLooks := .later }
def TopRoundCardSaid : Prop := Claim7.holds Tryz.pinned (.plain (OpenSpec.ofChange topRoundSpec)) topRoundCard

/-- THE SECOND FORM's CARD OF 'bellcranklaw04.WasmHeads'. -/
def wasmHeadsUptoCard : Claim7 := { stood := { row := wasmHeadsUptoRow, standIns := [], harness := (true, "a7d55dc6085b87c1de8bb51b565f65120e8f39c5bcc402d906656019da765394"), looks := true }, kinds := [], alts := [], laidByText := true, laidKinds := [.data], laidTests := true, laidLooks := .later }
def WasmHeadsUptoCardSaid : Prop := Claim7.holds Tryz.pinned (.plain (OpenSpec.upto wasmHeadsSpec)) wasmHeadsUptoCard

/-- THE SECOND FORM's CARD OF 'bellcranklaw04.WasmFirst'. -/
def wasmFirstUptoCard : Claim7 := { stood := { row := wasmFirstUptoRow, standIns := [], harness := (true, "a7d55dc6085b87c1de8bb51b565f65120e8f39c5bcc402d906656019da765394"), looks := true }, kinds := [], alts := [], laidByText := true, laidKinds := [.data], laidTests := true, laidLooks := .later }
def WasmFirstUptoCardSaid : Prop := Claim7.holds Tryz.pinned (.plain (OpenSpec.upto wasmFirstSpec)) wasmFirstUptoCard

/-- THE SECOND FORM's CARD OF 'bellcranklaw05.TypingFinds'. -/
def typingFindsUptoCard : Claim7 := { stood := { row := typingFindsUptoRow, standIns := [], harness := (true, "a7d55dc6085b87c1de8bb51b565f65120e8f39c5bcc402d906656019da765394"), looks := true }, kinds := [], alts := [], laidByText := true, laidKinds := [.data], laidTests := true, laidLooks := .later }
def TypingFindsUptoCardSaid : Prop := Claim7.holds Tryz.pinned (.plain (OpenSpec.upto typingFindsSpec)) typingFindsUptoCard

/-- THE SECOND FORM's CARD OF 'bellcranklaw05.TypingExports'. -/
def typingExportsUptoCard : Claim7 := { stood := { row := typingExportsUptoRow, standIns := [], harness := (true, "a7d55dc6085b87c1de8bb51b565f65120e8f39c5bcc402d906656019da765394"), looks := true }, kinds := [], alts := [], laidByText := true, laidKinds := [.data], laidTests := true, laidLooks := .later }
def TypingExportsUptoCardSaid : Prop := Claim7.holds Tryz.pinned (.plain (OpenSpec.upto typingExportsSpec)) typingExportsUptoCard

/-- THE SECOND FORM's CARD OF 'bellcranklaw05.TypingNops'. -/
def typingNopsUptoCard : Claim7 := { stood := { row := typingNopsUptoRow, standIns := [], harness := (true, "a7d55dc6085b87c1de8bb51b565f65120e8f39c5bcc402d906656019da765394"), looks := true }, kinds := [], alts := [], laidByText := true, laidKinds := [.data], laidTests := true, laidLooks := .later }
def TypingNopsUptoCardSaid : Prop := Claim7.holds Tryz.pinned (.plain (OpenSpec.upto typingNopsSpec)) typingNopsUptoCard

/-- THE SECOND FORM's CARD OF 'bellcranklaw05.TypingDead'. -/
def typingDeadUptoCard : Claim7 := { stood := { row := typingDeadUptoRow, standIns := [], harness := (true, "a7d55dc6085b87c1de8bb51b565f65120e8f39c5bcc402d906656019da765394"), looks := true }, kinds := [], alts := [], laidByText := true, laidKinds := [.data], laidTests := true, laidLooks := .later }
def TypingDeadUptoCardSaid : Prop := Claim7.holds Tryz.pinned (.plain (OpenSpec.upto typingDeadSpec)) typingDeadUptoCard

/-- THE SECOND FORM's CARD OF 'bellcranktop.TopRound'. -/
def topRoundUptoCard : Claim7 := { stood := { row := topRoundUptoRow, standIns := [], harness := (true, "a7d55dc6085b87c1de8bb51b565f65120e8f39c5bcc402d906656019da765394"), looks := true }, kinds := [], alts := [], laidByText := true, laidKinds := [.data], laidTests := true, laidLooks := .later }
def TopRoundUptoCardSaid : Prop := Claim7.holds Tryz.pinned (.plain (OpenSpec.upto topRoundSpec)) topRoundUptoCard
end Rows
end Go.Proofs.YtgcmdnkmnghhaaaGreatDoor
