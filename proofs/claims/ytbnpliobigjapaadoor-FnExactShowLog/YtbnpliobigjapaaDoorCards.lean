/-
  DERIVED. GIVEN WITH THE SEED: THE CARDS: each row of YtbnpliobigjapaaDoorRows.lean that lists a variable, with what it lists TIED to the program's text (the seventh form; the later family's looks); each row that meets fmt, with fmt's text TOLD by the authors' own Lean function (tested against real Go, not proved from fmt's source: count such statements apart). THE CARD IS WHAT COUNTS. Prove the row's statement (the work); the ties are given (YtbnpliobigjapaaDoorTie.lean); close each card by the builder's one call (the guide's Derived/Test/ToyasCard.lean, 'card_holds'). Laid BY PROGRAM, IN A SANDBOX (cutbox-door.mjs). By AI agents, Wed Nov 11 2026. No macro, syntax, notation, axiom, sorry.
-/
import Derived.Test.YtbnpliobigjapaaDoorRows
import GoSem.ClaimSeven
namespace Go.Proofs.YtbnpliobigjapaaDoor
namespace Rows

/-- THE TIED CARD OF 'laws.FnLogs'. -/
def fnLogsCard : Claim7 := { stood := { row := fnLogsRow, standIns := [], harness := (true, "c533ecf4d6353d6a6b87a537ea14ba4b1afff2d4d1e25549f766d90948dc02ec"), looks := true }, kinds := [], alts := [], laidByText := true, laidKinds := [.data, .data, .data, .sentinel, .sentinel, .sentinel], laidTests := true, laidLooks := .later }
def FnLogsCardSaid : Prop := Claim7.holds Tryd.pinned (.plain (OpenSpec.ofChange fnLogsSpec)) fnLogsCard

/-- THE TIED CARD OF 'laws.FnExactShowLog'. -/
def fnExactShowLogCard : Claim7 := { stood := { row := fnExactShowLogRow, standIns := [], harness := (true, "c533ecf4d6353d6a6b87a537ea14ba4b1afff2d4d1e25549f766d90948dc02ec"), looks := true }, kinds := [], alts := [], laidByText := true, laidKinds := [.data, .data, .data], laidTests := true, laidLooks := .later }
def FnExactShowLogCardSaid : Prop := Claim7.holds Tryd.pinned (.plain (OpenSpec.ofChange fnExactShowLogSpec)) fnExactShowLogCard

/-- THE TIED CARD OF 'laws.FnExactRecovered'. -/
def fnExactRecoveredCard : Claim7 := { stood := { row := fnExactRecoveredRow, standIns := [], harness := (true, "c533ecf4d6353d6a6b87a537ea14ba4b1afff2d4d1e25549f766d90948dc02ec"), looks := true }, kinds := [], alts := [], laidByText := true, laidKinds := [.data, .data, .data, .sentinel, .sentinel, .sentinel], laidTests := true, laidLooks := .later }
def FnExactRecoveredCardSaid : Prop := Claim7.holds Tryd.pinned (.plain (OpenSpec.ofChange fnExactRecoveredSpec)) fnExactRecoveredCard

/-- THE SECOND FORM's CARD OF 'laws.FnLogs'. -/
def fnLogsUptoCard : Claim7 := { stood := { row := fnLogsUptoRow, standIns := [], harness := (true, "c533ecf4d6353d6a6b87a537ea14ba4b1afff2d4d1e25549f766d90948dc02ec"), looks := true }, kinds := [], alts := [], laidByText := true, laidKinds := [.data, .data, .data, .sentinel, .sentinel, .sentinel], laidTests := true, laidLooks := .later }
def FnLogsUptoCardSaid : Prop := Claim7.holds Tryd.pinned (.plain (OpenSpec.upto fnLogsSpec)) fnLogsUptoCard

/-- THE SECOND FORM's CARD OF 'laws.FnExactShowLog'. -/
def fnExactShowLogUptoCard : Claim7 := { stood := { row := fnExactShowLogUptoRow, standIns := [], harness := (true, "c533ecf4d6353d6a6b87a537ea14ba4b1afff2d4d1e25549f766d90948dc02ec"), looks := true }, kinds := [], alts := [], laidByText := true, laidKinds := [.data, .data, .data], laidTests := true, laidLooks := .later }
def FnExactShowLogUptoCardSaid : Prop := Claim7.holds Tryd.pinned (.plain (OpenSpec.upto fnExactShowLogSpec)) fnExactShowLogUptoCard

/-- THE SECOND FORM's CARD OF 'laws.FnExactRecovered'. -/
def fnExactRecoveredUptoCard : Claim7 := { stood := { row := fnExactRecoveredUptoRow, standIns := [], harness := (true, "c533ecf4d6353d6a6b87a537ea14ba4b1afff2d4d1e25549f766d90948dc02ec"), looks := true }, kinds := [], alts := [], laidByText := true, laidKinds := [.data, .data, .data, .sentinel, .sentinel, .sentinel], laidTests := true, laidLooks := .later }
def FnExactRecoveredUptoCardSaid : Prop := Claim7.holds Tryd.pinned (.plain (OpenSpec.upto fnExactRecoveredSpec)) fnExactRecoveredUptoCard
end Rows
end Go.Proofs.YtbnpliobigjapaaDoor
