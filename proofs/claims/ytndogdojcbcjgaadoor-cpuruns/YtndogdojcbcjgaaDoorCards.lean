/-
  DERIVED. GIVEN WITH THE SEED: THE CARDS: each row of YtndogdojcbcjgaaDoorRows.lean that lists a variable, with what it lists TIED to the program's text (the seventh form; the later family's looks); each row that meets fmt, with fmt's text TOLD by the authors' own Lean function (tested against real Go, not proved from fmt's source: count such statements apart). THE CARD IS WHAT COUNTS. Prove the row's statement (the work); the ties are given (YtndogdojcbcjgaaDoorTie.lean); close each card by the builder's one call (the guide's Derived/Test/ToyasCard.lean, 'card_holds'). Laid BY PROGRAM, IN A SANDBOX (cutbox-door.mjs). By AI agents, Wed Nov 11 2026. No macro, syntax, notation, axiom, sorry.
-/
import Derived.Test.YtndogdojcbcjgaaDoorRows
import GoSem.ClaimSeven
namespace Go.Proofs.YtndogdojcbcjgaaDoor
namespace Rows

/-- THE TIED CARD OF 'tierlinelaw.EmitEnters'. -/
def emitEntersCard : Claim7 := { stood := { row := emitEntersRow, standIns := [], harness := (true, "047d181491951cd86e9c7b8fde8128fb70081aedb4fcb81e3a0c459c5f0aee8b"), looks := false }, kinds := [], alts := [], laidByText := true, laidKinds := [.data, .data], laidTests := true, laidLooks := .later }
def EmitEntersCardSaid : Prop := Claim7.holds Tryd.pinned (.plain (OpenSpec.ofChange emitEntersSpec)) emitEntersCard

/-- THE TIED CARD OF 'tierlinelaw.EmitLeaves'. -/
def emitLeavesCard : Claim7 := { stood := { row := emitLeavesRow, standIns := [], harness := (true, "047d181491951cd86e9c7b8fde8128fb70081aedb4fcb81e3a0c459c5f0aee8b"), looks := false }, kinds := [], alts := [], laidByText := true, laidKinds := [.data, .data], laidTests := true, laidLooks := .later }
def EmitLeavesCardSaid : Prop := Claim7.holds Tryd.pinned (.plain (OpenSpec.ofChange emitLeavesSpec)) emitLeavesCard

/-- THE TIED CARD OF 'tierlinekeep.EnterLeave'. -/
def enterLeaveCard : Claim7 := { stood := { row := enterLeaveRow, standIns := [], harness := (true, "047d181491951cd86e9c7b8fde8128fb70081aedb4fcb81e3a0c459c5f0aee8b"), looks := false }, kinds := [], alts := [], laidByText := true, laidKinds := [.data, .data], laidTests := true, laidLooks := .later }
def EnterLeaveCardSaid : Prop := Claim7.holds Tryd.pinned (.plain (OpenSpec.ofChange enterLeaveSpec)) enterLeaveCard

/-- THE TIED CARD OF 'tierlinekeep.FarWalks'. -/
def farWalksCard : Claim7 := { stood := { row := farWalksRow, standIns := [], harness := (true, "047d181491951cd86e9c7b8fde8128fb70081aedb4fcb81e3a0c459c5f0aee8b"), looks := false }, kinds := [], alts := [], laidByText := true, laidKinds := [.data, .data], laidTests := true, laidLooks := .later }
def FarWalksCardSaid : Prop := Claim7.holds Tryd.pinned (.plain (OpenSpec.ofChange farWalksSpec)) farWalksCard

/-- THE TIED CARD OF 'tierlinekeep.EmitParts'. -/
def emitPartsCard : Claim7 := { stood := { row := emitPartsRow, standIns := [], harness := (true, "047d181491951cd86e9c7b8fde8128fb70081aedb4fcb81e3a0c459c5f0aee8b"), looks := false }, kinds := [], alts := [], laidByText := true, laidKinds := [.data, .data], laidTests := true, laidLooks := .later }
def EmitPartsCardSaid : Prop := Claim7.holds Tryd.pinned (.plain (OpenSpec.ofChange emitPartsSpec)) emitPartsCard

/-- THE TIED CARD OF 'tierlinelaw.StepRuns'. -/
def stepRunsCard : Claim7 := { stood := { row := stepRunsRow, standIns := [], harness := (true, "047d181491951cd86e9c7b8fde8128fb70081aedb4fcb81e3a0c459c5f0aee8b"), looks := false }, kinds := [], alts := [], laidByText := true, laidKinds := [.data, .data], laidTests := true, laidLooks := .later }
def StepRunsCardSaid : Prop := Claim7.holds Tryd.pinned (.plain (OpenSpec.ofChange stepRunsSpec)) stepRunsCard

/-- THE TIED CARD OF 'tierlinelaw.ProfileCounts'. -/
def profileCountsCard : Claim7 := { stood := { row := profileCountsRow, standIns := [], harness := (true, "047d181491951cd86e9c7b8fde8128fb70081aedb4fcb81e3a0c459c5f0aee8b"), looks := false }, kinds := [], alts := [], laidByText := true, laidKinds := [.data, .data], laidTests := true, laidLooks := .later }
def ProfileCountsCardSaid : Prop := Claim7.holds Tryd.pinned (.plain (OpenSpec.ofChange profileCountsSpec)) profileCountsCard

/-- THE TIED CARD OF 'tierlinelaw.ProfileHots'. -/
def profileHotsCard : Claim7 := { stood := { row := profileHotsRow, standIns := [], harness := (true, "047d181491951cd86e9c7b8fde8128fb70081aedb4fcb81e3a0c459c5f0aee8b"), looks := false }, kinds := [], alts := [], laidByText := true, laidKinds := [.data, .data], laidTests := true, laidLooks := .later }
def ProfileHotsCardSaid : Prop := Claim7.holds Tryd.pinned (.plain (OpenSpec.ofChange profileHotsSpec)) profileHotsCard

/-- THE TIED CARD OF 'tierlinelaw.CpuSteps'. -/
def cpuStepsCard : Claim7 := { stood := { row := cpuStepsRow, standIns := [], harness := (true, "047d181491951cd86e9c7b8fde8128fb70081aedb4fcb81e3a0c459c5f0aee8b"), looks := false }, kinds := [], alts := [], laidByText := true, laidKinds := [.data, .data], laidTests := true, laidLooks := .later }
def CpuStepsCardSaid : Prop := Claim7.holds Tryd.pinned (.plain (OpenSpec.ofChange cpuStepsSpec)) cpuStepsCard

/-- THE TIED CARD OF 'tierlinelaw.CpuRuns'. -/
def cpuRunsCard : Claim7 := { stood := { row := cpuRunsRow, standIns := [], harness := (true, "047d181491951cd86e9c7b8fde8128fb70081aedb4fcb81e3a0c459c5f0aee8b"), looks := false }, kinds := [], alts := [], laidByText := true, laidKinds := [.data, .data], laidTests := true, laidLooks := .later }
def CpuRunsCardSaid : Prop := Claim7.holds Tryd.pinned (.plain (OpenSpec.ofChange cpuRunsSpec)) cpuRunsCard

/-- THE SECOND FORM's CARD OF 'tierlinelaw.EmitEnters'. -/
def emitEntersUptoCard : Claim7 := { stood := { row := emitEntersUptoRow, standIns := [], harness := (true, "047d181491951cd86e9c7b8fde8128fb70081aedb4fcb81e3a0c459c5f0aee8b"), looks := false }, kinds := [], alts := [], laidByText := true, laidKinds := [.data, .data], laidTests := true, laidLooks := .later }
def EmitEntersUptoCardSaid : Prop := Claim7.holds Tryd.pinned (.plain (OpenSpec.upto emitEntersSpec)) emitEntersUptoCard

/-- THE SECOND FORM's CARD OF 'tierlinelaw.EmitLeaves'. -/
def emitLeavesUptoCard : Claim7 := { stood := { row := emitLeavesUptoRow, standIns := [], harness := (true, "047d181491951cd86e9c7b8fde8128fb70081aedb4fcb81e3a0c459c5f0aee8b"), looks := false }, kinds := [], alts := [], laidByText := true, laidKinds := [.data, .data], laidTests := true, laidLooks := .later }
def EmitLeavesUptoCardSaid : Prop := Claim7.holds Tryd.pinned (.plain (OpenSpec.upto emitLeavesSpec)) emitLeavesUptoCard

/-- THE SECOND FORM's CARD OF 'tierlinekeep.EnterLeave'. -/
def enterLeaveUptoCard : Claim7 := { stood := { row := enterLeaveUptoRow, standIns := [], harness := (true, "047d181491951cd86e9c7b8fde8128fb70081aedb4fcb81e3a0c459c5f0aee8b"), looks := false }, kinds := [], alts := [], laidByText := true, laidKinds := [.data, .data], laidTests := true, laidLooks := .later }
def EnterLeaveUptoCardSaid : Prop := Claim7.holds Tryd.pinned (.plain (OpenSpec.upto enterLeaveSpec)) enterLeaveUptoCard

/-- THE SECOND FORM's CARD OF 'tierlinekeep.FarWalks'. -/
def farWalksUptoCard : Claim7 := { stood := { row := farWalksUptoRow, standIns := [], harness := (true, "047d181491951cd86e9c7b8fde8128fb70081aedb4fcb81e3a0c459c5f0aee8b"), looks := false }, kinds := [], alts := [], laidByText := true, laidKinds := [.data, .data], laidTests := true, laidLooks := .later }
def FarWalksUptoCardSaid : Prop := Claim7.holds Tryd.pinned (.plain (OpenSpec.upto farWalksSpec)) farWalksUptoCard

/-- THE SECOND FORM's CARD OF 'tierlinekeep.EmitParts'. -/
def emitPartsUptoCard : Claim7 := { stood := { row := emitPartsUptoRow, standIns := [], harness := (true, "047d181491951cd86e9c7b8fde8128fb70081aedb4fcb81e3a0c459c5f0aee8b"), looks := false }, kinds := [], alts := [], laidByText := true, laidKinds := [.data, .data], laidTests := true, laidLooks := .later }
def EmitPartsUptoCardSaid : Prop := Claim7.holds Tryd.pinned (.plain (OpenSpec.upto emitPartsSpec)) emitPartsUptoCard

/-- THE SECOND FORM's CARD OF 'tierlinelaw.StepRuns'. -/
def stepRunsUptoCard : Claim7 := { stood := { row := stepRunsUptoRow, standIns := [], harness := (true, "047d181491951cd86e9c7b8fde8128fb70081aedb4fcb81e3a0c459c5f0aee8b"), looks := false }, kinds := [], alts := [], laidByText := true, laidKinds := [.data, .data], laidTests := true, laidLooks := .later }
def StepRunsUptoCardSaid : Prop := Claim7.holds Tryd.pinned (.plain (OpenSpec.upto stepRunsSpec)) stepRunsUptoCard

/-- THE SECOND FORM's CARD OF 'tierlinelaw.ProfileCounts'. -/
def profileCountsUptoCard : Claim7 := { stood := { row := profileCountsUptoRow, standIns := [], harness := (true, "047d181491951cd86e9c7b8fde8128fb70081aedb4fcb81e3a0c459c5f0aee8b"), looks := false }, kinds := [], alts := [], laidByText := true, laidKinds := [.data, .data], laidTests := true, laidLooks := .later }
def ProfileCountsUptoCardSaid : Prop := Claim7.holds Tryd.pinned (.plain (OpenSpec.upto profileCountsSpec)) profileCountsUptoCard

/-- THE SECOND FORM's CARD OF 'tierlinelaw.ProfileHots'. -/
def profileHotsUptoCard : Claim7 := { stood := { row := profileHotsUptoRow, standIns := [], harness := (true, "047d181491951cd86e9c7b8fde8128fb70081aedb4fcb81e3a0c459c5f0aee8b"), looks := false }, kinds := [], alts := [], laidByText := true, laidKinds := [.data, .data], laidTests := true, laidLooks := .later }
def ProfileHotsUptoCardSaid : Prop := Claim7.holds Tryd.pinned (.plain (OpenSpec.upto profileHotsSpec)) profileHotsUptoCard

/-- THE SECOND FORM's CARD OF 'tierlinelaw.CpuSteps'. -/
def cpuStepsUptoCard : Claim7 := { stood := { row := cpuStepsUptoRow, standIns := [], harness := (true, "047d181491951cd86e9c7b8fde8128fb70081aedb4fcb81e3a0c459c5f0aee8b"), looks := false }, kinds := [], alts := [], laidByText := true, laidKinds := [.data, .data], laidTests := true, laidLooks := .later }
def CpuStepsUptoCardSaid : Prop := Claim7.holds Tryd.pinned (.plain (OpenSpec.upto cpuStepsSpec)) cpuStepsUptoCard

/-- THE SECOND FORM's CARD OF 'tierlinelaw.CpuRuns'. -/
def cpuRunsUptoCard : Claim7 := { stood := { row := cpuRunsUptoRow, standIns := [], harness := (true, "047d181491951cd86e9c7b8fde8128fb70081aedb4fcb81e3a0c459c5f0aee8b"), looks := false }, kinds := [], alts := [], laidByText := true, laidKinds := [.data, .data], laidTests := true, laidLooks := .later }
def CpuRunsUptoCardSaid : Prop := Claim7.holds Tryd.pinned (.plain (OpenSpec.upto cpuRunsSpec)) cpuRunsUptoCard
end Rows
end Go.Proofs.YtndogdojcbcjgaaDoor
