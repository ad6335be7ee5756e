/-
  No cell of these rows narrows 'for every input' (looked for: loops, veiled, ifaces, maps, wideKeys, modest, calm, conditions, laid).
  DERIVED. THE GIVEN ROWS OF THIS SEAT. 19 by the template 'for every input the law returns true; each argument reads behind the call as it read before'; 0 by the template 'total and deterministic' (their statements: YthmepecmeambmaaGreatTotals.lean).
  GIVEN WITH THE SEED: the statements are not yours to turn. If you find one false, say at which input.
  Laid BY PROGRAM, IN A SANDBOX (cutbox-rows.mjs): the forced cells as the released guide's own fill.sh prints them over the translation 9b7cb522909d58eb… (all of the seat's roots in one cut). By AI agents, Wed Nov 11 2026. No macro, syntax, notation, axiom, sorry.
-/
import Derived.Test.YthmepecmeambmaaGreatChecked
import GoSem.Claim
import GoSem.ClaimJoined
import GoSem.ClaimMapViews
import Derived.JoinedTies
import Derived.KernelRfl
namespace Go.Proofs.YthmepecmeambmaaGreat
/- THE CELL 'sum', in the pinned program and in every row, IS THE sha256 OF THE DUMP (.gsa) THAT YthmepecmeambmaaGreatProg.lean LOADS. Nothing in Lean hashes anything: it is a label: what it is worth is what the hold of that sum in a sandbox is worth. -/
noncomputable def Tryz.pinned : Pinned := { name := "ythmepecmeambmaagreat", sum := "9b7cb522909d58eb3386436da6dfdc6e248254aad8c1c667a06a3de5e97eac81", checked := Tryz.checked }
namespace Rows
def none {H : Type} : Left H := { results := [], args := [] }

/-- 'lanternlaw6.LinkAsks': WHATEVER THE INPUT: true; the input reads as it did. -/
def linkAsksSpec : ChangeSpec := { name := "linkAsks", fn := fun _ => fun
  | [d1, d2] => { results := [.lit (.bool true)], args := [d1, d2] }
  | _ => none }
def linkAsksRow : OpenClaim := { program := "ythmepecmeambmaagreat", sum := "9b7cb522909d58eb3386436da6dfdc6e248254aad8c1c667a06a3de5e97eac81", func := "lantern/lanternlaw6.LinkAsks", spec := "linkAsks", inPlace := ["internal/bytealg.abigen_runtime_cmpstring"], unfollowed := true, recurses := true, apart := false }
def LinkAsksSaid : Prop := linkAsksRow.holds Tryz.pinned (OpenSpec.ofChange linkAsksSpec)

/-- ITS FALSE NEIGHBOUR: 'it returns false'. Refute it at one input. -/
def linkAsksWrong : ChangeSpec := { name := "linkAsks", fn := fun _ => fun
  | [d1, d2] => { results := [.lit (.bool false)], args := [d1, d2] }
  | _ => none }
def LinkAsksWrongFalsely : Prop := linkAsksRow.holds Tryz.pinned (OpenSpec.ofChange linkAsksWrong)

/-- 'lanternlaw6.LinkOrder': WHATEVER THE INPUT: true; the input reads as it did. -/
def linkOrderSpec : ChangeSpec := { name := "linkOrder", fn := fun _ => fun
  | [d1, d2] => { results := [.lit (.bool true)], args := [d1, d2] }
  | _ => none }
def linkOrderRow : OpenClaim := { program := "ythmepecmeambmaagreat", sum := "9b7cb522909d58eb3386436da6dfdc6e248254aad8c1c667a06a3de5e97eac81", func := "lantern/lanternlaw6.LinkOrder", spec := "linkOrder", inPlace := ["internal/bytealg.abigen_runtime_cmpstring"], unfollowed := true, recurses := true, apart := false }
def LinkOrderSaid : Prop := linkOrderRow.holds Tryz.pinned (OpenSpec.ofChange linkOrderSpec)

/-- ITS FALSE NEIGHBOUR: 'it returns false'. Refute it at one input. -/
def linkOrderWrong : ChangeSpec := { name := "linkOrder", fn := fun _ => fun
  | [d1, d2] => { results := [.lit (.bool false)], args := [d1, d2] }
  | _ => none }
def LinkOrderWrongFalsely : Prop := linkOrderRow.holds Tryz.pinned (OpenSpec.ofChange linkOrderWrong)

/-- 'lanternlaw6.LinkFiles': WHATEVER THE INPUT: true; the input reads as it did. -/
def linkFilesSpec : ChangeSpec := { name := "linkFiles", fn := fun _ => fun
  | [d1, d2, d3] => { results := [.lit (.bool true)], args := [d1, d2, d3] }
  | _ => none }
def linkFilesRow : OpenClaim := { program := "ythmepecmeambmaagreat", sum := "9b7cb522909d58eb3386436da6dfdc6e248254aad8c1c667a06a3de5e97eac81", func := "lantern/lanternlaw6.LinkFiles", spec := "linkFiles", inPlace := ["internal/bytealg.abigen_runtime_cmpstring"], unfollowed := true, recurses := true, apart := false }
def LinkFilesSaid : Prop := linkFilesRow.holds Tryz.pinned (OpenSpec.ofChange linkFilesSpec)

/-- ITS FALSE NEIGHBOUR: 'it returns false'. Refute it at one input. -/
def linkFilesWrong : ChangeSpec := { name := "linkFiles", fn := fun _ => fun
  | [d1, d2, d3] => { results := [.lit (.bool false)], args := [d1, d2, d3] }
  | _ => none }
def LinkFilesWrongFalsely : Prop := linkFilesRow.holds Tryz.pinned (OpenSpec.ofChange linkFilesWrong)

/-- 'lanternlaw6.LinkKin': WHATEVER THE INPUT: true; the input reads as it did. -/
def linkKinSpec : ChangeSpec := { name := "linkKin", fn := fun _ => fun
  | [d] => { results := [.lit (.bool true)], args := [d] }
  | _ => none }
def linkKinRow : OpenClaim := { program := "ythmepecmeambmaagreat", sum := "9b7cb522909d58eb3386436da6dfdc6e248254aad8c1c667a06a3de5e97eac81", func := "lantern/lanternlaw6.LinkKin", spec := "linkKin", inPlace := ["internal/bytealg.abigen_runtime_cmpstring"], unfollowed := true, recurses := true, apart := false }
def LinkKinSaid : Prop := linkKinRow.holds Tryz.pinned (OpenSpec.ofChange linkKinSpec)

/-- ITS FALSE NEIGHBOUR: 'it returns false'. Refute it at one input. -/
def linkKinWrong : ChangeSpec := { name := "linkKin", fn := fun _ => fun
  | [d] => { results := [.lit (.bool false)], args := [d] }
  | _ => none }
def LinkKinWrongFalsely : Prop := linkKinRow.holds Tryz.pinned (OpenSpec.ofChange linkKinWrong)

/-- 'lanternlaw6.LinkGiven': WHATEVER THE INPUT: true; the input reads as it did. -/
def linkGivenSpec : ChangeSpec := { name := "linkGiven", fn := fun _ => fun
  | [d] => { results := [.lit (.bool true)], args := [d] }
  | _ => none }
def linkGivenRow : OpenClaim := { program := "ythmepecmeambmaagreat", sum := "9b7cb522909d58eb3386436da6dfdc6e248254aad8c1c667a06a3de5e97eac81", func := "lantern/lanternlaw6.LinkGiven", spec := "linkGiven", inPlace := ["internal/bytealg.abigen_runtime_cmpstring"], unfollowed := true, recurses := true, apart := false }
def LinkGivenSaid : Prop := linkGivenRow.holds Tryz.pinned (OpenSpec.ofChange linkGivenSpec)

/-- ITS FALSE NEIGHBOUR: 'it returns false'. Refute it at one input. -/
def linkGivenWrong : ChangeSpec := { name := "linkGiven", fn := fun _ => fun
  | [d] => { results := [.lit (.bool false)], args := [d] }
  | _ => none }
def LinkGivenWrongFalsely : Prop := linkGivenRow.holds Tryz.pinned (OpenSpec.ofChange linkGivenWrong)

/-- 'lanternlaw6.LinkRings': WHATEVER THE INPUT: true; the input reads as it did. -/
def linkRingsSpec : ChangeSpec := { name := "linkRings", fn := fun _ => fun
  | [d1, d2] => { results := [.lit (.bool true)], args := [d1, d2] }
  | _ => none }
def linkRingsRow : OpenClaim := { program := "ythmepecmeambmaagreat", sum := "9b7cb522909d58eb3386436da6dfdc6e248254aad8c1c667a06a3de5e97eac81", func := "lantern/lanternlaw6.LinkRings", spec := "linkRings", inPlace := ["internal/bytealg.abigen_runtime_cmpstring"], unfollowed := true, recurses := true, apart := false }
def LinkRingsSaid : Prop := linkRingsRow.holds Tryz.pinned (OpenSpec.ofChange linkRingsSpec)

/-- ITS FALSE NEIGHBOUR: 'it returns false'. Refute it at one input. -/
def linkRingsWrong : ChangeSpec := { name := "linkRings", fn := fun _ => fun
  | [d1, d2] => { results := [.lit (.bool false)], args := [d1, d2] }
  | _ => none }
def LinkRingsWrongFalsely : Prop := linkRingsRow.holds Tryz.pinned (OpenSpec.ofChange linkRingsWrong)

/-- 'lanternlaw6.LinkWhole': WHATEVER THE INPUT: true; the input reads as it did. -/
def linkWholeSpec : ChangeSpec := { name := "linkWhole", fn := fun _ => fun
  | [d1, d2, d3] => { results := [.lit (.bool true)], args := [d1, d2, d3] }
  | _ => none }
def linkWholeRow : OpenClaim := { program := "ythmepecmeambmaagreat", sum := "9b7cb522909d58eb3386436da6dfdc6e248254aad8c1c667a06a3de5e97eac81", func := "lantern/lanternlaw6.LinkWhole", spec := "linkWhole", inPlace := ["internal/bytealg.abigen_runtime_cmpstring"], unfollowed := true, recurses := true, apart := false }
def LinkWholeSaid : Prop := linkWholeRow.holds Tryz.pinned (OpenSpec.ofChange linkWholeSpec)

/-- ITS FALSE NEIGHBOUR: 'it returns false'. Refute it at one input. -/
def linkWholeWrong : ChangeSpec := { name := "linkWhole", fn := fun _ => fun
  | [d1, d2, d3] => { results := [.lit (.bool false)], args := [d1, d2, d3] }
  | _ => none }
def LinkWholeWrongFalsely : Prop := linkWholeRow.holds Tryz.pinned (OpenSpec.ofChange linkWholeWrong)

/-- 'lanternlaw6.LinkMany': WHATEVER THE INPUT: true; the input reads as it did. -/
def linkManySpec : ChangeSpec := { name := "linkMany", fn := fun _ => fun
  | [d] => { results := [.lit (.bool true)], args := [d] }
  | _ => none }
def linkManyRow : OpenClaim := { program := "ythmepecmeambmaagreat", sum := "9b7cb522909d58eb3386436da6dfdc6e248254aad8c1c667a06a3de5e97eac81", func := "lantern/lanternlaw6.LinkMany", spec := "linkMany", inPlace := ["internal/bytealg.abigen_runtime_cmpstring"], unfollowed := true, recurses := true, apart := false }
def LinkManySaid : Prop := linkManyRow.holds Tryz.pinned (OpenSpec.ofChange linkManySpec)

/-- ITS FALSE NEIGHBOUR: 'it returns false'. Refute it at one input. -/
def linkManyWrong : ChangeSpec := { name := "linkMany", fn := fun _ => fun
  | [d] => { results := [.lit (.bool false)], args := [d] }
  | _ => none }
def LinkManyWrongFalsely : Prop := linkManyRow.holds Tryz.pinned (OpenSpec.ofChange linkManyWrong)

/-- 'lanternlaw7.SubtypeAsks': WHATEVER THE INPUT: true; the input reads as it did. -/
def subtypeAsksSpec : ChangeSpec := { name := "subtypeAsks", fn := fun _ => fun
  | [d1, d2, d3, d4, d5] => { results := [.lit (.bool true)], args := [d1, d2, d3, d4, d5] }
  | _ => none }
def subtypeAsksRow : OpenClaim := { program := "ythmepecmeambmaagreat", sum := "9b7cb522909d58eb3386436da6dfdc6e248254aad8c1c667a06a3de5e97eac81", func := "lantern/lanternlaw7.SubtypeAsks", spec := "subtypeAsks", inPlace := ["internal/bytealg.abigen_runtime_cmpstring", "internal/abi.NoEscape", "internal/bytealg.MakeNoZero"], unfollowed := true, recurses := true, apart := false }
def SubtypeAsksSaid : Prop := subtypeAsksRow.holds Tryz.pinned (OpenSpec.ofChange subtypeAsksSpec)

/-- ITS FALSE NEIGHBOUR: 'it returns false'. Refute it at one input. -/
def subtypeAsksWrong : ChangeSpec := { name := "subtypeAsks", fn := fun _ => fun
  | [d1, d2, d3, d4, d5] => { results := [.lit (.bool false)], args := [d1, d2, d3, d4, d5] }
  | _ => none }
def SubtypeAsksWrongFalsely : Prop := subtypeAsksRow.holds Tryz.pinned (OpenSpec.ofChange subtypeAsksWrong)

/-- 'lanternlaw7.SubtypeOrder': WHATEVER THE INPUT: true; the input reads as it did. -/
def subtypeOrderSpec : ChangeSpec := { name := "subtypeOrder", fn := fun _ => fun
  | [d1, d2, d3, d4] => { results := [.lit (.bool true)], args := [d1, d2, d3, d4] }
  | _ => none }
def subtypeOrderRow : OpenClaim := { program := "ythmepecmeambmaagreat", sum := "9b7cb522909d58eb3386436da6dfdc6e248254aad8c1c667a06a3de5e97eac81", func := "lantern/lanternlaw7.SubtypeOrder", spec := "subtypeOrder", inPlace := ["internal/bytealg.abigen_runtime_cmpstring", "internal/abi.NoEscape", "internal/bytealg.MakeNoZero"], unfollowed := true, recurses := true, apart := false }
def SubtypeOrderSaid : Prop := subtypeOrderRow.holds Tryz.pinned (OpenSpec.ofChange subtypeOrderSpec)

/-- ITS FALSE NEIGHBOUR: 'it returns false'. Refute it at one input. -/
def subtypeOrderWrong : ChangeSpec := { name := "subtypeOrder", fn := fun _ => fun
  | [d1, d2, d3, d4] => { results := [.lit (.bool false)], args := [d1, d2, d3, d4] }
  | _ => none }
def SubtypeOrderWrongFalsely : Prop := subtypeOrderRow.holds Tryz.pinned (OpenSpec.ofChange subtypeOrderWrong)

/-- 'lanternlaw7.SubtypeMerge': WHATEVER THE INPUT: true; the input reads as it did. -/
def subtypeMergeSpec : ChangeSpec := { name := "subtypeMerge", fn := fun _ => fun
  | [d1, d2, d3, d4] => { results := [.lit (.bool true)], args := [d1, d2, d3, d4] }
  | _ => none }
def subtypeMergeRow : OpenClaim := { program := "ythmepecmeambmaagreat", sum := "9b7cb522909d58eb3386436da6dfdc6e248254aad8c1c667a06a3de5e97eac81", func := "lantern/lanternlaw7.SubtypeMerge", spec := "subtypeMerge", inPlace := ["internal/bytealg.abigen_runtime_cmpstring", "internal/abi.NoEscape", "internal/bytealg.MakeNoZero"], unfollowed := true, recurses := true, apart := false }
def SubtypeMergeSaid : Prop := subtypeMergeRow.holds Tryz.pinned (OpenSpec.ofChange subtypeMergeSpec)

/-- ITS FALSE NEIGHBOUR: 'it returns false'. Refute it at one input. -/
def subtypeMergeWrong : ChangeSpec := { name := "subtypeMerge", fn := fun _ => fun
  | [d1, d2, d3, d4] => { results := [.lit (.bool false)], args := [d1, d2, d3, d4] }
  | _ => none }
def SubtypeMergeWrongFalsely : Prop := subtypeMergeRow.holds Tryz.pinned (OpenSpec.ofChange subtypeMergeWrong)

/-- 'lanternlaw7.SubtypeArrays': WHATEVER THE INPUT: true; the input reads as it did. -/
def subtypeArraysSpec : ChangeSpec := { name := "subtypeArrays", fn := fun _ => fun
  | [d1, d2, d3, d4] => { results := [.lit (.bool true)], args := [d1, d2, d3, d4] }
  | _ => none }
def subtypeArraysRow : OpenClaim := { program := "ythmepecmeambmaagreat", sum := "9b7cb522909d58eb3386436da6dfdc6e248254aad8c1c667a06a3de5e97eac81", func := "lantern/lanternlaw7.SubtypeArrays", spec := "subtypeArrays", inPlace := ["internal/bytealg.abigen_runtime_cmpstring", "internal/abi.NoEscape", "internal/bytealg.MakeNoZero"], unfollowed := true, recurses := true, apart := false }
def SubtypeArraysSaid : Prop := subtypeArraysRow.holds Tryz.pinned (OpenSpec.ofChange subtypeArraysSpec)

/-- ITS FALSE NEIGHBOUR: 'it returns false'. Refute it at one input. -/
def subtypeArraysWrong : ChangeSpec := { name := "subtypeArrays", fn := fun _ => fun
  | [d1, d2, d3, d4] => { results := [.lit (.bool false)], args := [d1, d2, d3, d4] }
  | _ => none }
def SubtypeArraysWrongFalsely : Prop := subtypeArraysRow.holds Tryz.pinned (OpenSpec.ofChange subtypeArraysWrong)

/-- 'lanternlaw7.SubtypeNothing': WHATEVER THE INPUT: true; the input reads as it did. -/
def subtypeNothingSpec : ChangeSpec := { name := "subtypeNothing", fn := fun _ => fun
  | [d1, d2] => { results := [.lit (.bool true)], args := [d1, d2] }
  | _ => none }
def subtypeNothingRow : OpenClaim := { program := "ythmepecmeambmaagreat", sum := "9b7cb522909d58eb3386436da6dfdc6e248254aad8c1c667a06a3de5e97eac81", func := "lantern/lanternlaw7.SubtypeNothing", spec := "subtypeNothing", inPlace := ["internal/bytealg.abigen_runtime_cmpstring", "internal/abi.NoEscape", "internal/bytealg.MakeNoZero"], unfollowed := true, recurses := true, apart := false }
def SubtypeNothingSaid : Prop := subtypeNothingRow.holds Tryz.pinned (OpenSpec.ofChange subtypeNothingSpec)

/-- ITS FALSE NEIGHBOUR: 'it returns false'. Refute it at one input. -/
def subtypeNothingWrong : ChangeSpec := { name := "subtypeNothing", fn := fun _ => fun
  | [d1, d2] => { results := [.lit (.bool false)], args := [d1, d2] }
  | _ => none }
def SubtypeNothingWrongFalsely : Prop := subtypeNothingRow.holds Tryz.pinned (OpenSpec.ofChange subtypeNothingWrong)

/-- 'lanternlaw7.SubtypeTree': WHATEVER THE INPUT: true; the input reads as it did. -/
def subtypeTreeSpec : ChangeSpec := { name := "subtypeTree", fn := fun _ => fun
  | [d1, d2, d3, d4] => { results := [.lit (.bool true)], args := [d1, d2, d3, d4] }
  | _ => none }
def subtypeTreeRow : OpenClaim := { program := "ythmepecmeambmaagreat", sum := "9b7cb522909d58eb3386436da6dfdc6e248254aad8c1c667a06a3de5e97eac81", func := "lantern/lanternlaw7.SubtypeTree", spec := "subtypeTree", inPlace := ["internal/bytealg.abigen_runtime_cmpstring", "internal/abi.NoEscape", "internal/bytealg.MakeNoZero"], unfollowed := true, recurses := true, apart := false }
def SubtypeTreeSaid : Prop := subtypeTreeRow.holds Tryz.pinned (OpenSpec.ofChange subtypeTreeSpec)

/-- ITS FALSE NEIGHBOUR: 'it returns false'. Refute it at one input. -/
def subtypeTreeWrong : ChangeSpec := { name := "subtypeTree", fn := fun _ => fun
  | [d1, d2, d3, d4] => { results := [.lit (.bool false)], args := [d1, d2, d3, d4] }
  | _ => none }
def SubtypeTreeWrongFalsely : Prop := subtypeTreeRow.holds Tryz.pinned (OpenSpec.ofChange subtypeTreeWrong)

/-- 'lanternlaw8.ResolveAsks': WHATEVER THE INPUT: true; the input reads as it did. -/
def resolveAsksSpec : ChangeSpec := { name := "resolveAsks", fn := fun _ => fun
  | [d1, d2, d3, d4, d5, d6] => { results := [.lit (.bool true)], args := [d1, d2, d3, d4, d5, d6] }
  | _ => none }
def resolveAsksRow : OpenClaim := { program := "ythmepecmeambmaagreat", sum := "9b7cb522909d58eb3386436da6dfdc6e248254aad8c1c667a06a3de5e97eac81", func := "lantern/lanternlaw8.ResolveAsks", spec := "resolveAsks", inPlace := ["internal/bytealg.abigen_runtime_cmpstring"], unfollowed := true, recurses := true, apart := false }
def ResolveAsksSaid : Prop := resolveAsksRow.holds Tryz.pinned (OpenSpec.ofChange resolveAsksSpec)

/-- ITS FALSE NEIGHBOUR: 'it returns false'. Refute it at one input. -/
def resolveAsksWrong : ChangeSpec := { name := "resolveAsks", fn := fun _ => fun
  | [d1, d2, d3, d4, d5, d6] => { results := [.lit (.bool false)], args := [d1, d2, d3, d4, d5, d6] }
  | _ => none }
def ResolveAsksWrongFalsely : Prop := resolveAsksRow.holds Tryz.pinned (OpenSpec.ofChange resolveAsksWrong)

/-- 'lanternlaw8.ResolveDispatch': WHATEVER THE INPUT: true; the input reads as it did. -/
def resolveDispatchSpec : ChangeSpec := { name := "resolveDispatch", fn := fun _ => fun
  | [d] => { results := [.lit (.bool true)], args := [d] }
  | _ => none }
def resolveDispatchRow : OpenClaim := { program := "ythmepecmeambmaagreat", sum := "9b7cb522909d58eb3386436da6dfdc6e248254aad8c1c667a06a3de5e97eac81", func := "lantern/lanternlaw8.ResolveDispatch", spec := "resolveDispatch", inPlace := ["internal/bytealg.abigen_runtime_cmpstring"], unfollowed := true, recurses := true, apart := false }
def ResolveDispatchSaid : Prop := resolveDispatchRow.holds Tryz.pinned (OpenSpec.ofChange resolveDispatchSpec)

/-- ITS FALSE NEIGHBOUR: 'it returns false'. Refute it at one input. -/
def resolveDispatchWrong : ChangeSpec := { name := "resolveDispatch", fn := fun _ => fun
  | [d] => { results := [.lit (.bool false)], args := [d] }
  | _ => none }
def ResolveDispatchWrongFalsely : Prop := resolveDispatchRow.holds Tryz.pinned (OpenSpec.ofChange resolveDispatchWrong)

/-- 'lanternlaw8.ResolveCalls': WHATEVER THE INPUT: true; the input reads as it did. -/
def resolveCallsSpec : ChangeSpec := { name := "resolveCalls", fn := fun _ => fun
  | [d1, d2] => { results := [.lit (.bool true)], args := [d1, d2] }
  | _ => none }
def resolveCallsRow : OpenClaim := { program := "ythmepecmeambmaagreat", sum := "9b7cb522909d58eb3386436da6dfdc6e248254aad8c1c667a06a3de5e97eac81", func := "lantern/lanternlaw8.ResolveCalls", spec := "resolveCalls", inPlace := ["internal/bytealg.abigen_runtime_cmpstring"], unfollowed := true, recurses := true, apart := false }
def ResolveCallsSaid : Prop := resolveCallsRow.holds Tryz.pinned (OpenSpec.ofChange resolveCallsSpec)

/-- ITS FALSE NEIGHBOUR: 'it returns false'. Refute it at one input. -/
def resolveCallsWrong : ChangeSpec := { name := "resolveCalls", fn := fun _ => fun
  | [d1, d2] => { results := [.lit (.bool false)], args := [d1, d2] }
  | _ => none }
def ResolveCallsWrongFalsely : Prop := resolveCallsRow.holds Tryz.pinned (OpenSpec.ofChange resolveCallsWrong)

/-- 'lanternlaw8.ResolveNothing': WHATEVER THE INPUT: true; the input reads as it did. -/
def resolveNothingSpec : ChangeSpec := { name := "resolveNothing", fn := fun _ => fun
  | [d1, d2, d3, d4] => { results := [.lit (.bool true)], args := [d1, d2, d3, d4] }
  | _ => none }
def resolveNothingRow : OpenClaim := { program := "ythmepecmeambmaagreat", sum := "9b7cb522909d58eb3386436da6dfdc6e248254aad8c1c667a06a3de5e97eac81", func := "lantern/lanternlaw8.ResolveNothing", spec := "resolveNothing", inPlace := ["internal/bytealg.abigen_runtime_cmpstring"], unfollowed := true, recurses := true, apart := false }
def ResolveNothingSaid : Prop := resolveNothingRow.holds Tryz.pinned (OpenSpec.ofChange resolveNothingSpec)

/-- ITS FALSE NEIGHBOUR: 'it returns false'. Refute it at one input. -/
def resolveNothingWrong : ChangeSpec := { name := "resolveNothing", fn := fun _ => fun
  | [d1, d2, d3, d4] => { results := [.lit (.bool false)], args := [d1, d2, d3, d4] }
  | _ => none }
def ResolveNothingWrongFalsely : Prop := resolveNothingRow.holds Tryz.pinned (OpenSpec.ofChange resolveNothingWrong)

/-- 'lanternlaw8.ResolveNear': WHATEVER THE INPUT: true; the input reads as it did. -/
def resolveNearSpec : ChangeSpec := { name := "resolveNear", fn := fun _ => fun
  | [d1, d2, d3] => { results := [.lit (.bool true)], args := [d1, d2, d3] }
  | _ => none }
def resolveNearRow : OpenClaim := { program := "ythmepecmeambmaagreat", sum := "9b7cb522909d58eb3386436da6dfdc6e248254aad8c1c667a06a3de5e97eac81", func := "lantern/lanternlaw8.ResolveNear", spec := "resolveNear", inPlace := ["internal/bytealg.abigen_runtime_cmpstring"], unfollowed := true, recurses := true, apart := false }
def ResolveNearSaid : Prop := resolveNearRow.holds Tryz.pinned (OpenSpec.ofChange resolveNearSpec)

/-- ITS FALSE NEIGHBOUR: 'it returns false'. Refute it at one input. -/
def resolveNearWrong : ChangeSpec := { name := "resolveNear", fn := fun _ => fun
  | [d1, d2, d3] => { results := [.lit (.bool false)], args := [d1, d2, d3] }
  | _ => none }
def ResolveNearWrongFalsely : Prop := resolveNearRow.holds Tryz.pinned (OpenSpec.ofChange resolveNearWrong)

/- THE SECOND FORM. 'bulk': how many values and letters a reading holds, each counted each time it is reached (what is shared counts as often as it is met; a slice's spare places count too). A statement '..UptoSaid' is the law's where the arguments, and the package variables that the reading takes, are together of bulk at most 1048576: NARROWER than '..Said'. Prove '..Said' where nothing that the law and all that it calls make is longer than what came in: it says more and counts as full. Else prove '..UptoSaid'. A law counts once. -/
mutual
def uptoBulk {H : Type} : DataW H → Nat
  | .lit (.string bytes) => bytes.length + 1
  | .lit _ => 1
  | .nil => 1
  | .ptr d => uptoBulk d + 1
  | .slice elems spare => uptoBulkAll elems + uptoBulkAll spare + 1
  | .agg parts => uptoBulkAll parts + 1
  | .iface _ d => uptoBulk d + 1
  | .map entries => uptoBulkEntries entries + 1
  | .held _ => 1
def uptoBulkAll {H : Type} : List (DataW H) → Nat
  | [] => 0
  | d :: r => uptoBulk d + uptoBulkAll r
def uptoBulkEntries {H : Type} : List (Lit × DataW H) → Nat
  | [] => 0
  | x :: r => uptoBulkEntry x + uptoBulkEntries r
def uptoBulkEntry {H : Type} : Lit × DataW H → Nat
  | (.string bytes, d) => bytes.length + uptoBulk d + 1
  | (_, d) => uptoBulk d + 1
 end
def uptoSmall : (H : Type) → List (DataW H) → Bool := fun _ ds => decide (uptoBulkAll ds ≤ 1048576)
def OpenSpec.upto (s : _root_.Go.ChangeSpec) : _root_.Go.OpenSpec := { _root_.Go.OpenSpec.ofChange s with cond := some uptoSmall }

/-- 'lanternlaw6.LinkAsks', WHERE WHAT IT READS IS OF BULK AT MOST 1048576: true; the input reads as it did. -/
def linkAsksUptoRow : OpenClaim := { program := "ythmepecmeambmaagreat", sum := "9b7cb522909d58eb3386436da6dfdc6e248254aad8c1c667a06a3de5e97eac81", func := "lantern/lanternlaw6.LinkAsks", spec := "linkAsks", inPlace := ["internal/bytealg.abigen_runtime_cmpstring"], unfollowed := true, recurses := true, apart := false, narrowed := true }
def LinkAsksUptoSaid : Prop := linkAsksUptoRow.holds Tryz.pinned (OpenSpec.upto linkAsksSpec)

/-- 'lanternlaw6.LinkOrder', WHERE WHAT IT READS IS OF BULK AT MOST 1048576: true; the input reads as it did. -/
def linkOrderUptoRow : OpenClaim := { program := "ythmepecmeambmaagreat", sum := "9b7cb522909d58eb3386436da6dfdc6e248254aad8c1c667a06a3de5e97eac81", func := "lantern/lanternlaw6.LinkOrder", spec := "linkOrder", inPlace := ["internal/bytealg.abigen_runtime_cmpstring"], unfollowed := true, recurses := true, apart := false, narrowed := true }
def LinkOrderUptoSaid : Prop := linkOrderUptoRow.holds Tryz.pinned (OpenSpec.upto linkOrderSpec)

/-- 'lanternlaw6.LinkFiles', WHERE WHAT IT READS IS OF BULK AT MOST 1048576: true; the input reads as it did. -/
def linkFilesUptoRow : OpenClaim := { program := "ythmepecmeambmaagreat", sum := "9b7cb522909d58eb3386436da6dfdc6e248254aad8c1c667a06a3de5e97eac81", func := "lantern/lanternlaw6.LinkFiles", spec := "linkFiles", inPlace := ["internal/bytealg.abigen_runtime_cmpstring"], unfollowed := true, recurses := true, apart := false, narrowed := true }
def LinkFilesUptoSaid : Prop := linkFilesUptoRow.holds Tryz.pinned (OpenSpec.upto linkFilesSpec)

/-- 'lanternlaw6.LinkKin', WHERE WHAT IT READS IS OF BULK AT MOST 1048576: true; the input reads as it did. -/
def linkKinUptoRow : OpenClaim := { program := "ythmepecmeambmaagreat", sum := "9b7cb522909d58eb3386436da6dfdc6e248254aad8c1c667a06a3de5e97eac81", func := "lantern/lanternlaw6.LinkKin", spec := "linkKin", inPlace := ["internal/bytealg.abigen_runtime_cmpstring"], unfollowed := true, recurses := true, apart := false, narrowed := true }
def LinkKinUptoSaid : Prop := linkKinUptoRow.holds Tryz.pinned (OpenSpec.upto linkKinSpec)

/-- 'lanternlaw6.LinkGiven', WHERE WHAT IT READS IS OF BULK AT MOST 1048576: true; the input reads as it did. -/
def linkGivenUptoRow : OpenClaim := { program := "ythmepecmeambmaagreat", sum := "9b7cb522909d58eb3386436da6dfdc6e248254aad8c1c667a06a3de5e97eac81", func := "lantern/lanternlaw6.LinkGiven", spec := "linkGiven", inPlace := ["internal/bytealg.abigen_runtime_cmpstring"], unfollowed := true, recurses := true, apart := false, narrowed := true }
def LinkGivenUptoSaid : Prop := linkGivenUptoRow.holds Tryz.pinned (OpenSpec.upto linkGivenSpec)

/-- 'lanternlaw6.LinkRings', WHERE WHAT IT READS IS OF BULK AT MOST 1048576: true; the input reads as it did. -/
def linkRingsUptoRow : OpenClaim := { program := "ythmepecmeambmaagreat", sum := "9b7cb522909d58eb3386436da6dfdc6e248254aad8c1c667a06a3de5e97eac81", func := "lantern/lanternlaw6.LinkRings", spec := "linkRings", inPlace := ["internal/bytealg.abigen_runtime_cmpstring"], unfollowed := true, recurses := true, apart := false, narrowed := true }
def LinkRingsUptoSaid : Prop := linkRingsUptoRow.holds Tryz.pinned (OpenSpec.upto linkRingsSpec)

/-- 'lanternlaw6.LinkWhole', WHERE WHAT IT READS IS OF BULK AT MOST 1048576: true; the input reads as it did. -/
def linkWholeUptoRow : OpenClaim := { program := "ythmepecmeambmaagreat", sum := "9b7cb522909d58eb3386436da6dfdc6e248254aad8c1c667a06a3de5e97eac81", func := "lantern/lanternlaw6.LinkWhole", spec := "linkWhole", inPlace := ["internal/bytealg.abigen_runtime_cmpstring"], unfollowed := true, recurses := true, apart := false, narrowed := true }
def LinkWholeUptoSaid : Prop := linkWholeUptoRow.holds Tryz.pinned (OpenSpec.upto linkWholeSpec)

/-- 'lanternlaw6.LinkMany', WHERE WHAT IT READS IS OF BULK AT MOST 1048576: true; the input reads as it did. -/
def linkManyUptoRow : OpenClaim := { program := "ythmepecmeambmaagreat", sum := "9b7cb522909d58eb3386436da6dfdc6e248254aad8c1c667a06a3de5e97eac81", func := "lantern/lanternlaw6.LinkMany", spec := "linkMany", inPlace := ["internal/bytealg.abigen_runtime_cmpstring"], unfollowed := true, recurses := true, apart := false, narrowed := true }
def LinkManyUptoSaid : Prop := linkManyUptoRow.holds Tryz.pinned (OpenSpec.upto linkManySpec)

/-- 'lanternlaw7.SubtypeAsks', WHERE WHAT IT READS IS OF BULK AT MOST 1048576: true; the input reads as it did. -/
def subtypeAsksUptoRow : OpenClaim := { program := "ythmepecmeambmaagreat", sum := "9b7cb522909d58eb3386436da6dfdc6e248254aad8c1c667a06a3de5e97eac81", func := "lantern/lanternlaw7.SubtypeAsks", spec := "subtypeAsks", inPlace := ["internal/bytealg.abigen_runtime_cmpstring", "internal/abi.NoEscape", "internal/bytealg.MakeNoZero"], unfollowed := true, recurses := true, apart := false, narrowed := true }
def SubtypeAsksUptoSaid : Prop := subtypeAsksUptoRow.holds Tryz.pinned (OpenSpec.upto subtypeAsksSpec)

/-- 'lanternlaw7.SubtypeOrder', WHERE WHAT IT READS IS OF BULK AT MOST 1048576: true; the input reads as it did. -/
def subtypeOrderUptoRow : OpenClaim := { program := "ythmepecmeambmaagreat", sum := "9b7cb522909d58eb3386436da6dfdc6e248254aad8c1c667a06a3de5e97eac81", func := "lantern/lanternlaw7.SubtypeOrder", spec := "subtypeOrder", inPlace := ["internal/bytealg.abigen_runtime_cmpstring", "internal/abi.NoEscape", "internal/bytealg.MakeNoZero"], unfollowed := true, recurses := true, apart := false, narrowed := true }
def SubtypeOrderUptoSaid : Prop := subtypeOrderUptoRow.holds Tryz.pinned (OpenSpec.upto subtypeOrderSpec)

/-- 'lanternlaw7.SubtypeMerge', WHERE WHAT IT READS IS OF BULK AT MOST 1048576: true; the input reads as it did. -/
def subtypeMergeUptoRow : OpenClaim := { program := "ythmepecmeambmaagreat", sum := "9b7cb522909d58eb3386436da6dfdc6e248254aad8c1c667a06a3de5e97eac81", func := "lantern/lanternlaw7.SubtypeMerge", spec := "subtypeMerge", inPlace := ["internal/bytealg.abigen_runtime_cmpstring", "internal/abi.NoEscape", "internal/bytealg.MakeNoZero"], unfollowed := true, recurses := true, apart := false, narrowed := true }
def SubtypeMergeUptoSaid : Prop := subtypeMergeUptoRow.holds Tryz.pinned (OpenSpec.upto subtypeMergeSpec)

/-- 'lanternlaw7.SubtypeArrays', WHERE WHAT IT READS IS OF BULK AT MOST 1048576: true; the input reads as it did. -/
def subtypeArraysUptoRow : OpenClaim := { program := "ythmepecmeambmaagreat", sum := "9b7cb522909d58eb3386436da6dfdc6e248254aad8c1c667a06a3de5e97eac81", func := "lantern/lanternlaw7.SubtypeArrays", spec := "subtypeArrays", inPlace := ["internal/bytealg.abigen_runtime_cmpstring", "internal/abi.NoEscape", "internal/bytealg.MakeNoZero"], unfollowed := true, recurses := true, apart := false, narrowed := true }
def SubtypeArraysUptoSaid : Prop := subtypeArraysUptoRow.holds Tryz.pinned (OpenSpec.upto subtypeArraysSpec)

/-- 'lanternlaw7.SubtypeNothing', WHERE WHAT IT READS IS OF BULK AT MOST 1048576: true; the input reads as it did. -/
def subtypeNothingUptoRow : OpenClaim := { program := "ythmepecmeambmaagreat", sum := "9b7cb522909d58eb3386436da6dfdc6e248254aad8c1c667a06a3de5e97eac81", func := "lantern/lanternlaw7.SubtypeNothing", spec := "subtypeNothing", inPlace := ["internal/bytealg.abigen_runtime_cmpstring", "internal/abi.NoEscape", "internal/bytealg.MakeNoZero"], unfollowed := true, recurses := true, apart := false, narrowed := true }
def SubtypeNothingUptoSaid : Prop := subtypeNothingUptoRow.holds Tryz.pinned (OpenSpec.upto subtypeNothingSpec)

/-- 'lanternlaw7.SubtypeTree', WHERE WHAT IT READS IS OF BULK AT MOST 1048576: true; the input reads as it did. -/
def subtypeTreeUptoRow : OpenClaim := { program := "ythmepecmeambmaagreat", sum := "9b7cb522909d58eb3386436da6dfdc6e248254aad8c1c667a06a3de5e97eac81", func := "lantern/lanternlaw7.SubtypeTree", spec := "subtypeTree", inPlace := ["internal/bytealg.abigen_runtime_cmpstring", "internal/abi.NoEscape", "internal/bytealg.MakeNoZero"], unfollowed := true, recurses := true, apart := false, narrowed := true }
def SubtypeTreeUptoSaid : Prop := subtypeTreeUptoRow.holds Tryz.pinned (OpenSpec.upto subtypeTreeSpec)

/-- 'lanternlaw8.ResolveAsks', WHERE WHAT IT READS IS OF BULK AT MOST 1048576: true; the input reads as it did. -/
def resolveAsksUptoRow : OpenClaim := { program := "ythmepecmeambmaagreat", sum := "9b7cb522909d58eb3386436da6dfdc6e248254aad8c1c667a06a3de5e97eac81", func := "lantern/lanternlaw8.ResolveAsks", spec := "resolveAsks", inPlace := ["internal/bytealg.abigen_runtime_cmpstring"], unfollowed := true, recurses := true, apart := false, narrowed := true }
def ResolveAsksUptoSaid : Prop := resolveAsksUptoRow.holds Tryz.pinned (OpenSpec.upto resolveAsksSpec)

/-- 'lanternlaw8.ResolveDispatch', WHERE WHAT IT READS IS OF BULK AT MOST 1048576: true; the input reads as it did. -/
def resolveDispatchUptoRow : OpenClaim := { program := "ythmepecmeambmaagreat", sum := "9b7cb522909d58eb3386436da6dfdc6e248254aad8c1c667a06a3de5e97eac81", func := "lantern/lanternlaw8.ResolveDispatch", spec := "resolveDispatch", inPlace := ["internal/bytealg.abigen_runtime_cmpstring"], unfollowed := true, recurses := true, apart := false, narrowed := true }
def ResolveDispatchUptoSaid : Prop := resolveDispatchUptoRow.holds Tryz.pinned (OpenSpec.upto resolveDispatchSpec)

/-- 'lanternlaw8.ResolveCalls', WHERE WHAT IT READS IS OF BULK AT MOST 1048576: true; the input reads as it did. -/
def resolveCallsUptoRow : OpenClaim := { program := "ythmepecmeambmaagreat", sum := "9b7cb522909d58eb3386436da6dfdc6e248254aad8c1c667a06a3de5e97eac81", func := "lantern/lanternlaw8.ResolveCalls", spec := "resolveCalls", inPlace := ["internal/bytealg.abigen_runtime_cmpstring"], unfollowed := true, recurses := true, apart := false, narrowed := true }
def ResolveCallsUptoSaid : Prop := resolveCallsUptoRow.holds Tryz.pinned (OpenSpec.upto resolveCallsSpec)

/-- 'lanternlaw8.ResolveNothing', WHERE WHAT IT READS IS OF BULK AT MOST 1048576: true; the input reads as it did. -/
def resolveNothingUptoRow : OpenClaim := { program := "ythmepecmeambmaagreat", sum := "9b7cb522909d58eb3386436da6dfdc6e248254aad8c1c667a06a3de5e97eac81", func := "lantern/lanternlaw8.ResolveNothing", spec := "resolveNothing", inPlace := ["internal/bytealg.abigen_runtime_cmpstring"], unfollowed := true, recurses := true, apart := false, narrowed := true }
def ResolveNothingUptoSaid : Prop := resolveNothingUptoRow.holds Tryz.pinned (OpenSpec.upto resolveNothingSpec)

/-- 'lanternlaw8.ResolveNear', WHERE WHAT IT READS IS OF BULK AT MOST 1048576: true; the input reads as it did. -/
def resolveNearUptoRow : OpenClaim := { program := "ythmepecmeambmaagreat", sum := "9b7cb522909d58eb3386436da6dfdc6e248254aad8c1c667a06a3de5e97eac81", func := "lantern/lanternlaw8.ResolveNear", spec := "resolveNear", inPlace := ["internal/bytealg.abigen_runtime_cmpstring"], unfollowed := true, recurses := true, apart := false, narrowed := true }
def ResolveNearUptoSaid : Prop := resolveNearUptoRow.holds Tryz.pinned (OpenSpec.upto resolveNearSpec)

end Rows
end Go.Proofs.YthmepecmeambmaaGreat
