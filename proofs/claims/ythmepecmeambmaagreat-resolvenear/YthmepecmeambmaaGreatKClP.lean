/- What the rows say of the whole program, fact by fact. -/
import Derived.Test.YthmepecmeambmaaGreatRows
import Derived.WalkKit
import Derived.ProofKit
namespace Go.Proofs.YthmepecmeambmaaGreat
open Go.ChangeShapes Go.WideShapes Go.ChangeAt Go.RowKit

theorem cp_laid : laidOutB Tryz.prog = true := by kernel_rfl
theorem cp_maps : mapsRowed Tryz.prog = true := by kernel_rfl
theorem cp_heard : Tryz.prog.stopsHeard = true := by kernel_rfl
theorem cp_may : Tryz.prog.mayEnter = true := by kernel_rfl
theorem cp_lifts : Tryz.prog.liftsFinal = false := by kernel_rfl
theorem cp_make : Tryz.prog.make = some Rows.linkManyRow.make := by kernel_rfl
theorem cp_keys : Tryz.prog.plainKeys = Rows.linkManyRow.plainKeys := by kernel_rfl
end Go.Proofs.YthmepecmeambmaaGreat
