/- Two methods, two classes: alike or not. -/
import Derived.Test.YthmepecmeambmaaGreatKEqA
namespace Go.Proofs.YthmepecmeambmaaGreat
open Go.RowKit
set_option linter.unusedVariables false

def clsV (c : Cls) (vi vf vm : Value) : Value := .agg #[.string c.n, .string c.s, .bool c.it, .bool c.ab, vi, vf, vm]

end Go.Proofs.YthmepecmeambmaaGreat
