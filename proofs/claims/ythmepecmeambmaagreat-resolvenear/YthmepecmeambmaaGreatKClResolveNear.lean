/- What the row of ResolveNear says of the program, fact by fact. -/
import Derived.Test.YthmepecmeambmaaGreatKClP
import Derived.WalkKit
import Derived.ProofKit
import Derived.OpenShut
import Derived.ShutString
import Derived.Below
namespace Go.Proofs.YthmepecmeambmaaGreat
open Go.ChangeShapes Go.WideShapes Go.ChangeAt Go.RowKit

set_option maxHeartbeats 40000000 in
theorem resolveNear_closed : joinedFacts Tryz.prog 21 Tryz.f21 Rows.resolveNearSpec Rows.resolveNearRow = true := by
  unfold joinedFacts
  simp only [cp_laid, cp_maps, cp_heard, cp_may, cp_lifts, cp_make, cp_keys, Bool.and_eq_true]
  repeat' apply And.intro
  all_goals (first | exact True.intro | (as_aux_lemma => kernel_rfl))
end Go.Proofs.YthmepecmeambmaaGreat
