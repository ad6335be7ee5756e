/- The walk of the law ClassLimits. -/
import Derived.Test.YtdalibfgkkgcpaaLimE
namespace Go.Proofs.Ytdalibfgkkgcpaa
open Go.RowKit
set_option linter.unusedVariables false

set_option maxHeartbeats 2000000 in
theorem lim_out (what n : Int) (w : World) (h : n < 1 ∨ 220 < n) : Calls Try.prog 4 #[.int .i64 what, .int .i64 n] w fun e w' => e = .returned (.bool true) ∧ Ch w w' := by
  rcases h with h | h
  all_goals
    go_enter Try.func4, Try.ntmps4
    go_wp2_with (first
      | (go_at_call 7; (with_reducible refine (awake_any _).mono ?_); rintro e w6 ⟨rfl, hc6⟩))
    go_ret
    exact ⟨rfl, hc6⟩
theorem lim_main (what n : Int) (w : World) : Calls Try.prog 4 #[.int .i64 what, .int .i64 n] w fun e w' => e = .returned (.bool true) ∧ Ch w w' := by
  by_cases h : n < 1 ∨ 220 < n
  · exact lim_out what n w h
  · obtain ⟨m, rfl⟩ : ∃ m : Nat, n = (m : Int) + 1 := ⟨(n - 1).toNat, by omega⟩
    have h2 : m + 1 ≤ 220 := by omega
    have h3 := Int.emod_nonneg what (b := 6) (by omega)
    have h4 := Int.emod_lt_of_pos what (b := 6) (by omega)
    have hr : rnd what 6 = 0 ∨ rnd what 6 = 1 ∨ rnd what 6 = 2 ∨ rnd what 6 = 3 ∨ rnd what 6 = 4 ∨ rnd what 6 = 5 := by unfold rnd; omega
    rcases hr with hr | hr | hr | hr | hr | hr
    · exact lim_fields what m w hr h2
    · exact lim_methods what m w hr h2
    · exact lim_code what m w hr h2
    · exact lim_locals what m w hr h2
    · exact lim_stack what m w hr h2
    · exact lim_hands what m w hr h2
end Go.Proofs.Ytdalibfgkkgcpaa
