/- The walk of the law InstrLimits, where A is a place: no place. -/
import Derived.Test.YtedcnfoipjchnaaLim
namespace Go.Proofs.Ytedcnfoipjchnaa
open Go.RowKit
set_option linter.unusedVariables false

set_option maxHeartbeats 8000000 in
theorem lim_place3 (op a len loc s : Int) (w : World) (hop : Place op len loc s) (l1 : 0 ≤ len) (l2 : len ≤ 1000) (m1 : 0 ≤ loc) (m2 : loc ≤ 1000) (h1 : -2147483648 ≤ a) (h2 : a < 2147483648) (h3 : a < 0) :
    Calls Try.prog 5 #[.int .i64 op, .int .i64 a, .int .i64 len, .int .i64 loc] w fun e w' => e = .returned (.bool true) ∧ Ch w w' := by
  have hc := place_ck a hop
  rw [isI_t ⟨h1, h2⟩, wi_f (Or.inl h3)] at hc
  simp only [Bool.not_true, Bool.not_false, if_true, Bool.false_eq_true, if_false] at hc
  unfold LimCk at hc
  rcases hop with ⟨rfl | rfl, rfl⟩ | ⟨rfl | rfl | rfl | rfl, rfl⟩
  all_goals
    go_enter Try.func5, Try.ntmps5
    go_wp2_with (first
      | (go_at_call 9; (with_reducible refine (awake_any _).mono ?_); rintro e w5 ⟨rfl, hc5⟩)
      | (go_at_call 15; (with_reducible refine (hc _).mono ?_); rintro e w4 ⟨rfl, hc4⟩))
    go_ret
    exact ⟨rfl, (((Ch.refl w).alloc _).trans hc4).trans hc5⟩

set_option maxHeartbeats 8000000 in
theorem lim_place4 (op a len loc s : Int) (w : World) (hop : Place op len loc s) (l1 : 0 ≤ len) (l2 : len ≤ 1000) (m1 : 0 ≤ loc) (m2 : loc ≤ 1000) (h1 : -2147483648 ≤ a) (h2 : a < 2147483648) (h3 : 0 ≤ a) (h4 : s ≤ a) :
    Calls Try.prog 5 #[.int .i64 op, .int .i64 a, .int .i64 len, .int .i64 loc] w fun e w' => e = .returned (.bool true) ∧ Ch w w' := by
  have hc := place_ck a hop
  rw [isI_t ⟨h1, h2⟩, wi_f (Or.inr h4)] at hc
  simp only [Bool.not_true, Bool.not_false, if_true, Bool.false_eq_true, if_false] at hc
  unfold LimCk at hc
  rcases hop with ⟨rfl | rfl, rfl⟩ | ⟨rfl | rfl | rfl | rfl, rfl⟩
  all_goals
    go_enter Try.func5, Try.ntmps5
    go_wp2_with (first
      | (go_at_call 9; (with_reducible refine (awake_any _).mono ?_); rintro e w5 ⟨rfl, hc5⟩)
      | (go_at_call 15; (with_reducible refine (hc _).mono ?_); rintro e w4 ⟨rfl, hc4⟩))
    go_ret
    exact ⟨rfl, (((Ch.refl w).alloc _).trans hc4).trans hc5⟩
end Go.Proofs.Ytedcnfoipjchnaa
