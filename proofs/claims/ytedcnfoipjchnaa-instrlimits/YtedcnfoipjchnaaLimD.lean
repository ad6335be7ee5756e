/- The walk of the law InstrLimits, whole. -/
import Derived.Test.YtedcnfoipjchnaaLimB
import Derived.Test.YtedcnfoipjchnaaLimC
namespace Go.Proofs.Ytedcnfoipjchnaa
open Go.RowKit
set_option linter.unusedVariables false

set_option maxHeartbeats 8000000 in
theorem lim_place5 (op a len loc s : Int) (w : World) (hop : Place op len loc s) (l1 : 0 ≤ len) (l2 : len ≤ 1000) (m1 : 0 ≤ loc) (m2 : loc ≤ 1000) (h1 : -2147483648 ≤ a) (h2 : a < 2147483648) (h3 : 0 ≤ a) (h4 : a < s) :
    Calls Try.prog 5 #[.int .i64 op, .int .i64 a, .int .i64 len, .int .i64 loc] w fun e w' => e = .returned (.bool true) ∧ Ch w w' := by
  have hc := place_ck a hop
  rw [isI_t ⟨h1, h2⟩, wi_t ⟨h3, h4⟩] at hc
  simp only [Bool.not_true, Bool.false_eq_true, if_false] at hc
  unfold LimCk at hc
  rcases hop with ⟨rfl | rfl, rfl⟩ | ⟨rfl | rfl | rfl | rfl, rfl⟩
  all_goals
    go_enter Try.func5, Try.ntmps5
    go_wp2_with (first
      | (go_at_call 9; (with_reducible refine (awake_any _).mono ?_); rintro e w5 ⟨rfl, hc5⟩)
      | (go_at_call 15; (with_reducible refine (hc _).mono ?_); rintro e w4 ⟨rfl, hc4⟩))
    go_ret
    exact ⟨rfl, (((Ch.refl w).alloc _).trans hc4).trans hc5⟩

theorem lim_const (op a len loc : Int) (w : World) (hop : op = 2) (l1 : 0 ≤ len) (l2 : len ≤ 1000) (m1 : 0 ≤ loc) (m2 : loc ≤ 1000) :
    Calls Try.prog 5 #[.int .i64 op, .int .i64 a, .int .i64 len, .int .i64 loc] w fun e w' => e = .returned (.bool true) ∧ Ch w w' := by
  subst hop
  have hc : LimCk 2 a len loc (if !isI a then 5 else 0) := by
    apply limCk
    refine (chk_plain (k := 2) 2 a len loc (by omega)).trans ?_; simp [sA]
  rcases (show a < -2147483648 ∨ (-2147483648 ≤ a ∧ 2147483648 ≤ a) ∨ (-2147483648 ≤ a ∧ a < 2147483648) by omega) with h1 | ⟨h1, h2⟩ | ⟨h1, h2⟩
  · rw [isI_f (Or.inl h1)] at hc
    simp only [Bool.not_false, if_true] at hc
    unfold LimCk at hc
    go_enter Try.func5, Try.ntmps5
    go_wp2_with (first
      | (go_at_call 9; (with_reducible refine (awake_any _).mono ?_); rintro e w5 ⟨rfl, hc5⟩)
      | (go_at_call 15; (with_reducible refine (hc _).mono ?_); rintro e w4 ⟨rfl, hc4⟩))
    go_ret
    exact ⟨rfl, (((Ch.refl w).alloc _).trans hc4).trans hc5⟩
  · rw [isI_f (Or.inr h2)] at hc
    simp only [Bool.not_false, if_true] at hc
    unfold LimCk at hc
    go_enter Try.func5, Try.ntmps5
    go_wp2_with (first
      | (go_at_call 9; (with_reducible refine (awake_any _).mono ?_); rintro e w5 ⟨rfl, hc5⟩)
      | (go_at_call 15; (with_reducible refine (hc _).mono ?_); rintro e w4 ⟨rfl, hc4⟩))
    go_ret
    exact ⟨rfl, (((Ch.refl w).alloc _).trans hc4).trans hc5⟩
  all_goals
    rw [isI_t ⟨h1, h2⟩] at hc
    simp only [Bool.not_true, Bool.false_eq_true, if_false] at hc
    unfold LimCk at hc
    go_enter Try.func5, Try.ntmps5
    go_wp2_with (first
      | (go_at_call 9; (with_reducible refine (awake_any _).mono ?_); rintro e w5 ⟨rfl, hc5⟩)
      | (go_at_call 15; (with_reducible refine (hc _).mono ?_); rintro e w4 ⟨rfl, hc4⟩))
    go_ret
    exact ⟨rfl, (((Ch.refl w).alloc _).trans hc4).trans hc5⟩

theorem lim_other (op a len loc : Int) (w : World) (l1 : 0 ≤ len) (l2 : len ≤ 1000) (m1 : 0 ≤ loc) (m2 : loc ≤ 1000) (n2 : (op == 2) = false) (n5 : (op == 5) = false) (n6 : (op == 6) = false) (n17 : (op == 17) = false) (n18 : (op == 18) = false) (n19 : (op == 19) = false) (n20 : (op == 20) = false) (n1 : (op == 1) = false) (n4 : (op == 4) = false) (n7 : (op == 7) = false) (n8 : (op == 8) = false) (n36 : (op == 36) = false) (n38 : (op == 38) = false) :
    Calls Try.prog 5 #[.int .i64 op, .int .i64 a, .int .i64 len, .int .i64 loc] w fun e w' => e = .returned (.bool true) ∧ Ch w w' := by
  rcases (show a < -2147483648 ∨ (-2147483648 ≤ a ∧ 2147483648 ≤ a) ∨ (-2147483648 ≤ a ∧ a < 2147483648) by omega) with h1 | ⟨h1, h2⟩ | ⟨h1, h2⟩
  all_goals
    go_enter Try.func5, Try.ntmps5
    go_wp2_with (first
      | (go_at_call 9; (with_reducible refine (awake_any _).mono ?_); rintro e w5 ⟨rfl, hc5⟩))
    go_ret
    exact ⟨rfl, ((Ch.refl w).alloc _).trans hc5⟩

theorem lim_far (op a len loc : Int) (w : World) (h : len < 0 ∨ (0 ≤ len ∧ 1000 < len) ∨ (0 ≤ len ∧ len ≤ 1000 ∧ loc < 0) ∨ (0 ≤ len ∧ len ≤ 1000 ∧ 0 ≤ loc ∧ 1000 < loc)) :
    Calls Try.prog 5 #[.int .i64 op, .int .i64 a, .int .i64 len, .int .i64 loc] w fun e w' => e = .returned (.bool true) ∧ Ch w w' := by
  rcases h with h1 | ⟨h1, h2⟩ | ⟨h1, h2, h3⟩ | ⟨h1, h2, h3, h4⟩
  all_goals
    go_enter Try.func5, Try.ntmps5
    go_wp2_with (first
      | (go_at_call 9; (with_reducible refine (awake_any _).mono ?_); rintro e w5 ⟨rfl, hc5⟩))
    go_ret
    exact ⟨rfl, hc5⟩

theorem limits_main (op a len loc : Int) (w : World) : Calls Try.prog 5 #[.int .i64 op, .int .i64 a, .int .i64 len, .int .i64 loc] w fun e w' => e = .returned (.bool true) ∧ Ch w w' := by
  by_cases hb : 0 ≤ len ∧ len ≤ 1000 ∧ 0 ≤ loc ∧ loc ≤ 1000
  · obtain ⟨l1, l2, m1, m2⟩ := hb
    by_cases h2 : op = 2
    · exact lim_const op a len loc w h2 l1 l2 m1 m2
    by_cases hbare : op = 1 ∨ op = 4 ∨ op = 7 ∨ op = 8 ∨ op = 36 ∨ op = 38
    · exact lim_bare op a len loc w hbare l1 l2 m1 m2
    have pl : ∀ s, Place op len loc s → Calls Try.prog 5 #[.int .i64 op, .int .i64 a, .int .i64 len, .int .i64 loc] w fun e w' => e = .returned (.bool true) ∧ Ch w w' := fun s hp => by
      rcases five a s with h1 | ⟨h1, h2⟩ | ⟨h1, h2, h3⟩ | ⟨h1, h2, h3, h4⟩ | ⟨h1, h2, h3, h4⟩
      · exact lim_place1 op a len loc s w hp l1 l2 m1 m2 h1
      · exact lim_place2 op a len loc s w hp l1 l2 m1 m2 h1 h2
      · exact lim_place3 op a len loc s w hp l1 l2 m1 m2 h1 h2 h3
      · exact lim_place4 op a len loc s w hp l1 l2 m1 m2 h1 h2 h3 h4
      · exact lim_place5 op a len loc s w hp l1 l2 m1 m2 h1 h2 h3 h4
    by_cases hl : op = 5 ∨ op = 6
    · exact pl loc (Or.inl ⟨hl, rfl⟩)
    by_cases hj : op = 17 ∨ op = 18 ∨ op = 19 ∨ op = 20
    · exact pl len (Or.inr ⟨hj, rfl⟩)
    refine lim_other op a len loc w l1 l2 m1 m2 ?_ ?_ ?_ ?_ ?_ ?_ ?_ ?_ ?_ ?_ ?_ ?_ ?_
    all_goals simp; omega
  · exact lim_far op a len loc w (by omega)
end Go.Proofs.Ytedcnfoipjchnaa
