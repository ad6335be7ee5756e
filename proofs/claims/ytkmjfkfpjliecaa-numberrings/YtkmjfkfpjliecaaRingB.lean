/- The walk of the law NumberRings. -/
import Derived.Test.YtkmjfkfpjliecaaRingA
namespace Go.Proofs.Ytkmjfkfpjliecaa
open Go.RowKit
set_option linter.unusedVariables false

theorem div_as {a b q : Int} {t : Bool} (h : quoW a b = q) (h2 : hasW b = t) (w : World) : Calls Try.prog 8 #[.int .i64 a, .int .i64 b] w fun e w' => e = .returned (.tuple #[.int .i64 q, .bool t]) ∧ w' = w := by
  rw [← h, ← h2]; exact div_any a b w
theorem wrap_as {a y : Int} (h : W a = y) (w : World) : Calls Try.prog 10 #[.int .i64 a] w fun e w' => e = .returned (.int .i64 y) ∧ w' = w := by
  rw [← h]; exact wrap_any a w
set_option maxHeartbeats 4000000 in
theorem rings_no (a b c : Int) (hb : W b = 0) (w : World) : Calls Try.prog 4 #[.int .i64 a, .int .i64 b, .int .i64 c] w fun e w' => e = .returned (.bool true) ∧ w' = w := by
  have t1 : (W (W a + W b) != W (W b + W a)) = false := by rw [bne_eq_false_iff_eq]; exact ring_add a b
  have t2 : (W (W a * W b) != W (W b * W a)) = false := by rw [bne_eq_false_iff_eq]; exact ring_mul a b
  have t3 : (W (W a * W (W (W b + W c))) != W (W (W (W a * W b)) + W (W (W a * W c)))) = false := by rw [bne_eq_false_iff_eq]; exact ring_dist a b c
  have t4 : (W (W (W (W a + W b)) - W b) != W a) = false := by rw [bne_eq_false_iff_eq]; exact ring_back a b
  have t5 : (W (W a) != W a) = false := by rw [bne_eq_false_iff_eq]; exact W_W a
  have hd := fun w => div_as (a := a) (b := b) (q := 0) (t := false) (by unfold quoW; rw [if_pos hb]) (by unfold hasW; simp [hb]) w
  have hb' : (W b == 0) = true := by rw [hb]; rfl
  clear hb
  go_enter Try.func4, Try.ntmps4
  go_wp2_with (first
    | (go_at_call 10; refine (wrap_any _ _).mono ?_; rintro e w' ⟨rfl, hw⟩; have hw := hw.symm; subst hw)
    | (go_at_call 8; refine (hd _).mono ?_; rintro e w' ⟨rfl, hw⟩; have hw := hw.symm; subst hw)
    | (go_at_call 11; refine (add_any _ _ _).mono ?_; rintro e w' ⟨rfl, hw⟩; have hw := hw.symm; subst hw)
    | (go_at_call 12; refine (sub_any _ _ _).mono ?_; rintro e w' ⟨rfl, hw⟩; have hw := hw.symm; subst hw)
    | (go_at_call 13; refine (mul_any _ _ _).mono ?_; rintro e w' ⟨rfl, hw⟩; have hw := hw.symm; subst hw)
    | (go_at_call 14; refine (awake_any _).mono ?_; rintro e w' ⟨rfl, hw⟩; have hw := hw.symm; subst hw))
  go_ret
  exact ⟨rfl, rfl⟩

/-- The law's last row: what is left is nearer to 0 than the divisor, and has the dividend's side. -/
theorem rings_facts (r y : Int) (h : r.natAbs < y.natAbs) :
    (decide (r < 0) = true ∧ decide (0 ≤ r) = false ∧ decide (y < r) = true) ∨ (decide (r < 0) = true ∧ decide (0 ≤ r) = false ∧ decide (y < r) = false ∧ decide (-y < r) = true)
    ∨ (decide (r < 0) = false ∧ decide (0 ≤ r) = true ∧ decide (r < y) = true) ∨ (decide (r < 0) = false ∧ decide (0 ≤ r) = true ∧ decide (r < y) = false ∧ decide (r < -y) = true) := by
  simp only [decide_eq_true_eq, decide_eq_false_iff_not]
  omega

set_option maxHeartbeats 4000000 in
theorem rings_yes (a b c q r : Int) (hq : quoW a b = q) (hh : hasW b = true) (hr : W (W a - W (W (W q * W b))) = r) (hlt : r.natAbs < (W b).natAbs) (w : World) : Calls Try.prog 4 #[.int .i64 a, .int .i64 b, .int .i64 c] w fun e w' => e = .returned (.bool true) ∧ w' = w := by
  have t1 : (W (W a + W b) != W (W b + W a)) = false := by rw [bne_eq_false_iff_eq]; exact ring_add a b
  have t2 : (W (W a * W b) != W (W b * W a)) = false := by rw [bne_eq_false_iff_eq]; exact ring_mul a b
  have t3 : (W (W a * W (W (W b + W c))) != W (W (W (W a * W b)) + W (W (W a * W c)))) = false := by rw [bne_eq_false_iff_eq]; exact ring_dist a b c
  have t4 : (W (W (W (W a + W b)) - W b) != W a) = false := by rw [bne_eq_false_iff_eq]; exact ring_back a b
  have t5 : (W (W a) != W a) = false := by rw [bne_eq_false_iff_eq]; exact W_W a
  have hd := fun w => div_as hq hh w
  have hn := neg_in b
  have hf := rings_facts r (W b) hlt
  clear hq hh hlt
  rcases hf with ⟨f1, f2, f3⟩ | ⟨f1, f2, f3, f4⟩ | ⟨f1, f2, f3⟩ | ⟨f1, f2, f3, f4⟩
  · go_enter Try.func4, Try.ntmps4
    go_wp2_with (first
      | (go_at_call 10; refine (wrap_any _ _).mono ?_; rintro e w' ⟨rfl, hw⟩; have hw := hw.symm; subst hw)
      | (go_at_call 8; refine (hd _).mono ?_; rintro e w' ⟨rfl, hw⟩; have hw := hw.symm; subst hw)
      | (go_at_call 11; refine (add_any _ _ _).mono ?_; rintro e w' ⟨rfl, hw⟩; have hw := hw.symm; subst hw)
      | (go_at_call 12; refine (sub_any _ _ _).mono ?_; rintro e w' ⟨rfl, hw⟩; have hw := hw.symm; subst hw)
      | (go_at_call 13; refine (mul_any _ _ _).mono ?_; rintro e w' ⟨rfl, hw⟩; have hw := hw.symm; subst hw)
      | (go_at_call 14; refine (awake_any _).mono ?_; rintro e w' ⟨rfl, hw⟩; have hw := hw.symm; subst hw))
    go_ret
    exact ⟨rfl, rfl⟩
  · go_enter Try.func4, Try.ntmps4
    go_wp2_with (first
      | (go_at_call 10; refine (wrap_any _ _).mono ?_; rintro e w' ⟨rfl, hw⟩; have hw := hw.symm; subst hw)
      | (go_at_call 8; refine (hd _).mono ?_; rintro e w' ⟨rfl, hw⟩; have hw := hw.symm; subst hw)
      | (go_at_call 11; refine (add_any _ _ _).mono ?_; rintro e w' ⟨rfl, hw⟩; have hw := hw.symm; subst hw)
      | (go_at_call 12; refine (sub_any _ _ _).mono ?_; rintro e w' ⟨rfl, hw⟩; have hw := hw.symm; subst hw)
      | (go_at_call 13; refine (mul_any _ _ _).mono ?_; rintro e w' ⟨rfl, hw⟩; have hw := hw.symm; subst hw)
      | (go_at_call 14; refine (awake_any _).mono ?_; rintro e w' ⟨rfl, hw⟩; have hw := hw.symm; subst hw))
    go_ret
    exact ⟨rfl, rfl⟩
  · go_enter Try.func4, Try.ntmps4
    go_wp2_with (first
      | (go_at_call 10; refine (wrap_any _ _).mono ?_; rintro e w' ⟨rfl, hw⟩; have hw := hw.symm; subst hw)
      | (go_at_call 8; refine (hd _).mono ?_; rintro e w' ⟨rfl, hw⟩; have hw := hw.symm; subst hw)
      | (go_at_call 11; refine (add_any _ _ _).mono ?_; rintro e w' ⟨rfl, hw⟩; have hw := hw.symm; subst hw)
      | (go_at_call 12; refine (sub_any _ _ _).mono ?_; rintro e w' ⟨rfl, hw⟩; have hw := hw.symm; subst hw)
      | (go_at_call 13; refine (mul_any _ _ _).mono ?_; rintro e w' ⟨rfl, hw⟩; have hw := hw.symm; subst hw)
      | (go_at_call 14; refine (awake_any _).mono ?_; rintro e w' ⟨rfl, hw⟩; have hw := hw.symm; subst hw))
    go_ret
    exact ⟨rfl, rfl⟩
  · go_enter Try.func4, Try.ntmps4
    go_wp2_with (first
      | (go_at_call 10; refine (wrap_any _ _).mono ?_; rintro e w' ⟨rfl, hw⟩; have hw := hw.symm; subst hw)
      | (go_at_call 8; refine (hd _).mono ?_; rintro e w' ⟨rfl, hw⟩; have hw := hw.symm; subst hw)
      | (go_at_call 11; refine (add_any _ _ _).mono ?_; rintro e w' ⟨rfl, hw⟩; have hw := hw.symm; subst hw)
      | (go_at_call 12; refine (sub_any _ _ _).mono ?_; rintro e w' ⟨rfl, hw⟩; have hw := hw.symm; subst hw)
      | (go_at_call 13; refine (mul_any _ _ _).mono ?_; rintro e w' ⟨rfl, hw⟩; have hw := hw.symm; subst hw)
      | (go_at_call 14; refine (awake_any _).mono ?_; rintro e w' ⟨rfl, hw⟩; have hw := hw.symm; subst hw))
    go_ret
    exact ⟨rfl, rfl⟩

theorem rings_walk (a b c : Int) (w : World) : Calls Try.prog 4 #[.int .i64 a, .int .i64 b, .int .i64 c] w fun e w' => e = .returned (.bool true) ∧ w' = w := by
  by_cases hb : W b = 0
  · exact rings_no a b c hb w
  · exact rings_yes a b c _ _ rfl (by unfold hasW; simp [hb]) (rest_is a b hb) (rest_lt a b hb) w
end Go.Proofs.Ytkmjfkfpjliecaa
