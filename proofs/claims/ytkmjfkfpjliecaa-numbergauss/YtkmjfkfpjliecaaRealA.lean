/- The real part as an int; the walk of the law NumberReals. -/
import Derived.Test.YtkmjfkfpjliecaaAwk
namespace Go.Proofs.Ytkmjfkfpjliecaa
open Go.RowKit
set_option linter.unusedVariables false

theorem fv_low3 : FV (-3) 13970166044103278592 (-17179869184) := ⟨true, 17179869184, by decide, by decide, by decide⟩
theorem fv_high3 : FV (-3) 4746794007248502784 17179869184 := ⟨false, 17179869184, by decide, by decide, by decide⟩
theorem fv_zero3 : FV (-3) 0 0 := ⟨false, 0, by decide, by decide, by decide⟩

theorem cmp_lt {u v : Int} (h : u < v) : compare u v = .lt := by simp [compare, compareOfLessAndEq, h]
theorem cmp_gt {u v : Int} (h : v < u) : compare u v = .gt := by
  have h1 : ¬ u < v := by omega
  have h2 : ¬ u = v := by omega
  simp [compare, compareOfLessAndEq, h1, h2]
theorem cmp_eq {u v : Int} (h : u = v) : compare u v = .eq := by subst h; simp

theorem real_fv {s : Nat} {v : Int} (b : Nat) (h : FV (-3) s v) (lo : -17179869184 ≤ v) (hi : v < 17179869184) (w : World) :
    Calls Try.prog 18 #[.complex .f64 s b] w fun e w' => e = .returned (.int .i64 (v.tdiv 8)) ∧ w' = w := by
  refine real_in ?_ ?_ ?_ w
  · rw [h.order fv_low3 (by decide) (by decide)]
    rcases Int.lt_or_eq_of_le lo with h1 | h1
    · rw [cmp_gt h1]; rfl
    · rw [cmp_eq h1.symm]; rfl
  · rw [h.order fv_high3 (by decide) (by decide), cmp_lt hi]; rfl
  · have h1 := FV.toInt (k := 3) h (by decide)
    have e8 : ((2 ^ 3 : Nat) : Int) = 8 := by decide
    rw [e8] at h1
    have hb : (v.tdiv 8).natAbs ≤ 2147483648 := by
      rw [Int.natAbs_tdiv]
      have : (8 : Int).natAbs = 8 := rfl
      rw [this]
      show v.natAbs / 8 ≤ 2147483648
      omega
    have l1 : IntKind.i64.min = -9223372036854775808 := by decide
    have l2 : IntKind.i64.max = 9223372036854775807 := by decide
    unfold floatToIntVal
    rw [h1]
    simp only
    rw [if_pos]
    rw [l1, l2]
    omega

theorem real_fv_over {s : Nat} {v : Int} (b : Nat) (h : FV (-3) s v) (hi : 17179869184 ≤ v) (w : World) :
    Calls Try.prog 18 #[.complex .f64 s b] w fun e w' => e = .returned (.int .i64 0) ∧ w' = w := by
  refine real_over ?_ ?_ w
  · rw [h.order fv_low3 (by decide) (by decide), cmp_gt (by omega)]; rfl
  · rw [h.order fv_high3 (by decide) (by decide)]
    rcases Int.lt_or_eq_of_le hi with h1 | h1
    · rw [cmp_gt h1]; rfl
    · rw [cmp_eq h1.symm]; rfl

theorem quo8 (k : Int) (h0 : 0 ≤ k) (h1 : k ≤ 7) : ∃ g, floatBits .quo .f64 (floatOfInt .f64 k) 4620693217682128896 = some g ∧ FV (-3) g k := by
  have h : k = 0 ∨ k = 1 ∨ k = 2 ∨ k = 3 ∨ k = 4 ∨ k = 5 ∨ k = 6 ∨ k = 7 := by omega
  rcases h with rfl | rfl | rfl | rfl | rfl | rfl | rfl | rfl
  · exact ⟨nr false 0 (-3), by decide +kernel, false, 0, by decide, rfl, by decide⟩
  · exact ⟨nr false 1 (-3), by decide +kernel, false, 1, by decide, rfl, by decide⟩
  · exact ⟨nr false 2 (-3), by decide +kernel, false, 2, by decide, rfl, by decide⟩
  · exact ⟨nr false 3 (-3), by decide +kernel, false, 3, by decide, rfl, by decide⟩
  · exact ⟨nr false 4 (-3), by decide +kernel, false, 4, by decide, rfl, by decide⟩
  · exact ⟨nr false 5 (-3), by decide +kernel, false, 5, by decide, rfl, by decide⟩
  · exact ⟨nr false 6 (-3), by decide +kernel, false, 6, by decide, rfl, by decide⟩
  · exact ⟨nr false 7 (-3), by decide +kernel, false, 7, by decide, rfl, by decide⟩

theorem tdiv8_neg (x k : Int) (hx : x < 0) (h0 : 0 < k) (h1 : k ≤ 7) : (x * 8 + k).tdiv 8 = x + 1 := by
  have e : x * 8 + k = -(-(x * 8 + k)) := by omega
  rw [e, Int.neg_tdiv, Int.tdiv_eq_ediv_of_nonneg (by omega)]
  omega
theorem tdiv8_zero (x : Int) : (x * 8 + 0).tdiv 8 = x := by
  rw [Int.add_zero]; exact Int.mul_tdiv_cancel _ (by decide)
theorem tdiv8_pos (x k : Int) (hx : 0 ≤ x) (h0 : 0 ≤ k) (h1 : k ≤ 7) : (x * 8 + k).tdiv 8 = x := by
  rw [Int.tdiv_eq_ediv_of_nonneg (by omega)]
  omega

theorem sum8 (x k : Int) (hx : -2147483648 ≤ x) (hx2 : x ≤ 2147483647) (h0 : 0 ≤ k) (h1 : k ≤ 7) {g : Nat} (fg : FV (-3) g k) :
    ∃ s, floatBits .add .f64 (floatOfInt .f64 x) g = some s ∧ FV (-3) s (x * 8 + k) := by
  have fx : FV 0 (floatOfInt .f64 x) x := FV.ofInt x (by omega)
  have fx3 := fx.lower 3 (by decide) (by omega)
  have e8 : ((2 ^ 3 : Nat) : Int) = 8 := by decide
  rw [e8] at fx3
  have e3 : (0 : Int) - ((3 : Nat) : Int) = -3 := by decide
  rw [e3] at fx3
  exact fx3.add fg (by decide) (by decide) (by omega)
theorem over8 (k : Int) (h0 : 0 ≤ k) (h1 : k ≤ 7) {g : Nat} (fg : FV (-3) g k) :
    ∃ s, floatBits .add .f64 4746794007248502784 g = some s ∧ FV (-3) s (17179869184 + k) :=
  fv_high3.add fg (by decide) (by decide) (by omega)
theorem gt8 (k : Int) (h0 : 0 ≤ k) {g : Nat} (fg : FV (-3) g k) : (FloatKind.f64.format.order g 0 == some .gt) = decide (0 < k) := by
  rw [fg.order fv_zero3 (by decide) (by decide)]
  rcases Int.lt_or_eq_of_le h0 with h | h
  · rw [cmp_gt h, decide_eq_true h]; rfl
  · rw [cmp_eq h.symm, decide_eq_false (by omega)]; rfl

/-- What is told of the parts: a whole number x and k eighths. -/
theorem parts (x k : Int) (hx : -2147483648 ≤ x) (hx2 : x ≤ 2147483647) (h0 : 0 ≤ k) (h1 : k ≤ 7) :
    ∃ g s o, (∀ w t, (binOp .quo t (.float .f64 (floatOfInt .f64 k)) (.float .f64 4620693217682128896)).run Try.prog w = .ok (.float .f64 g) w)
      ∧ (∀ w t, (binOp .add t (.float .f64 (floatOfInt .f64 x)) (.float .f64 g)).run Try.prog w = .ok (.float .f64 s) w)
      ∧ (∀ w t, (binOp .add t (.float .f64 4746794007248502784) (.float .f64 g)).run Try.prog w = .ok (.float .f64 o) w)
      ∧ (FloatKind.f64.format.order g 0 == some .gt) = decide (0 < k)
      ∧ (∀ b w, Calls Try.prog 18 #[.complex .f64 s b] w fun e w' => e = .returned (.int .i64 ((x * 8 + k).tdiv 8)) ∧ w' = w)
      ∧ (∀ b w, Calls Try.prog 18 #[.complex .f64 o b] w fun e w' => e = .returned (.int .i64 0) ∧ w' = w) := by
  obtain ⟨g, hg, fg⟩ := quo8 k h0 h1
  obtain ⟨s, hs, fs⟩ := sum8 x k hx hx2 h0 h1 fg
  obtain ⟨o, ho, fo⟩ := over8 k h0 h1 fg
  exact ⟨g, s, o, fun w t => run_float_arith w .quo t .f64 _ _ _ hg, fun w t => run_float_arith w .add t .f64 _ _ _ hs, fun w t => run_float_arith w .add t .f64 _ _ _ ho, gt8 k h0 fg, fun b w => real_fv b fs (by omega) (by omega) w, fun b w => real_fv_over b fo (by omega) w⟩
end Go.Proofs.Ytkmjfkfpjliecaa
