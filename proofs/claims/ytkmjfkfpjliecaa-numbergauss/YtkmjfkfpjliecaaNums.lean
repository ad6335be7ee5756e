/- What the functions of chapter 3 on ints answer, and the document's own. -/
import Derived.Test.YtkmjfkfpjliecaaRows
import Derived.Test.YtkmjfkfpjliecaaFl
import Derived.WalkKit
import Derived.ProofKit
import Derived.Deep.QuietTactic
import Derived.BigQuiet
namespace Go.Proofs.Ytkmjfkfpjliecaa
open Go.RowKit
set_option linter.unusedVariables false

/-- 32 binary digits, with a sign. -/
def W (n : Int) : Int := (n + 2147483648) % 4294967296 - 2147483648
theorem W_lo (n : Int) : -2147483648 ≤ W n := by unfold W; omega
theorem W_hi (n : Int) : W n ≤ 2147483647 := by unfold W; omega
theorem W_id {n : Int} (h : -2147483648 ≤ n) (h2 : n ≤ 2147483647) : W n = n := by unfold W; omega
theorem in64 {n : Int} (h : -9223372036854775808 ≤ n) (h2 : n ≤ 9223372036854775807) : IntKind.i64.wrap n = n := IntWalk.i64_in n ⟨h, h2⟩
theorem W_add (a b : Int) : IntKind.i64.wrap (W a + W b) = W a + W b := by
  have := W_lo a; have := W_lo b; have := W_hi a; have := W_hi b
  exact in64 (by omega) (by omega)
theorem W_sub (a b : Int) : IntKind.i64.wrap (W a - W b) = W a - W b := by
  have := W_lo a; have := W_lo b; have := W_hi a; have := W_hi b
  exact in64 (by omega) (by omega)
theorem W_abs (a : Int) : (W a).natAbs ≤ 2147483648 := by have := W_lo a; have := W_hi a; omega
theorem W_mul (a b : Int) : IntKind.i64.wrap (W a * W b) = W a * W b := by
  have h : (W a * W b).natAbs ≤ 2147483648 * 2147483648 := by rw [Int.natAbs_mul]; exact Nat.mul_le_mul (W_abs a) (W_abs b)
  exact in64 (by omega) (by omega)
theorem W_quo (a b : Int) : IntKind.i64.wrap ((W a).tdiv (W b)) = (W a).tdiv (W b) := by
  have h : ((W a).tdiv (W b)).natAbs ≤ 2147483648 := by
    rw [Int.natAbs_tdiv]; exact Nat.le_trans (Nat.div_le_self _ _) (W_abs a)
  exact in64 (by omega) (by omega)

theorem wrap_any (n : Int) (w : World) : Calls Try.prog 10 #[.int .i64 n] w fun e w' => e = .returned (.int .i64 (W n)) ∧ w' = w := by
  have h1 : wrap64 (wrap32 n) = W n := by unfold wrap64 wrap32 W; omega
  rw [← h1]
  go_enter Try.func10, Try.ntmps10
  go_wp2
  go_ret
  exact ⟨rfl, rfl⟩

theorem refWrap_any (n : Int) (w : World) : Calls Try.prog 7 #[.int .i64 n] w fun e w' => e = .returned (.int .i64 (W n)) ∧ w' = w := by
  have h1 : wrap64 (wrap32 (IntKind.u64.wrap n % 4294967296)) = W n := by rw [IntKind.wrap_u64]; unfold wrap64 wrap32 W; omega
  rw [← h1]
  go_enter Try.func7, Try.ntmps7
  go_wp2
  go_ret
  exact ⟨rfl, rfl⟩

theorem add_any (a b : Int) (w : World) : Calls Try.prog 11 #[.int .i64 a, .int .i64 b] w fun e w' => e = .returned (.int .i64 (W (W a + W b))) ∧ w' = w := by
  have h1 := W_add a b
  go_enter Try.func11, Try.ntmps11
  go_wp2_with (go_at_call 10; refine (wrap_any _ _).mono ?_; rintro e w' ⟨rfl, hw⟩; have hw := hw.symm; subst hw)
  go_ret
  exact ⟨rfl, rfl⟩

theorem sub_any (a b : Int) (w : World) : Calls Try.prog 12 #[.int .i64 a, .int .i64 b] w fun e w' => e = .returned (.int .i64 (W (W a - W b))) ∧ w' = w := by
  have h1 := W_sub a b
  go_enter Try.func12, Try.ntmps12
  go_wp2_with (go_at_call 10; refine (wrap_any _ _).mono ?_; rintro e w' ⟨rfl, hw⟩; have hw := hw.symm; subst hw)
  go_ret
  exact ⟨rfl, rfl⟩

theorem mul_any (a b : Int) (w : World) : Calls Try.prog 13 #[.int .i64 a, .int .i64 b] w fun e w' => e = .returned (.int .i64 (W (W a * W b))) ∧ w' = w := by
  have h1 := W_mul a b
  go_enter Try.func13, Try.ntmps13
  go_wp2_with (go_at_call 10; refine (wrap_any _ _).mono ?_; rintro e w' ⟨rfl, hw⟩; have hw := hw.symm; subst hw)
  go_ret
  exact ⟨rfl, rfl⟩

def quoW (a b : Int) : Int := if W b = 0 then 0 else W ((W a).tdiv (W b))
def hasW (b : Int) : Bool := decide (W b ≠ 0)

theorem div_any (a b : Int) (w : World) : Calls Try.prog 8 #[.int .i64 a, .int .i64 b] w fun e w' => e = .returned (.tuple #[.int .i64 (quoW a b), .bool (hasW b)]) ∧ w' = w := by
  have h1 := W_quo a b
  by_cases hb : W b = 0
  · have e1 : quoW a b = 0 := by unfold quoW; rw [if_pos hb]
    have e2 : hasW b = false := by unfold hasW; simp [hb]
    have hb' : (W b == 0) = true := by simp [hb]
    rw [e1, e2]
    clear e1 e2 h1 hb
    go_enter Try.func8, Try.ntmps8
    go_wp2_with (go_at_call 10; refine (wrap_any _ _).mono ?_; rintro e w' ⟨rfl, hw⟩; have hw := hw.symm; subst hw)
    go_ret2
    exact ⟨rfl, rfl⟩
  · have e1 : quoW a b = W ((W a).tdiv (W b)) := by unfold quoW; rw [if_neg hb]
    have e2 : hasW b = true := by unfold hasW; simp [hb]
    have hb' : (W b == 0) = false := by simp [hb]
    rw [e1, e2]
    clear e1 e2
    go_enter Try.func8, Try.ntmps8
    go_wp2_with (go_at_call 10; refine (wrap_any _ _).mono ?_; rintro e w' ⟨rfl, hw⟩; have hw := hw.symm; subst hw)
    go_ret2
    exact ⟨rfl, rfl⟩

theorem refDiv_any (a b : Int) (w : World) : Calls Try.prog 9 #[.int .i64 a, .int .i64 b] w fun e w' => e = .returned (.tuple #[.int .i64 (quoW a b), .bool (hasW b)]) ∧ w' = w := by
  have h1 := W_quo a b
  by_cases hb : W b = 0
  · have e1 : quoW a b = 0 := by unfold quoW; rw [if_pos hb]
    have e2 : hasW b = false := by unfold hasW; simp [hb]
    have hb' : (W b == 0) = true := by simp [hb]
    rw [e1, e2]
    clear e1 e2 h1 hb
    go_enter Try.func9, Try.ntmps9
    go_wp2_with (go_at_call 7; refine (refWrap_any _ _).mono ?_; rintro e w' ⟨rfl, hw⟩; have hw := hw.symm; subst hw)
    go_ret2
    exact ⟨rfl, rfl⟩
  · have e1 : quoW a b = W ((W a).tdiv (W b)) := by unfold quoW; rw [if_neg hb]
    have e2 : hasW b = true := by unfold hasW; simp [hb]
    have hb' : (W b == 0) = false := by simp [hb]
    rw [e1, e2]
    clear e1 e2
    go_enter Try.func9, Try.ntmps9
    go_wp2_with (go_at_call 7; refine (refWrap_any _ _).mono ?_; rintro e w' ⟨rfl, hw⟩; have hw := hw.symm; subst hw)
    go_ret2
    exact ⟨rfl, rfl⟩
end Go.Proofs.Ytkmjfkfpjliecaa
