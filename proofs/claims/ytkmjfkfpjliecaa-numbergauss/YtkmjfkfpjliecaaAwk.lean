/- Complex numbers of whole parts; what the document fixes. -/
import Derived.Test.YtkmjfkfpjliecaaCpx
namespace Go.Proofs.Ytkmjfkfpjliecaa
open Go.RowKit
set_option linter.unusedVariables false

theorem mul_le {u v : Int} (hu : u.natAbs ≤ 33554432) (hv : v.natAbs ≤ 33554432) : (u * v).natAbs ≤ 1125899906842624 := by
  rw [Int.natAbs_mul]; exact Nat.mul_le_mul hu hv

theorem cmul_fv {a b c d : Nat} {u v x y : Int} (ha : FV 0 a u) (hb : FV 0 b v) (hc : FV 0 c x) (hd : FV 0 d y)
    (hu : u.natAbs ≤ 33554432) (hv : v.natAbs ≤ 33554432) (hx : x.natAbs ≤ 33554432) (hy : y.natAbs ≤ 33554432) :
    ∃ re im, FV 0 re (u * x - v * y) ∧ FV 0 im (u * y + v * x) ∧ ∀ w, Calls Try.prog 16 #[.complex .f64 a b, .complex .f64 c d] w fun e w' => e = .returned (.complex .f64 re im) ∧ w' = w := by
  have l1 := mul_le hu hx
  have l2 := mul_le hv hy
  have l3 := mul_le hu hy
  have l4 := mul_le hv hx
  have two : (2 : Nat) ^ 53 = 9007199254740992 := by decide
  obtain ⟨ac, h1, f1⟩ := ha.mul hc (by omega)
  obtain ⟨bd, h2, f2⟩ := hb.mul hd (by omega)
  obtain ⟨re, h3, f3⟩ := f1.sub f2 (by decide) (by decide) (by omega)
  obtain ⟨ad, h4, f4⟩ := ha.mul hd (by omega)
  obtain ⟨bc, h5, f5⟩ := hb.mul hc (by omega)
  obtain ⟨im, h6, f6⟩ := f4.add f5 (by decide) (by decide) (by omega)
  exact ⟨re, im, f3, f6, fun w => cmul_any h1 h2 h3 h4 h5 h6 w⟩

theorem cadd_fv {a b c d : Nat} {u v x y : Int} (ha : FV 0 a u) (hb : FV 0 b v) (hc : FV 0 c x) (hd : FV 0 d y)
    (hu : u.natAbs ≤ 33554432) (hv : v.natAbs ≤ 33554432) (hx : x.natAbs ≤ 33554432) (hy : y.natAbs ≤ 33554432) :
    ∃ re im, FV 0 re (u + x) ∧ FV 0 im (v + y) ∧ ∀ w, Calls Try.prog 17 #[.complex .f64 a b, .complex .f64 c d] w fun e w' => e = .returned (.complex .f64 re im) ∧ w' = w := by
  have two : (2 : Nat) ^ 53 = 9007199254740992 := by decide
  obtain ⟨re, h1, f1⟩ := ha.add hc (by decide) (by decide) (by omega)
  obtain ⟨im, h2, f2⟩ := hb.add hd (by decide) (by decide) (by omega)
  exact ⟨re, im, f1, f2, fun w => cadd_any h1 h2 w⟩

theorem F_fv (n : Int) (h : n.natAbs ≤ 2147483648) : FV 0 (F n) n := by
  have two : (2 : Nat) ^ 53 = 9007199254740992 := by decide
  exact FV.ofInt n (by omega)
theorem eq_fv {a b : Nat} {u v : Int} (ha : FV 0 a u) (hb : FV 0 b v) (h : u = v) : (FloatKind.f64.format.order a b == some .eq) = true := by
  rw [ha.order hb (by decide) (by decide), h]
  simp

theorem fv_zero : FV 0 0 0 := ⟨false, 0, by decide, by decide, by decide⟩
theorem fv_two : FV 0 4611686018427387904 2 := ⟨false, 2, by decide, by decide, by decide⟩
theorem fv_low : FV 0 13970166044103278592 (-2147483648) := ⟨true, 2147483648, by decide, by decide, by decide⟩
theorem fv_high : FV 0 4746794007248502784 2147483648 := ⟨false, 2147483648, by decide, by decide, by decide⟩

theorem awake_any (w : World) : Calls Try.prog 14 #[] w fun e w' => e = .returned (.bool true) ∧ w' = w := by
  have w1 : W 1 = 1 := by decide
  have f1 := F_fv 1 (by decide)
  obtain ⟨re, im, g1, g2, hmul⟩ := cmul_fv f1 f1 f1 f1 (by decide) (by decide) (by decide) (by decide)
  have e1 := eq_fv g1 fv_zero (by decide)
  have e2 := eq_fv g2 fv_two (by decide)
  have hc : ∀ w, Calls Try.prog 15 #[.int .i64 1, .int .i64 1] w fun e w' => e = .returned (.complex .f64 (F 1) (F 1)) ∧ w' = w := fun w => by
    have := complex_any 1 1 w; rw [w1] at this; exact this
  have hd : ∀ w, Calls Try.prog 8 #[.int .i64 7, .int .i64 (-2)] w fun e w' => e = .returned (.tuple #[.int .i64 (-3), .bool true]) ∧ w' = w := fun w => by
    have := div_any 7 (-2) w
    rw [show quoW 7 (-2) = -3 by decide, show hasW (-2) = true by decide] at this
    exact this
  have hwr : ∀ w, Calls Try.prog 10 #[.int .i64 2147483648] w fun e w' => e = .returned (.int .i64 (-2147483648)) ∧ w' = w := fun w => by
    have := wrap_any 2147483648 w
    rw [show W 2147483648 = -2147483648 by decide] at this
    exact this
  clear w1 f1 g1 g2
  go_enter Try.func14, Try.ntmps14
  go_wp2_with (first
    | (go_at_call 15; refine (hc _).mono ?_; rintro e w' ⟨rfl, hw⟩; have hw := hw.symm; subst hw)
    | (go_at_call 8; refine (hd _).mono ?_; rintro e w' ⟨rfl, hw⟩; have hw := hw.symm; subst hw)
    | (go_at_call 16; refine (hmul _).mono ?_; rintro e w' ⟨rfl, hw⟩; have hw := hw.symm; subst hw)
    | (go_at_call 10; refine (hwr _).mono ?_; rintro e w' ⟨rfl, hw⟩; have hw := hw.symm; subst hw))
  go_ret
  exact ⟨rfl, rfl⟩

set_option maxHeartbeats 2000000 in
theorem ints_walk (a b : Int) (w : World) : Calls Try.prog 3 #[.int .i64 a, .int .i64 b] w fun e w' => e = .returned (.bool true) ∧ w' = w := by
  have h1 := W_add a b
  have h2 := W_sub a b
  have h3 := W_mul a b
  go_enter Try.func3, Try.ntmps3
  go_wp2_with (first
    | (go_at_call 7; refine (refWrap_any _ _).mono ?_; rintro e w' ⟨rfl, hw⟩; have hw := hw.symm; subst hw)
    | (go_at_call 8; refine (div_any _ _ _).mono ?_; rintro e w' ⟨rfl, hw⟩; have hw := hw.symm; subst hw)
    | (go_at_call 9; refine (refDiv_any _ _ _).mono ?_; rintro e w' ⟨rfl, hw⟩; have hw := hw.symm; subst hw)
    | (go_at_call 10; refine (wrap_any _ _).mono ?_; rintro e w' ⟨rfl, hw⟩; have hw := hw.symm; subst hw)
    | (go_at_call 11; refine (add_any _ _ _).mono ?_; rintro e w' ⟨rfl, hw⟩; have hw := hw.symm; subst hw)
    | (go_at_call 12; refine (sub_any _ _ _).mono ?_; rintro e w' ⟨rfl, hw⟩; have hw := hw.symm; subst hw)
    | (go_at_call 13; refine (mul_any _ _ _).mono ?_; rintro e w' ⟨rfl, hw⟩; have hw := hw.symm; subst hw)
    | (go_at_call 14; refine (awake_any _).mono ?_; rintro e w' ⟨rfl, hw⟩; have hw := hw.symm; subst hw))
  go_ret
  exact ⟨rfl, rfl⟩
end Go.Proofs.Ytkmjfkfpjliecaa
