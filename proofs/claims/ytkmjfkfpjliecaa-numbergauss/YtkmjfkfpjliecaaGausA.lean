/- Complex numbers of small whole parts: what the calls of the law NumberGauss answer. -/
import Derived.Test.YtkmjfkfpjliecaaRealA
namespace Go.Proofs.Ytkmjfkfpjliecaa
open Go.RowKit
set_option linter.unusedVariables false

theorem complex_as (a b : Int) (ha : a.natAbs ≤ 2147483647) (hb : b.natAbs ≤ 2147483647) :
    ∃ r i, FV 0 r a ∧ FV 0 i b ∧ ∀ w, Calls Try.prog 15 #[.int .i64 a, .int .i64 b] w fun e w' => e = .returned (.complex .f64 r i) ∧ w' = w := by
  refine ⟨F a, F b, F_fv a (by omega), F_fv b (by omega), fun w => ?_⟩
  have h := complex_any a b w
  rw [W_id (by omega) (by omega), W_id (n := b) (by omega) (by omega)] at h
  exact h

theorem real_as {r : Nat} {a : Int} (i : Nat) (h : FV 0 r a) (ha : a.natAbs ≤ 999) (w : World) : Calls Try.prog 18 #[.complex .f64 r i] w fun e w' => e = .returned (.int .i64 a) ∧ w' = w := by
  have fx3 := h.lower 3 (by decide) (by omega)
  have e8 : ((2 ^ 3 : Nat) : Int) = 8 := by decide
  rw [e8] at fx3
  have e3 : (0 : Int) - ((3 : Nat) : Int) = -3 := by decide
  rw [e3] at fx3
  have hr := real_fv i fx3 (by omega) (by omega) w
  rw [Int.mul_tdiv_cancel _ (by decide)] at hr
  exact hr

theorem small {u v : Int} (hu : u.natAbs ≤ 999) (hv : v.natAbs ≤ 999) : (u * v).natAbs ≤ 998001 := by
  rw [Int.natAbs_mul]; exact Nat.mul_le_mul hu hv

theorem gauss_pre (A B C D : Int) (hA : A.natAbs ≤ 999) (hB : B.natAbs ≤ 999) (hC : C.natAbs ≤ 999) (hD : D.natAbs ≤ 999) :
    ∃ xa xb yc yd re im p1 p2 sr si q1 q2 : Nat, FV 0 xa A ∧ FV 0 xb B
      ∧ (∀ w, Calls Try.prog 15 #[.int .i64 A, .int .i64 B] w fun e w' => e = .returned (.complex .f64 xa xb) ∧ w' = w)
      ∧ (∀ w, Calls Try.prog 15 #[.int .i64 C, .int .i64 D] w fun e w' => e = .returned (.complex .f64 yc yd) ∧ w' = w)
      ∧ (∀ w, Calls Try.prog 16 #[.complex .f64 xa xb, .complex .f64 yc yd] w fun e w' => e = .returned (.complex .f64 re im) ∧ w' = w)
      ∧ (∀ w, Calls Try.prog 15 #[.int .i64 (A * C - B * D), .int .i64 (A * D + B * C)] w fun e w' => e = .returned (.complex .f64 p1 p2) ∧ w' = w)
      ∧ (FloatKind.f64.format.order re p1 == some .eq) = true ∧ (FloatKind.f64.format.order im p2 == some .eq) = true
      ∧ (∀ w, Calls Try.prog 17 #[.complex .f64 xa xb, .complex .f64 yc yd] w fun e w' => e = .returned (.complex .f64 sr si) ∧ w' = w)
      ∧ (∀ w, Calls Try.prog 15 #[.int .i64 (A + C), .int .i64 (B + D)] w fun e w' => e = .returned (.complex .f64 q1 q2) ∧ w' = w)
      ∧ (FloatKind.f64.format.order sr q1 == some .eq) = true ∧ (FloatKind.f64.format.order si q2 == some .eq) = true
      ∧ (∀ w, Calls Try.prog 18 #[.complex .f64 xa xb] w fun e w' => e = .returned (.int .i64 A) ∧ w' = w) := by
  have l1 := small hA hC
  have l2 := small hB hD
  have l3 := small hA hD
  have l4 := small hB hC
  obtain ⟨xa, xb, fa, fb, hx⟩ := complex_as A B (by omega) (by omega)
  obtain ⟨yc, yd, fc, fd, hy⟩ := complex_as C D (by omega) (by omega)
  obtain ⟨re, im, fr, fi, hm⟩ := cmul_fv fa fb fc fd (by omega) (by omega) (by omega) (by omega)
  obtain ⟨p1, p2, fp1, fp2, hp⟩ := complex_as (A * C - B * D) (A * D + B * C) (by omega) (by omega)
  obtain ⟨sr, si, fsr, fsi, hs⟩ := cadd_fv fa fb fc fd (by omega) (by omega) (by omega) (by omega)
  obtain ⟨q1, q2, fq1, fq2, hq⟩ := complex_as (A + C) (B + D) (by omega) (by omega)
  exact ⟨xa, xb, yc, yd, re, im, p1, p2, sr, si, q1, q2, fa, fb, hx, hy, hm, hp, eq_fv fr fp1 rfl, eq_fv fi fp2 rfl, hs, hq, eq_fv fsr fq1 rfl, eq_fv fsi fq2 rfl, fun w => real_as xb fa hA w⟩

/-- So many turns of i. -/
def tn (a b : Int) : Nat → Int × Int
  | 0 => (a, b)
  | k + 1 => (-(tn a b k).2, (tn a b k).1)
theorem tn_four (a b : Int) (k : Nat) : tn a b (k + 4) = tn a b k := by
  simp [tn]
theorem tn_all (a b : Int) (k : Nat) : tn a b (4 * k) = (a, b) := by
  induction k with
  | zero => rfl
  | succ k ih => rw [show 4 * (k + 1) = 4 * k + 4 by omega, tn_four, ih]
theorem tn_le (a b : Int) (ha : a.natAbs ≤ 999) (hb : b.natAbs ≤ 999) (k : Nat) : (tn a b k).1.natAbs ≤ 999 ∧ (tn a b k).2.natAbs ≤ 999 := by
  induction k with
  | zero => exact ⟨ha, hb⟩
  | succ k ih => simp only [tn]; omega

def Turned (a b : Int) (k : Nat) (z : Value) : Prop := ∃ r i, z = .complex .f64 r i ∧ FV 0 r (tn a b k).1 ∧ FV 0 i (tn a b k).2

theorem turn_one {a b : Int} (ha : a.natAbs ≤ 999) (hb : b.natAbs ≤ 999) {k : Nat} {r i f0 f1 : Nat} (hr : FV 0 r (tn a b k).1) (hi : FV 0 i (tn a b k).2) (h0 : FV 0 f0 0) (h1 : FV 0 f1 1) :
    ∃ re im, Turned a b (k + 1) (.complex .f64 re im) ∧ ∀ w, Calls Try.prog 16 #[.complex .f64 r i, .complex .f64 f0 f1] w fun e w' => e = .returned (.complex .f64 re im) ∧ w' = w := by
  have hl := tn_le a b ha hb k
  obtain ⟨re, im, f, g, hm⟩ := cmul_fv hr hi h0 h1 (by omega) (by omega) (by decide) (by decide)
  refine ⟨re, im, ⟨re, im, rfl, ?_, ?_⟩, hm⟩
  · have e : (tn a b k).1 * 0 - (tn a b k).2 * 1 = (tn a b (k + 1)).1 := by simp only [tn]; omega
    rw [← e]; exact f
  · have e : (tn a b k).1 * 1 + (tn a b k).2 * 0 = (tn a b (k + 1)).2 := by simp only [tn]; omega
    rw [← e]; exact g
end Go.Proofs.Ytkmjfkfpjliecaa
