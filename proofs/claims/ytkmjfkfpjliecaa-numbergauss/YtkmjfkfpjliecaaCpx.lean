/- What the functions of chapter 3 on complex numbers answer. -/
import Derived.Test.YtkmjfkfpjliecaaNums
namespace Go.Proofs.Ytkmjfkfpjliecaa
open Go.RowKit
set_option linter.unusedVariables false

def F (n : Int) : Nat := floatOfInt .f64 n

theorem complex_any (a b : Int) (w : World) : Calls Try.prog 15 #[.int .i64 a, .int .i64 b] w fun e w' => e = .returned (.complex .f64 (F (W a)) (F (W b))) ∧ w' = w := by
  unfold F
  go_enter Try.func15, Try.ntmps15
  go_wp2_with (go_at_call 10; refine (wrap_any _ _).mono ?_; rintro e w' ⟨rfl, hw⟩; have hw := hw.symm; subst hw)
  go_ret
  exact ⟨rfl, rfl⟩

theorem cadd_any {a b c d re im : Nat} (h1 : floatBits .add .f64 a c = some re) (h2 : floatBits .add .f64 b d = some im) (w : World) :
    Calls Try.prog 17 #[.complex .f64 a b, .complex .f64 c d] w fun e w' => e = .returned (.complex .f64 re im) ∧ w' = w := by
  have r1 := fun w0 t => run_float_arith (P := Try.prog) w0 .add t .f64 a c re h1
  have r2 := fun w0 t => run_float_arith (P := Try.prog) w0 .add t .f64 b d im h2
  clear h1 h2
  go_enter Try.func17, Try.ntmps17
  go_wp2
  go_ret
  exact ⟨rfl, rfl⟩

theorem cmul_any {a b c d ac bd ad bc re im : Nat} (h1 : floatBits .mul .f64 a c = some ac) (h2 : floatBits .mul .f64 b d = some bd) (h3 : floatBits .sub .f64 ac bd = some re)
    (h4 : floatBits .mul .f64 a d = some ad) (h5 : floatBits .mul .f64 b c = some bc) (h6 : floatBits .add .f64 ad bc = some im) (w : World) :
    Calls Try.prog 16 #[.complex .f64 a b, .complex .f64 c d] w fun e w' => e = .returned (.complex .f64 re im) ∧ w' = w := by
  have r1 := fun w0 t => run_float_arith (P := Try.prog) w0 .mul t .f64 a c ac h1
  have r2 := fun w0 t => run_float_arith (P := Try.prog) w0 .mul t .f64 b d bd h2
  have r3 := fun w0 t => run_float_arith (P := Try.prog) w0 .sub t .f64 ac bd re h3
  have r4 := fun w0 t => run_float_arith (P := Try.prog) w0 .mul t .f64 a d ad h4
  have r5 := fun w0 t => run_float_arith (P := Try.prog) w0 .mul t .f64 b c bc h5
  have r6 := fun w0 t => run_float_arith (P := Try.prog) w0 .add t .f64 ad bc im h6
  clear h1 h2 h3 h4 h5 h6
  go_enter Try.func16, Try.ntmps16
  go_wp2
  go_ret
  exact ⟨rfl, rfl⟩

theorem real_in {a b : Nat} {n : Int} (hg : (FloatKind.f64.format.order a 13970166044103278592 == some .gt || FloatKind.f64.format.order a 13970166044103278592 == some .eq) = true)
    (hl : (FloatKind.f64.format.order a 4746794007248502784 == some .lt) = true) (hn : floatToIntVal .f64 a .i64 = some n) (w : World) :
    Calls Try.prog 18 #[.complex .f64 a b] w fun e w' => e = .returned (.int .i64 n) ∧ w' = w := by
  have r1 := fun w0 => run_convert_float_int (P := Try.prog) w0 34 3 .f64 .i64 a n (by kernel_rfl) (by kernel_rfl) hn
  clear hn
  go_enter Try.func18, Try.ntmps18
  go_wp2
  go_ret
  exact ⟨rfl, rfl⟩

theorem real_over {a b : Nat} (hg : (FloatKind.f64.format.order a 13970166044103278592 == some .gt || FloatKind.f64.format.order a 13970166044103278592 == some .eq) = true)
    (hl : (FloatKind.f64.format.order a 4746794007248502784 == some .lt) = false) (w : World) :
    Calls Try.prog 18 #[.complex .f64 a b] w fun e w' => e = .returned (.int .i64 0) ∧ w' = w := by
  go_enter Try.func18, Try.ntmps18
  go_wp2
  go_ret
  exact ⟨rfl, rfl⟩
end Go.Proofs.Ytkmjfkfpjliecaa
