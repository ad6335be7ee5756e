/- What the document fixes; the walk of the law InstrWords. -/
import Derived.Test.YtedcnfoipjchnaaChk
namespace Go.Proofs.Ytedcnfoipjchnaa
open Go.RowKit
set_option linter.unusedVariables false

theorem eff_call : eff (ix 34) (meth [40, 73, 41, 86]) = .tuple #[.int .i64 2, .int .i64 0, .int .i64 0] := by kernel_rfl
theorem word_2 : wB (ix 2) = ⟨#[105, 99, 111, 110, 115, 116]⟩ := by kernel_rfl
theorem chk_zero : chk (kd (ix 0)) 0 0 0 (bl ⟨#[]⟩) (bl ⟨#[]⟩) (bl ⟨#[]⟩) 1 1 = 3 := by kernel_rfl

set_option maxHeartbeats 1000000 in
theorem awake_any (w : World) : Calls Try.prog 9 #[] w fun e w' => e = .returned (.bool true) ∧ Ch w w' := by
  have h1 := fun w0 => effect_any 34 0 0 ⟨#[]⟩ ⟨#[]⟩ ⟨#[40, 73, 41, 86]⟩ w0 (by decide)
  have eb : bl ⟨#[40, 73, 41, 86]⟩ = [40, 73, 41, 86] := rfl
  rw [eb, eff_call] at h1
  have h2 := fun w0 => word_any 2 w0
  rw [word_2] at h2
  have h3 := fun w0 => check_any 0 0 0 1 1 ⟨#[]⟩ ⟨#[]⟩ ⟨#[]⟩ w0 (by decide) (by decide) (by decide)
  rw [chk_zero] at h3
  clear eb
  go_enter Try.func9, Try.ntmps9
  go_wp2_with (first
    | (go_at_call 17; (with_reducible refine (h1 _).mono ?_); rintro e w2 ⟨rfl, hc2⟩)
    | (go_at_call 13; (with_reducible refine (h2 _).mono ?_); rintro e w3 ⟨rfl, hc3⟩)
    | (go_at_call 15; (with_reducible refine (h3 _).mono ?_); rintro e w4 ⟨rfl, hc4⟩))
  go_ret
  exact ⟨rfl, (hc2.trans hc3).trans hc4⟩

theorem words_all {i j : Nat} (hi : i < 39) (hj : j < 39) : (wordsL.getD i [] == wordsL.getD j []) = (i == j) :=
  on_range (f := fun j => wordsL.getD i [] == wordsL.getD j []) (g := fun j => i == j) (n := 39)
    (on_range (f := fun i => (List.range 39).map fun j => wordsL.getD i [] == wordsL.getD j []) (g := fun i => (List.range 39).map fun j => i == j) (n := 39) (by kernel_rfl) hi) hj
theorem words_some {i : Nat} (hi : i < 39) (h1 : 1 ≤ i) : (wordsL.getD i []).isEmpty = false ∧ (kd i != 0) = true := by
  have h := on_range (f := fun i => decide (1 ≤ i → (wordsL.getD i []).isEmpty = false ∧ (kindsL.getD i 0 != 0) = true)) (g := fun _ => true) (n := 39) (by kernel_rfl) hi
  simp only [decide_eq_true_eq] at h
  exact h h1
theorem ix_lt (op : Int) : ix op < 39 := by unfold ix; split <;> omega
theorem ix_same {a b : Int} (h : 1 ≤ a ∧ a ≤ 38) : (ix a == ix b) = (a == b) := by
  rw [Bool.eq_iff_iff, beq_iff_eq, beq_iff_eq]
  unfold ix
  constructor
  · intro e; split at e <;> split at e <;> omega
  · rintro rfl; rfl
theorem wB_toList (k : Nat) : (wB k).toList = wordsL.getD k [] := ms_toList _

set_option maxHeartbeats 1000000 in
theorem words_main (a b : Int) (w : World) : Calls Try.prog 4 #[.int .i64 a, .int .i64 b] w fun e w' => e = .returned (.bool true) ∧ Ch w w' := by
  have h1 := fun w0 => word_any a w0
  have h2 := fun w0 => word_any b w0
  have h3 := fun w0 => of_any a w0
  by_cases hv : 1 ≤ a ∧ a ≤ 38
  · have i1 : 1 ≤ ix a := by unfold ix; rw [if_pos (by omega)]; omega
    obtain ⟨s1, s2⟩ := words_some (ix_lt a) i1
    have s3 := words_all (ix_lt a) (ix_lt b)
    rw [ix_same hv, ← wB_toList, ← wB_toList] at s3
    rw [← wB_toList] at s1
    rw [s2] at h3
    have s4 : ((wB (ix a)).toList == []) = false := by rw [beq_nil]; exact s1
    have s5 : ((wB (ix a)).toList != []) = true := by rw [bne, s4]; rfl
    simp only [sh] at h3
    clear i1 s2
    generalize wB (ix a) = X at *
    generalize wB (ix b) = Y at *
    generalize sA (kd (ix a)) = b1 at *
    generalize sB (kd (ix a)) = b2 at *
    generalize sC (kd (ix a)) = b3 at *
    generalize sN (kd (ix a)) = b4 at *
    generalize sD (kd (ix a)) = b5 at *
    obtain ⟨q, hq⟩ : ∃ q, (a == b) = q := ⟨_, rfl⟩
    rw [hq] at s3
    obtain ⟨hv1, hv2⟩ := hv
    cases q
    all_goals
      go_enter Try.func4, Try.ntmps4
      go_wp2_with (first
        | (go_at_call 13; (with_reducible refine (h1 _).mono ?_); rintro e w2 ⟨rfl, hc2⟩)
        | (go_at_call 13; (with_reducible refine (h2 _).mono ?_); rintro e w3 ⟨rfl, hc3⟩)
        | (go_at_call 14; (with_reducible refine (h3 _).mono ?_); rintro e w4 ⟨rfl, hc4⟩)
        | (go_at_call 9; (with_reducible refine (awake_any _).mono ?_); rintro e w5 ⟨rfl, hc5⟩))
      go_ret
      exact ⟨rfl, ((((hc2.trans hc3).trans hc4).alloc _).trans hc5)⟩
  · have i0 : ix a = 0 := by unfold ix; split <;> omega
    have s1 : wB 0 = ⟨#[]⟩ := rfl
    have s2 : (kd 0 != 0) = false := rfl
    rw [i0, s1] at h1
    rw [i0, s2] at h3
    simp only [sh] at h3
    generalize wB (ix b) = Y at *
    generalize sA (kd 0) = b1 at *
    generalize sB (kd 0) = b2 at *
    generalize sC (kd 0) = b3 at *
    generalize sN (kd 0) = b4 at *
    generalize sD (kd 0) = b5 at *
    clear i0 s1 s2
    have hv2 : a < 1 ∨ (1 ≤ a ∧ decide (a ≤ 38) = false) := by simp only [decide_eq_false_iff_not]; omega
    clear hv
    rcases hv2 with hv | ⟨hv, hv3⟩
    all_goals
      go_enter Try.func4, Try.ntmps4
      go_wp2_with (first
        | (go_at_call 13; (with_reducible refine (h1 _).mono ?_); rintro e w2 ⟨rfl, hc2⟩)
        | (go_at_call 13; (with_reducible refine (h2 _).mono ?_); rintro e w3 ⟨rfl, hc3⟩)
        | (go_at_call 14; (with_reducible refine (h3 _).mono ?_); rintro e w4 ⟨rfl, hc4⟩)
        | (go_at_call 9; (with_reducible refine (awake_any _).mono ?_); rintro e w5 ⟨rfl, hc5⟩))
      go_ret
      exact ⟨rfl, ((((hc2.trans hc3).trans hc4).alloc _).trans hc5)⟩
end Go.Proofs.Ytedcnfoipjchnaa
