/- The walk of the law InstrLimits. -/
import Derived.Test.YtedcnfoipjchnaaWords
namespace Go.Proofs.Ytedcnfoipjchnaa
open Go.RowKit
set_option linter.unusedVariables false

theorem bl_empty : bl ⟨#[]⟩ = [] := rfl
/-- What the law wants of an Op of a kind that it asks. -/
theorem chk_plain {k : Int} (op a len loc : Int) (hk : k = 1 ∨ k = 2 ∨ k = 4 ∨ k = 5) :
    chk k op a 0 [] [] [] len loc = if sA k && !isI a then 5 else if k == 4 && !wi a loc || k == 5 && !wi a len then 4 else 0 := by
  rcases hk with rfl | rfl | rfl | rfl <;> simp [chk, sA, sB, nam]

/-- The walk, where Check's answer is told. -/
def LimCk (op a len loc c : Int) : Prop := ∀ w0 : World, Calls Try.prog 15 #[.agg #[.int .i64 op, .int .i64 a, .int .i64 0, .string ⟨#[]⟩, .string ⟨#[]⟩, .string ⟨#[]⟩], .int .i64 len, .int .i64 loc] w0 fun e w' => e = .returned (.int .i64 c) ∧ Ch w0 w'
theorem limCk (op a len loc c : Int) (h : chk (kd (ix op)) op a 0 [] [] [] len loc = c) : LimCk op a len loc c := fun w0 => by
  have hck := check_any op a 0 len loc ⟨#[]⟩ ⟨#[]⟩ ⟨#[]⟩ w0 (by decide) (by decide) (by decide)
  rw [bl_empty, h] at hck
  exact hck

set_option maxHeartbeats 4000000 in
theorem lim_bare (op a len loc : Int) (w : World) (hop : op = 1 ∨ op = 4 ∨ op = 7 ∨ op = 8 ∨ op = 36 ∨ op = 38) (l1 : 0 ≤ len) (l2 : len ≤ 1000) (m1 : 0 ≤ loc) (m2 : loc ≤ 1000) :
    Calls Try.prog 5 #[.int .i64 op, .int .i64 a, .int .i64 len, .int .i64 loc] w fun e w' => e = .returned (.bool true) ∧ Ch w w' := by
  have hc : LimCk op a len loc 0 := by
    apply limCk
    rcases hop with rfl | rfl | rfl | rfl | rfl | rfl <;> exact chk_plain _ a len loc (Or.inl rfl)
  unfold LimCk at hc
  obtain ⟨B, hB⟩ : ∃ B : Bool, B = (decide (a < -2147483648) || decide (2147483648 ≤ a)) := ⟨_, rfl⟩
  rcases hop with rfl | rfl | rfl | rfl | rfl | rfl
  all_goals
    go_enter Try.func5, Try.ntmps5
    go_wp2_with (first
      | (go_at_call 9; (with_reducible refine (awake_any _).mono ?_); rintro e w5 ⟨rfl, hc5⟩)
      | (go_at_call 15; (with_reducible refine (hc _).mono ?_); rintro e w4 ⟨rfl, hc4⟩))
  all_goals go_ret
  all_goals exact ⟨rfl, (((Ch.refl w).alloc _).trans hc4).trans hc5⟩

/-- Where an int is, by its size. -/
theorem five (a s : Int) : a < -2147483648 ∨ (-2147483648 ≤ a ∧ 2147483648 ≤ a) ∨ (-2147483648 ≤ a ∧ a < 2147483648 ∧ a < 0) ∨ (-2147483648 ≤ a ∧ a < 2147483648 ∧ 0 ≤ a ∧ s ≤ a) ∨ (-2147483648 ≤ a ∧ a < 2147483648 ∧ 0 ≤ a ∧ a < s) := by omega
theorem isI_t {a : Int} (h : -2147483648 ≤ a ∧ a < 2147483648) : isI a = true := by unfold isI; simp; omega
theorem isI_f {a : Int} (h : a < -2147483648 ∨ 2147483648 ≤ a) : isI a = false := by
  unfold isI
  rcases h with h | h
  · rw [decide_eq_false (by omega)]; rfl
  · rw [decide_eq_false (p := a ≤ 2147483647) (by omega), Bool.and_false]
theorem wi_t {a s : Int} (h : 0 ≤ a ∧ a < s) : wi a s = true := by unfold wi; simp; omega
theorem wi_f {a s : Int} (h : a < 0 ∨ s ≤ a) : wi a s = false := by
  unfold wi
  rcases h with h | h
  · rw [decide_eq_false (by omega)]; rfl
  · rw [decide_eq_false (p := a < s) (by omega), Bool.and_false]

/-- The Ops whose A is a place, and of how many. -/
def Place (op len loc s : Int) : Prop := (op = 5 ∨ op = 6) ∧ s = loc ∨ (op = 17 ∨ op = 18 ∨ op = 19 ∨ op = 20) ∧ s = len
theorem place_ck {op len loc s : Int} (a : Int) (hop : Place op len loc s) : LimCk op a len loc (if !isI a then 5 else if !wi a s then 4 else 0) := by
  apply limCk
  rcases hop with ⟨rfl | rfl, rfl⟩ | ⟨rfl | rfl | rfl | rfl, rfl⟩
  · refine (chk_plain (k := 4) 5 a len s (by omega)).trans ?_; simp [sA]
  · refine (chk_plain (k := 4) 6 a len s (by omega)).trans ?_; simp [sA]
  · refine (chk_plain (k := 5) 17 a s loc (by omega)).trans ?_; simp [sA]
  · refine (chk_plain (k := 5) 18 a s loc (by omega)).trans ?_; simp [sA]
  · refine (chk_plain (k := 5) 19 a s loc (by omega)).trans ?_; simp [sA]
  · refine (chk_plain (k := 5) 20 a s loc (by omega)).trans ?_; simp [sA]
end Go.Proofs.Ytedcnfoipjchnaa
