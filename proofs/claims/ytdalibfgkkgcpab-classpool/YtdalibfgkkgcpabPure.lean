/- The document's own answer: which fields an Op has; an instruction with these alone. -/
import Derived.Test.YtdalibfgkkgcpabOwn
namespace Go.Proofs.Ytdalibfgkkgcpab
open Go.RowKit
set_option linter.unusedVariables false

/-- Is it an Op? -/
def isOp (op : Int) : Bool := decide (1 ≤ op) && decide (op ≤ 38)

/-- The kinds by the Op. -/
theorem kind_at (op : Int) : (op = 2 ∨ op = 5 ∨ op = 6 ∨ op = 17 ∨ op = 18 ∨ op = 19 ∨ op = 20) ∧ (kd (ix op) = 2 ∨ kd (ix op) = 4 ∨ kd (ix op) = 5) ∨ op = 3 ∧ kd (ix op) = 3 ∨ op = 21 ∧ kd (ix op) = 6 ∨
    (op = 26 ∨ op = 30 ∨ op = 31) ∧ (kd (ix op) = 7 ∨ kd (ix op) = 8) ∨ (op = 22 ∨ op = 23 ∨ op = 24 ∨ op = 25 ∨ op = 32 ∨ op = 33 ∨ op = 34 ∨ op = 35) ∧ (kd (ix op) = 9 ∨ kd (ix op) = 10) ∨
    ((op == 2) = false ∧ (op == 5) = false ∧ (op == 6) = false ∧ (op == 17) = false ∧ (op == 18) = false ∧ (op == 19) = false ∧ (op == 20) = false ∧ (op == 3) = false ∧ (op == 21) = false ∧ (op == 26) = false ∧ (op == 30) = false ∧ (op == 31) = false ∧
      (op == 22) = false ∧ (op == 23) = false ∧ (op == 24) = false ∧ (op == 25) = false ∧ (op == 32) = false ∧ (op == 33) = false ∧ (op == 34) = false ∧ (op == 35) = false) ∧ (kd (ix op) = 0 ∨ kd (ix op) = 1) := by
  by_cases h : 0 ≤ op ∧ op ≤ 38
  · obtain ⟨k, rfl⟩ : ∃ k : Nat, op = (k : Int) := ⟨op.toNat, by omega⟩
    rw [ix_yes k (by omega)]
    have hk : k < 39 := by omega
    have := on_range (n := 39) (g := fun _ => true) (f := fun k : Nat => decide (((k : Int) = 2 ∨ (k : Int) = 5 ∨ (k : Int) = 6 ∨ (k : Int) = 17 ∨ (k : Int) = 18 ∨ (k : Int) = 19 ∨ (k : Int) = 20) ∧ (kd k = 2 ∨ kd k = 4 ∨ kd k = 5) ∨ (k : Int) = 3 ∧ kd k = 3 ∨ (k : Int) = 21 ∧ kd k = 6 ∨
      ((k : Int) = 26 ∨ (k : Int) = 30 ∨ (k : Int) = 31) ∧ (kd k = 7 ∨ kd k = 8) ∨ ((k : Int) = 22 ∨ (k : Int) = 23 ∨ (k : Int) = 24 ∨ (k : Int) = 25 ∨ (k : Int) = 32 ∨ (k : Int) = 33 ∨ (k : Int) = 34 ∨ (k : Int) = 35) ∧ (kd k = 9 ∨ kd k = 10) ∨
      (((k : Int) == 2) = false ∧ ((k : Int) == 5) = false ∧ ((k : Int) == 6) = false ∧ ((k : Int) == 17) = false ∧ ((k : Int) == 18) = false ∧ ((k : Int) == 19) = false ∧ ((k : Int) == 20) = false ∧ ((k : Int) == 3) = false ∧ ((k : Int) == 21) = false ∧ ((k : Int) == 26) = false ∧ ((k : Int) == 30) = false ∧ ((k : Int) == 31) = false ∧
        ((k : Int) == 22) = false ∧ ((k : Int) == 23) = false ∧ ((k : Int) == 24) = false ∧ ((k : Int) == 25) = false ∧ ((k : Int) == 32) = false ∧ ((k : Int) == 33) = false ∧ ((k : Int) == 34) = false ∧ ((k : Int) == 35) = false) ∧ (kd k = 0 ∨ kd k = 1))) (by kernel_rfl) hk
    simpa only [decide_eq_true_eq] using this
  · rw [ix_no (by omega)]
    refine Or.inr (Or.inr (Or.inr (Or.inr (Or.inr ⟨?_, Or.inl rfl⟩))))
    refine ⟨?_, ?_, ?_, ?_, ?_, ?_, ?_, ?_, ?_, ?_, ?_, ?_, ?_, ?_, ?_, ?_, ?_, ?_, ?_, ?_⟩ <;> (simp; omega)

/-- What the document's function answers. -/
def shR (op : Int) : Value := .tuple #[.agg #[.bool (sA (kd (ix op))), .bool (sB (kd (ix op))), .bool (sC (kd (ix op))), .bool (sN (kd (ix op))), .bool (sD (kd (ix op)))], .bool (isOp op)]

end Go.Proofs.Ytdalibfgkkgcpab
