/- The document's own check of an instruction is the program's. -/
import Derived.Test.YtdalibfgkkgcpaaGreatKRefC
namespace Go.Proofs.YtdalibfgkkgcpaaGreat
open Go.RowKit
set_option linter.unusedVariables false

def Pt2 (op : Int) : Prop := (isOp op = false ∧ sA (kd (ix op)) = false ∧ sB (kd (ix op)) = false ∧ sC (kd (ix op)) = false ∧ sN (kd (ix op)) = false ∧ sD (kd (ix op)) = false ∧ fldO op = false ∧ calO op = false ∧ jmpO op = false ∧ (op == 26) = false ∧ (op == 30) = false ∧ (op == 31) = false ∧ (op == 5) = false ∧ (op == 6) = false ∧ kd (ix op) = 0) ∨
  (isOp op = true ∧ sA (kd (ix op)) = false ∧ sB (kd (ix op)) = false ∧ sC (kd (ix op)) = false ∧ sN (kd (ix op)) = false ∧ sD (kd (ix op)) = false ∧ fldO op = false ∧ calO op = false ∧ jmpO op = false ∧ (op == 26) = false ∧ (op == 30) = false ∧ (op == 31) = false ∧ (op == 5) = false ∧ (op == 6) = false ∧ kd (ix op) = 1) ∨
  (isOp op = true ∧ sA (kd (ix op)) = true ∧ sB (kd (ix op)) = false ∧ sC (kd (ix op)) = false ∧ sN (kd (ix op)) = false ∧ sD (kd (ix op)) = false ∧ fldO op = false ∧ calO op = false ∧ jmpO op = false ∧ (op == 26) = false ∧ (op == 30) = false ∧ (op == 31) = false ∧ (op == 5) = false ∧ (op == 6) = false ∧ kd (ix op) = 2) ∨
  (isOp op = true ∧ sA (kd (ix op)) = true ∧ sB (kd (ix op)) = true ∧ sC (kd (ix op)) = false ∧ sN (kd (ix op)) = false ∧ sD (kd (ix op)) = false ∧ fldO op = false ∧ calO op = false ∧ jmpO op = false ∧ (op == 26) = false ∧ (op == 30) = false ∧ (op == 31) = false ∧ (op == 5) = false ∧ (op == 6) = false ∧ kd (ix op) = 3) ∨
  (isOp op = true ∧ sA (kd (ix op)) = true ∧ sB (kd (ix op)) = false ∧ sC (kd (ix op)) = false ∧ sN (kd (ix op)) = false ∧ sD (kd (ix op)) = false ∧ fldO op = false ∧ calO op = false ∧ jmpO op = false ∧ (op == 26) = false ∧ (op == 30) = false ∧ (op == 31) = false ∧ (op == 5) = true ∧ (op == 6) = false ∧ kd (ix op) = 4) ∨
  (isOp op = true ∧ sA (kd (ix op)) = true ∧ sB (kd (ix op)) = false ∧ sC (kd (ix op)) = false ∧ sN (kd (ix op)) = false ∧ sD (kd (ix op)) = false ∧ fldO op = false ∧ calO op = false ∧ jmpO op = false ∧ (op == 26) = false ∧ (op == 30) = false ∧ (op == 31) = false ∧ (op == 5) = false ∧ (op == 6) = true ∧ kd (ix op) = 4) ∨
  (isOp op = true ∧ sA (kd (ix op)) = true ∧ sB (kd (ix op)) = false ∧ sC (kd (ix op)) = false ∧ sN (kd (ix op)) = false ∧ sD (kd (ix op)) = false ∧ fldO op = false ∧ calO op = false ∧ jmpO op = true ∧ (op == 26) = false ∧ (op == 30) = false ∧ (op == 31) = false ∧ (op == 5) = false ∧ (op == 6) = false ∧ kd (ix op) = 5) ∨
  (isOp op = true ∧ sA (kd (ix op)) = false ∧ sB (kd (ix op)) = false ∧ sC (kd (ix op)) = true ∧ sN (kd (ix op)) = false ∧ sD (kd (ix op)) = false ∧ fldO op = false ∧ calO op = false ∧ jmpO op = false ∧ (op == 26) = false ∧ (op == 30) = false ∧ (op == 31) = false ∧ (op == 5) = false ∧ (op == 6) = false ∧ kd (ix op) = 6) ∨
  (isOp op = true ∧ sA (kd (ix op)) = false ∧ sB (kd (ix op)) = false ∧ sC (kd (ix op)) = false ∧ sN (kd (ix op)) = false ∧ sD (kd (ix op)) = true ∧ fldO op = false ∧ calO op = false ∧ jmpO op = false ∧ (op == 26) = true ∧ (op == 30) = false ∧ (op == 31) = false ∧ (op == 5) = false ∧ (op == 6) = false ∧ kd (ix op) = 7) ∨
  (isOp op = true ∧ sA (kd (ix op)) = false ∧ sB (kd (ix op)) = false ∧ sC (kd (ix op)) = false ∧ sN (kd (ix op)) = false ∧ sD (kd (ix op)) = true ∧ fldO op = false ∧ calO op = false ∧ jmpO op = false ∧ (op == 26) = false ∧ (op == 30) = true ∧ (op == 31) = false ∧ (op == 5) = false ∧ (op == 6) = false ∧ kd (ix op) = 8) ∨
  (isOp op = true ∧ sA (kd (ix op)) = false ∧ sB (kd (ix op)) = false ∧ sC (kd (ix op)) = false ∧ sN (kd (ix op)) = false ∧ sD (kd (ix op)) = true ∧ fldO op = false ∧ calO op = false ∧ jmpO op = false ∧ (op == 26) = false ∧ (op == 30) = false ∧ (op == 31) = true ∧ (op == 5) = false ∧ (op == 6) = false ∧ kd (ix op) = 8) ∨
  (isOp op = true ∧ sA (kd (ix op)) = false ∧ sB (kd (ix op)) = false ∧ sC (kd (ix op)) = true ∧ sN (kd (ix op)) = true ∧ sD (kd (ix op)) = true ∧ fldO op = true ∧ calO op = false ∧ jmpO op = false ∧ (op == 26) = false ∧ (op == 30) = false ∧ (op == 31) = false ∧ (op == 5) = false ∧ (op == 6) = false ∧ kd (ix op) = 9) ∨
  (isOp op = true ∧ sA (kd (ix op)) = false ∧ sB (kd (ix op)) = false ∧ sC (kd (ix op)) = true ∧ sN (kd (ix op)) = true ∧ sD (kd (ix op)) = true ∧ fldO op = false ∧ calO op = true ∧ jmpO op = false ∧ (op == 26) = false ∧ (op == 30) = false ∧ (op == 31) = false ∧ (op == 5) = false ∧ (op == 6) = false ∧ kd (ix op) = 10)

theorem pt2_any (op : Int) : Pt2 op := by
  by_cases h : 0 ≤ op ∧ op ≤ 38
  · have hop : op = 0 ∨ op = 1 ∨ op = 2 ∨ op = 3 ∨ op = 4 ∨ op = 5 ∨ op = 6 ∨ op = 7 ∨ op = 8 ∨ op = 9 ∨ op = 10 ∨ op = 11 ∨ op = 12 ∨ op = 13 ∨ op = 14 ∨ op = 15 ∨ op = 16 ∨ op = 17 ∨ op = 18 ∨ op = 19 ∨ op = 20 ∨ op = 21 ∨ op = 22 ∨ op = 23 ∨ op = 24 ∨ op = 25 ∨ op = 26 ∨ op = 27 ∨ op = 28 ∨ op = 29 ∨ op = 30 ∨ op = 31 ∨ op = 32 ∨ op = 33 ∨ op = 34 ∨ op = 35 ∨ op = 36 ∨ op = 37 ∨ op = 38 := by omega
    rcases hop with rfl | rfl | rfl | rfl | rfl | rfl | rfl | rfl | rfl | rfl | rfl | rfl | rfl | rfl | rfl | rfl | rfl | rfl | rfl | rfl | rfl | rfl | rfl | rfl | rfl | rfl | rfl | rfl | rfl | rfl | rfl | rfl | rfl | rfl | rfl | rfl | rfl | rfl | rfl
    · exact Or.inl ⟨by decide, by decide, by decide, by decide, by decide, by decide, by decide, by decide, by decide, by decide, by decide, by decide, by decide, by decide, by decide⟩
    · exact Or.inr (Or.inl ⟨by decide, by decide, by decide, by decide, by decide, by decide, by decide, by decide, by decide, by decide, by decide, by decide, by decide, by decide, by decide⟩)
    · exact Or.inr (Or.inr (Or.inl ⟨by decide, by decide, by decide, by decide, by decide, by decide, by decide, by decide, by decide, by decide, by decide, by decide, by decide, by decide, by decide⟩))
    · exact Or.inr (Or.inr (Or.inr (Or.inl ⟨by decide, by decide, by decide, by decide, by decide, by decide, by decide, by decide, by decide, by decide, by decide, by decide, by decide, by decide, by decide⟩)))
    · exact Or.inr (Or.inl ⟨by decide, by decide, by decide, by decide, by decide, by decide, by decide, by decide, by decide, by decide, by decide, by decide, by decide, by decide, by decide⟩)
    · exact Or.inr (Or.inr (Or.inr (Or.inr (Or.inl ⟨by decide, by decide, by decide, by decide, by decide, by decide, by decide, by decide, by decide, by decide, by decide, by decide, by decide, by decide, by decide⟩))))
    · exact Or.inr (Or.inr (Or.inr (Or.inr (Or.inr (Or.inl ⟨by decide, by decide, by decide, by decide, by decide, by decide, by decide, by decide, by decide, by decide, by decide, by decide, by decide, by decide, by decide⟩)))))
    · exact Or.inr (Or.inl ⟨by decide, by decide, by decide, by decide, by decide, by decide, by decide, by decide, by decide, by decide, by decide, by decide, by decide, by decide, by decide⟩)
    · exact Or.inr (Or.inl ⟨by decide, by decide, by decide, by decide, by decide, by decide, by decide, by decide, by decide, by decide, by decide, by decide, by decide, by decide, by decide⟩)
    · exact Or.inr (Or.inl ⟨by decide, by decide, by decide, by decide, by decide, by decide, by decide, by decide, by decide, by decide, by decide, by decide, by decide, by decide, by decide⟩)
    · exact Or.inr (Or.inl ⟨by decide, by decide, by decide, by decide, by decide, by decide, by decide, by decide, by decide, by decide, by decide, by decide, by decide, by decide, by decide⟩)
    · exact Or.inr (Or.inl ⟨by decide, by decide, by decide, by decide, by decide, by decide, by decide, by decide, by decide, by decide, by decide, by decide, by decide, by decide, by decide⟩)
    · exact Or.inr (Or.inl ⟨by decide, by decide, by decide, by decide, by decide, by decide, by decide, by decide, by decide, by decide, by decide, by decide, by decide, by decide, by decide⟩)
    · exact Or.inr (Or.inl ⟨by decide, by decide, by decide, by decide, by decide, by decide, by decide, by decide, by decide, by decide, by decide, by decide, by decide, by decide, by decide⟩)
    · exact Or.inr (Or.inl ⟨by decide, by decide, by decide, by decide, by decide, by decide, by decide, by decide, by decide, by decide, by decide, by decide, by decide, by decide, by decide⟩)
    · exact Or.inr (Or.inl ⟨by decide, by decide, by decide, by decide, by decide, by decide, by decide, by decide, by decide, by decide, by decide, by decide, by decide, by decide, by decide⟩)
    · exact Or.inr (Or.inl ⟨by decide, by decide, by decide, by decide, by decide, by decide, by decide, by decide, by decide, by decide, by decide, by decide, by decide, by decide, by decide⟩)
    · exact Or.inr (Or.inr (Or.inr (Or.inr (Or.inr (Or.inr (Or.inl ⟨by decide, by decide, by decide, by decide, by decide, by decide, by decide, by decide, by decide, by decide, by decide, by decide, by decide, by decide, by decide⟩))))))
    · exact Or.inr (Or.inr (Or.inr (Or.inr (Or.inr (Or.inr (Or.inl ⟨by decide, by decide, by decide, by decide, by decide, by decide, by decide, by decide, by decide, by decide, by decide, by decide, by decide, by decide, by decide⟩))))))
    · exact Or.inr (Or.inr (Or.inr (Or.inr (Or.inr (Or.inr (Or.inl ⟨by decide, by decide, by decide, by decide, by decide, by decide, by decide, by decide, by decide, by decide, by decide, by decide, by decide, by decide, by decide⟩))))))
    · exact Or.inr (Or.inr (Or.inr (Or.inr (Or.inr (Or.inr (Or.inl ⟨by decide, by decide, by decide, by decide, by decide, by decide, by decide, by decide, by decide, by decide, by decide, by decide, by decide, by decide, by decide⟩))))))
    · exact Or.inr (Or.inr (Or.inr (Or.inr (Or.inr (Or.inr (Or.inr (Or.inl ⟨by decide, by decide, by decide, by decide, by decide, by decide, by decide, by decide, by decide, by decide, by decide, by decide, by decide, by decide, by decide⟩)))))))
    · exact Or.inr (Or.inr (Or.inr (Or.inr (Or.inr (Or.inr (Or.inr (Or.inr (Or.inr (Or.inr (Or.inr (Or.inl ⟨by decide, by decide, by decide, by decide, by decide, by decide, by decide, by decide, by decide, by decide, by decide, by decide, by decide, by decide, by decide⟩)))))))))))
    · exact Or.inr (Or.inr (Or.inr (Or.inr (Or.inr (Or.inr (Or.inr (Or.inr (Or.inr (Or.inr (Or.inr (Or.inl ⟨by decide, by decide, by decide, by decide, by decide, by decide, by decide, by decide, by decide, by decide, by decide, by decide, by decide, by decide, by decide⟩)))))))))))
    · exact Or.inr (Or.inr (Or.inr (Or.inr (Or.inr (Or.inr (Or.inr (Or.inr (Or.inr (Or.inr (Or.inr (Or.inl ⟨by decide, by decide, by decide, by decide, by decide, by decide, by decide, by decide, by decide, by decide, by decide, by decide, by decide, by decide, by decide⟩)))))))))))
    · exact Or.inr (Or.inr (Or.inr (Or.inr (Or.inr (Or.inr (Or.inr (Or.inr (Or.inr (Or.inr (Or.inr (Or.inl ⟨by decide, by decide, by decide, by decide, by decide, by decide, by decide, by decide, by decide, by decide, by decide, by decide, by decide, by decide, by decide⟩)))))))))))
    · exact Or.inr (Or.inr (Or.inr (Or.inr (Or.inr (Or.inr (Or.inr (Or.inr (Or.inl ⟨by decide, by decide, by decide, by decide, by decide, by decide, by decide, by decide, by decide, by decide, by decide, by decide, by decide, by decide, by decide⟩))))))))
    · exact Or.inr (Or.inl ⟨by decide, by decide, by decide, by decide, by decide, by decide, by decide, by decide, by decide, by decide, by decide, by decide, by decide, by decide, by decide⟩)
    · exact Or.inr (Or.inl ⟨by decide, by decide, by decide, by decide, by decide, by decide, by decide, by decide, by decide, by decide, by decide, by decide, by decide, by decide, by decide⟩)
    · exact Or.inr (Or.inl ⟨by decide, by decide, by decide, by decide, by decide, by decide, by decide, by decide, by decide, by decide, by decide, by decide, by decide, by decide, by decide⟩)
    · exact Or.inr (Or.inr (Or.inr (Or.inr (Or.inr (Or.inr (Or.inr (Or.inr (Or.inr (Or.inl ⟨by decide, by decide, by decide, by decide, by decide, by decide, by decide, by decide, by decide, by decide, by decide, by decide, by decide, by decide, by decide⟩)))))))))
    · exact Or.inr (Or.inr (Or.inr (Or.inr (Or.inr (Or.inr (Or.inr (Or.inr (Or.inr (Or.inr (Or.inl ⟨by decide, by decide, by decide, by decide, by decide, by decide, by decide, by decide, by decide, by decide, by decide, by decide, by decide, by decide, by decide⟩))))))))))
    · exact Or.inr (Or.inr (Or.inr (Or.inr (Or.inr (Or.inr (Or.inr (Or.inr (Or.inr (Or.inr (Or.inr (Or.inr (⟨by decide, by decide, by decide, by decide, by decide, by decide, by decide, by decide, by decide, by decide, by decide, by decide, by decide, by decide, by decide⟩))))))))))))
    · exact Or.inr (Or.inr (Or.inr (Or.inr (Or.inr (Or.inr (Or.inr (Or.inr (Or.inr (Or.inr (Or.inr (Or.inr (⟨by decide, by decide, by decide, by decide, by decide, by decide, by decide, by decide, by decide, by decide, by decide, by decide, by decide, by decide, by decide⟩))))))))))))
    · exact Or.inr (Or.inr (Or.inr (Or.inr (Or.inr (Or.inr (Or.inr (Or.inr (Or.inr (Or.inr (Or.inr (Or.inr (⟨by decide, by decide, by decide, by decide, by decide, by decide, by decide, by decide, by decide, by decide, by decide, by decide, by decide, by decide, by decide⟩))))))))))))
    · exact Or.inr (Or.inr (Or.inr (Or.inr (Or.inr (Or.inr (Or.inr (Or.inr (Or.inr (Or.inr (Or.inr (Or.inr (⟨by decide, by decide, by decide, by decide, by decide, by decide, by decide, by decide, by decide, by decide, by decide, by decide, by decide, by decide, by decide⟩))))))))))))
    · exact Or.inr (Or.inl ⟨by decide, by decide, by decide, by decide, by decide, by decide, by decide, by decide, by decide, by decide, by decide, by decide, by decide, by decide, by decide⟩)
    · exact Or.inr (Or.inl ⟨by decide, by decide, by decide, by decide, by decide, by decide, by decide, by decide, by decide, by decide, by decide, by decide, by decide, by decide, by decide⟩)
    · exact Or.inr (Or.inl ⟨by decide, by decide, by decide, by decide, by decide, by decide, by decide, by decide, by decide, by decide, by decide, by decide, by decide, by decide, by decide⟩)
  · have hk : kd (ix op) = 0 := by
      unfold ix
      rw [if_neg h]
      decide
    refine Or.inl ?_
    rw [hk]
    have h1 : isOp op = false := by unfold isOp; simp; omega
    have h2 : fldO op = false := by unfold fldO; simp; omega
    have h3 : calO op = false := by unfold calO; simp; omega
    have h4 : jmpO op = false := by unfold jmpO; simp; omega
    refine ⟨h1, by decide, by decide, by decide, by decide, by decide, h2, h3, h4, ?_, ?_, ?_, ?_, ?_, rfl⟩ <;> (simp; omega)
theorem ptC_any (op : Int) : PtC (isOp op) (sA (kd (ix op))) (sB (kd (ix op))) (sC (kd (ix op))) (sN (kd (ix op))) (sD (kd (ix op))) (fldO op) (calO op) (jmpO op) ((op == 26)) ((op == 30)) ((op == 31)) ((op == 5)) ((op == 6)) := by
  unfold PtC
  rcases pt2_any op with ⟨hkn, hs1, hs2, hs3, hs4, hs5, hfl, hca, hju, hq26, hq30, hq31, hq5, hq6, hk⟩ | ⟨hkn, hs1, hs2, hs3, hs4, hs5, hfl, hca, hju, hq26, hq30, hq31, hq5, hq6, hk⟩ | ⟨hkn, hs1, hs2, hs3, hs4, hs5, hfl, hca, hju, hq26, hq30, hq31, hq5, hq6, hk⟩ | ⟨hkn, hs1, hs2, hs3, hs4, hs5, hfl, hca, hju, hq26, hq30, hq31, hq5, hq6, hk⟩ | ⟨hkn, hs1, hs2, hs3, hs4, hs5, hfl, hca, hju, hq26, hq30, hq31, hq5, hq6, hk⟩ | ⟨hkn, hs1, hs2, hs3, hs4, hs5, hfl, hca, hju, hq26, hq30, hq31, hq5, hq6, hk⟩ | ⟨hkn, hs1, hs2, hs3, hs4, hs5, hfl, hca, hju, hq26, hq30, hq31, hq5, hq6, hk⟩ | ⟨hkn, hs1, hs2, hs3, hs4, hs5, hfl, hca, hju, hq26, hq30, hq31, hq5, hq6, hk⟩ | ⟨hkn, hs1, hs2, hs3, hs4, hs5, hfl, hca, hju, hq26, hq30, hq31, hq5, hq6, hk⟩ | ⟨hkn, hs1, hs2, hs3, hs4, hs5, hfl, hca, hju, hq26, hq30, hq31, hq5, hq6, hk⟩ | ⟨hkn, hs1, hs2, hs3, hs4, hs5, hfl, hca, hju, hq26, hq30, hq31, hq5, hq6, hk⟩ | ⟨hkn, hs1, hs2, hs3, hs4, hs5, hfl, hca, hju, hq26, hq30, hq31, hq5, hq6, hk⟩ | ⟨hkn, hs1, hs2, hs3, hs4, hs5, hfl, hca, hju, hq26, hq30, hq31, hq5, hq6, hk⟩
  · exact Or.inl ⟨hkn, hs1, hs2, hs3, hs4, hs5, hfl, hca, hju, hq26, hq30, hq31, hq5, hq6⟩
  · exact Or.inr (Or.inl ⟨hkn, hs1, hs2, hs3, hs4, hs5, hfl, hca, hju, hq26, hq30, hq31, hq5, hq6⟩)
  · exact Or.inr (Or.inr (Or.inl ⟨hkn, hs1, hs2, hs3, hs4, hs5, hfl, hca, hju, hq26, hq30, hq31, hq5, hq6⟩))
  · exact Or.inr (Or.inr (Or.inr (Or.inl ⟨hkn, hs1, hs2, hs3, hs4, hs5, hfl, hca, hju, hq26, hq30, hq31, hq5, hq6⟩)))
  · exact Or.inr (Or.inr (Or.inr (Or.inr (Or.inl ⟨hkn, hs1, hs2, hs3, hs4, hs5, hfl, hca, hju, hq26, hq30, hq31, hq5, hq6⟩))))
  · exact Or.inr (Or.inr (Or.inr (Or.inr (Or.inr (Or.inl ⟨hkn, hs1, hs2, hs3, hs4, hs5, hfl, hca, hju, hq26, hq30, hq31, hq5, hq6⟩)))))
  · exact Or.inr (Or.inr (Or.inr (Or.inr (Or.inr (Or.inr (Or.inl ⟨hkn, hs1, hs2, hs3, hs4, hs5, hfl, hca, hju, hq26, hq30, hq31, hq5, hq6⟩))))))
  · exact Or.inr (Or.inr (Or.inr (Or.inr (Or.inr (Or.inr (Or.inr (Or.inl ⟨hkn, hs1, hs2, hs3, hs4, hs5, hfl, hca, hju, hq26, hq30, hq31, hq5, hq6⟩)))))))
  · exact Or.inr (Or.inr (Or.inr (Or.inr (Or.inr (Or.inr (Or.inr (Or.inr (Or.inl ⟨hkn, hs1, hs2, hs3, hs4, hs5, hfl, hca, hju, hq26, hq30, hq31, hq5, hq6⟩))))))))
  · exact Or.inr (Or.inr (Or.inr (Or.inr (Or.inr (Or.inr (Or.inr (Or.inr (Or.inr (Or.inl ⟨hkn, hs1, hs2, hs3, hs4, hs5, hfl, hca, hju, hq26, hq30, hq31, hq5, hq6⟩)))))))))
  · exact Or.inr (Or.inr (Or.inr (Or.inr (Or.inr (Or.inr (Or.inr (Or.inr (Or.inr (Or.inr (Or.inl ⟨hkn, hs1, hs2, hs3, hs4, hs5, hfl, hca, hju, hq26, hq30, hq31, hq5, hq6⟩))))))))))
  · exact Or.inr (Or.inr (Or.inr (Or.inr (Or.inr (Or.inr (Or.inr (Or.inr (Or.inr (Or.inr (Or.inr (Or.inl ⟨hkn, hs1, hs2, hs3, hs4, hs5, hfl, hca, hju, hq26, hq30, hq31, hq5, hq6⟩)))))))))))
  · exact Or.inr (Or.inr (Or.inr (Or.inr (Or.inr (Or.inr (Or.inr (Or.inr (Or.inr (Or.inr (Or.inr (Or.inr (⟨hkn, hs1, hs2, hs3, hs4, hs5, hfl, hca, hju, hq26, hq30, hq31, hq5, hq6⟩))))))))))))
theorem arr_ty {d : List UInt8} (h : (arrL d == []) = false) : isType d = true := by
  unfold arrL onlyL at h
  by_cases hh : isType (91 :: d) = true
  · unfold isType at hh ⊢
    simp only [Bool.and_eq_true, decide_eq_true_eq] at hh ⊢
    obtain ⟨_, h2⟩ := hh
    rw [tyn] at h2
    simp at h2
    have h1 : tyn d 1 ≠ 0 := by intro e; rw [e] at h2; simp at h2
    rw [if_neg h1] at h2
    have e1 := tyn_lb d 1
    have e0 := tyn_lb d 0
    by_cases l4 : 4 < lb d + 1
    · rw [if_pos l4] at e1; omega
    · rw [if_neg l4] at e1
      rw [if_neg (by omega)] at e0
      rw [e1] at h2 h1
      rw [e0]
      refine ⟨?_, by omega⟩
      cases d with
      | nil => simp [lb, tyb] at h1
      | cons x r => rfl
  · rw [if_neg hh] at h; simp at h
theorem init_no : isName [60, 105, 110, 105, 116, 62] = false ∧ isName [60, 99, 108, 105, 110, 105, 116, 62] = false := by decide
theorem clb_eq (n : List UInt8) (op : Int) : (!isMName n || (n == [60, 99, 108, 105, 110, 105, 116, 62]) || (n == [60, 105, 110, 105, 116, 62]) && (op != 33)) = !clb n op := by
  unfold isMName clb initL clinitL
  by_cases h1 : n = [60, 105, 110, 105, 116, 62]
  · subst h1
    rw [init_no.1]
    simp
    rfl
  · by_cases h2 : n = [60, 99, 108, 105, 110, 105, 116, 62]
    · subst h2
      rw [init_no.2]
      simp
    · have e1 := beq_eq_false_iff_ne.2 h1
      have e2 := beq_eq_false_iff_ne.2 h2
      rw [e1, e2]
      cases isName n <;> rfl
theorem wi_eq (a s : Int) : (!wi a s) = (decide (a < 0) || decide (s ≤ a)) := by
  rw [Bool.eq_iff_iff]
  simp [wi]
theorem chk_res (op a b len loc : Int) (c n d : List UInt8) :
    chk (kd (ix op)) op a b c n d len loc = resC (isOp op) (sA (kd (ix op))) (sB (kd (ix op))) (sC (kd (ix op))) (fldO op) (calO op) (jmpO op) (op == 26) (op == 30) (op == 31) (op == 5) (op == 6) (isI a) (isI b) (isName c) (isName n) (isType d) (isMName n)
      (n == [60, 99, 108, 105, 110, 105, 116, 62]) (n == [60, 105, 110, 105, 116, 62]) (op != 33) (!(meth d).isSome) (arrL d == []) (isRef d) (decide (a < 0)) (decide (loc ≤ a)) (decide (len ≤ a)) := by
  have hcl := clb_eq n op
  have hw1 := wi_eq a loc
  have hw2 := wi_eq a len
  have hty : (!isType d || (arrL d == [])) = (arrL d == []) := by
    cases h : (arrL d == [])
    · rw [arr_ty h]; rfl
    · simp
  unfold chk resC
  rw [hcl, ← hw1, ← hw2, hty]
  rcases pt2_any op with ⟨hkn, hs1, hs2, hs3, hs4, hs5, hfl, hca, hju, hq26, hq30, hq31, hq5, hq6, hk⟩ | ⟨hkn, hs1, hs2, hs3, hs4, hs5, hfl, hca, hju, hq26, hq30, hq31, hq5, hq6, hk⟩ | ⟨hkn, hs1, hs2, hs3, hs4, hs5, hfl, hca, hju, hq26, hq30, hq31, hq5, hq6, hk⟩ | ⟨hkn, hs1, hs2, hs3, hs4, hs5, hfl, hca, hju, hq26, hq30, hq31, hq5, hq6, hk⟩ | ⟨hkn, hs1, hs2, hs3, hs4, hs5, hfl, hca, hju, hq26, hq30, hq31, hq5, hq6, hk⟩ | ⟨hkn, hs1, hs2, hs3, hs4, hs5, hfl, hca, hju, hq26, hq30, hq31, hq5, hq6, hk⟩ | ⟨hkn, hs1, hs2, hs3, hs4, hs5, hfl, hca, hju, hq26, hq30, hq31, hq5, hq6, hk⟩ | ⟨hkn, hs1, hs2, hs3, hs4, hs5, hfl, hca, hju, hq26, hq30, hq31, hq5, hq6, hk⟩ | ⟨hkn, hs1, hs2, hs3, hs4, hs5, hfl, hca, hju, hq26, hq30, hq31, hq5, hq6, hk⟩ | ⟨hkn, hs1, hs2, hs3, hs4, hs5, hfl, hca, hju, hq26, hq30, hq31, hq5, hq6, hk⟩ | ⟨hkn, hs1, hs2, hs3, hs4, hs5, hfl, hca, hju, hq26, hq30, hq31, hq5, hq6, hk⟩ | ⟨hkn, hs1, hs2, hs3, hs4, hs5, hfl, hca, hju, hq26, hq30, hq31, hq5, hq6, hk⟩ | ⟨hkn, hs1, hs2, hs3, hs4, hs5, hfl, hca, hju, hq26, hq30, hq31, hq5, hq6, hk⟩
  all_goals
    rw [hs1, hs2, hs3, hkn, hfl, hca, hju, hq26, hq30, hq31, hq5, hq6, hk]
    simp [nam]
    try grind
theorem refMethod_ec (s : ByteArray) (hs : s.size ≤ 100000) (w : World) :
    Calls Tryz.prog 79 #[.string s] w fun e w' => ∃ v r, e = .returned (.tuple #[v, .string r, .int .i64 (if (meth (bl s)).isSome then 0 else 6)]) ∧ Ch w w' := by
  refine (refMethod_any s w hs).mono ?_
  rintro e w' ⟨hc, ⟨hM, rfl⟩ | ⟨p, v, hM, rfl, _⟩⟩
  · rw [hM]; exact ⟨_, _, rfl, hc⟩
  · rw [hM]; exact ⟨_, _, rfl, hc⟩
theorem refCheck_any (x : Ins) (len loc : Int) (w : World) (hs : x.c.size ≤ 90000 ∧ x.n.size ≤ 90000 ∧ x.d.size ≤ 90000) :
    Calls Tryz.prog 81 #[.agg #[.int .i64 x.op, .int .i64 x.a, .int .i64 x.b, .string x.c, .string x.n, .string x.d], .int .i64 len, .int .i64 loc] w fun e w' => e = .returned (.int .i64 (insE len loc x)) ∧ Ch w w' := by
  unfold insE
  rw [chk_res]
  refine refCheck_at x.op x.a x.b len loc (if (meth (bl x.d)).isSome then 0 else 6) x.c x.n x.d (ms (arrL (bl x.d))) w _ _ _ _ _ _ _ _ _ _ _ _ _ _ _ _ _ _ _ _ _ _ _ _ _ _ _ _ _ (ptC_any x.op) (fun w0 => refShape_any x.op w0) (fun w0 => int32_any _ w0) (fun w0 => int32_any _ w0)
    (fun w0 => refMethod_ec x.d (by omega) w0) ?_ (fun w0 => refName_any _ w0 (by omega)) (fun w0 => refName_any _ w0 (by omega)) (fun w0 => refType_any _ w0 (by omega)) (fun w0 => refMname_any _ w0 (by omega)) (fun w0 => isField_any _ w0) (fun w0 => isCall_any _ w0) (fun w0 => jumps_any _ w0)
    (fun w0 => refArr_any _ w0 (by omega)) ?_ (fun w0 => refRef_any _ w0 (by omega)) ?_ ?_ rfl rfl rfl rfl rfl rfl rfl rfl rfl
  · cases (meth (bl x.d)).isSome <;> rfl
  · rw [bl_toList, bl_ms]
  · rw [bl_toList]
  · rw [bl_toList]
end Go.Proofs.YtdalibfgkkgcpaaGreat
