/- What an instruction takes and lays; whether it may be. -/
import Derived.Test.YtdalibfgkkgcpaaGreatKind
namespace Go.Proofs.YtdalibfgkkgcpaaGreat
open Go.RowKit
set_option linter.unusedVariables false

theorem pars_len : ∀ (k : Nat) (r : List UInt8) (p : List (List UInt8) × List UInt8), pars k r = some p → p.1.length ≤ k
  | 0, r, p, h => by
    unfold pars at h
    repeat' split at h
    all_goals cases h
    exact Nat.le_refl _
  | k + 1, r, p, h => by
    rw [pars] at h
    repeat' split at h
    · cases h; exact Nat.zero_le _
    · cases h
    · cases h
    · cases hq : pars k (r.drop (tyn r 0)) with
      | none => rw [hq] at h; cases h
      | some q =>
        rw [hq] at h
        have h2 := pars_len k _ q hq
        cases h
        simp
        omega
theorem meth_len {l : List UInt8} {p : List (List UInt8) × List UInt8} (h : meth l = some p) : p.1.length ≤ 8 := by
  unfold meth at h
  split at h
  · exact pars_len 8 _ p h
  · cases h

/-- What a call takes and lays, by its method's type. -/
def effM (M : Option (List (List UInt8) × List UInt8)) (n : Int) : Value :=
  match M with
  | none => .tuple #[.int .i64 0, .int .i64 0, .int .i64 6]
  | some p => .tuple #[.int .i64 (n + (p.1.length : Int)), .int .i64 (if p.2 == [86] then 0 else 1), .int .i64 0]

theorem ms_toList (l : List UInt8) : (ms l).toList = l := by rw [bl_toList, bl_ms]

/-- An instruction as a value, and where it lies. -/
def insC (op a b : Int) (c n d : ByteArray) : Array Value := #[.int .i64 op, .int .i64 a, .int .i64 b, .string c, .string n, .string d]
theorem insC_at {w : World} {g : Nat} {op a b : Int} {c n d : ByteArray} (h : w.heap[g]? = some (.cells (insC op a b c n d) 47)) :
    w.cell? ⟨g, 0, none⟩ = some (.int .i64 op) ∧ w.cell? ⟨g, 1, none⟩ = some (.int .i64 a) ∧ w.cell? ⟨g, 2, none⟩ = some (.int .i64 b) ∧
    w.cell? ⟨g, 3, none⟩ = some (.string c) ∧ w.cell? ⟨g, 4, none⟩ = some (.string n) ∧ w.cell? ⟨g, 5, none⟩ = some (.string d) :=
  ⟨by rw [cell_of_row _ _ _ _ _ _ h]; rfl, by rw [cell_of_row _ _ _ _ _ _ h]; rfl, by rw [cell_of_row _ _ _ _ _ _ h]; rfl, by rw [cell_of_row _ _ _ _ _ _ h]; rfl, by rw [cell_of_row _ _ _ _ _ _ h]; rfl, by rw [cell_of_row _ _ _ _ _ _ h]; rfl⟩
theorem ins_kept {w w' : World} {op a b : Int} {c n d : ByteArray} (h : Ch (w.alloc (.cells #[.int .i64 op, .int .i64 a, .int .i64 b, .string c, .string n, .string d] 47)) w') : w'.heap[w.heap.size]? = some (.cells (insC op a b c n d) 47) :=
  (h.block w.heap.size (by simp)).trans (heap_alloc_new _ _)

theorem Ch.past {w w' : World} {o : Obj} (h : Ch (w.alloc o) w') : w.heap.size < w'.heap.size := by have := h.size; simp at this; omega
theorem kd_range (k : Nat) : 0 ≤ kd k ∧ kd k ≤ 10 := by
  unfold kd
  by_cases h : k < 39
  · have := on_range (f := fun k => decide (0 ≤ kindsL.getD k 0 ∧ kindsL.getD k 0 ≤ 10)) (g := fun _ => true) (n := 39) (by kernel_rfl) h
    simpa using this
  · rw [List.getD_eq_getElem?_getD, List.getElem?_eq_none (by show 39 ≤ k; omega)]; decide
theorem pp_call (k : Nat) (h : kd k = 10) : 0 ≤ pp k ∧ pp k ≤ 1 := by
  unfold kd at h
  unfold pp
  by_cases hk : k < 39
  · have := on_range (f := fun k => decide (kindsL.getD k 0 = 10 → 0 ≤ popsL.getD k 0 ∧ popsL.getD k 0 ≤ 1)) (g := fun _ => true) (n := 39) (by kernel_rfl) hk
    simp only [decide_eq_true_eq] at this
    exact this h
  · rw [List.getD_eq_getElem?_getD, List.getElem?_eq_none (by show 39 ≤ k; omega)]; decide

/-- What an instruction of that place in the table takes and lays. -/
def eff (k : Nat) (M : Option (List (List UInt8) × List UInt8)) : Value :=
  if kd k = 0 then .tuple #[.int .i64 0, .int .i64 0, .int .i64 3] else if kd k = 10 then effM M (pp k) else .tuple #[.int .i64 (pp k), .int .i64 (ph k), .int .i64 0]

end Go.Proofs.YtdalibfgkkgcpaaGreat
