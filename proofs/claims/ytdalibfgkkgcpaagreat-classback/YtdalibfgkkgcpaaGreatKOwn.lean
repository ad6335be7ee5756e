/- An instruction with the fields of its Op alone: the program's and the document's. -/
import Derived.Test.YtdalibfgkkgcpaaGreatKChk
namespace Go.Proofs.YtdalibfgkkgcpaaGreat
open Go.RowKit
set_option linter.unusedVariables false

/-- The six shapes that there are. -/
def Pat (s1 s2 s3 s4 s5 : Bool) : Prop :=
  (s1 = false ∧ s2 = false ∧ s3 = false ∧ s4 = false ∧ s5 = false) ∨ (s1 = true ∧ s2 = false ∧ s3 = false ∧ s4 = false ∧ s5 = false) ∨ (s1 = true ∧ s2 = true ∧ s3 = false ∧ s4 = false ∧ s5 = false) ∨
  (s1 = false ∧ s2 = false ∧ s3 = true ∧ s4 = false ∧ s5 = false) ∨ (s1 = false ∧ s2 = false ∧ s3 = false ∧ s4 = false ∧ s5 = true) ∨ (s1 = false ∧ s2 = false ∧ s3 = true ∧ s4 = true ∧ s5 = true)
theorem pat_kind {k : Int} (h : 0 ≤ k ∧ k ≤ 10) : Pat (sA k) (sB k) (sC k) (sN k) (sD k) := by
  have hk : k = 0 ∨ k = 1 ∨ k = 2 ∨ k = 3 ∨ k = 4 ∨ k = 5 ∨ k = 6 ∨ k = 7 ∨ k = 8 ∨ k = 9 ∨ k = 10 := by omega
  unfold Pat
  rcases hk with rfl | rfl | rfl | rfl | rfl | rfl | rfl | rfl | rfl | rfl | rfl <;> decide
/-- Only the fields that there are. -/
def ownA (s1 s2 s3 s4 s5 : Bool) (op a b : Int) (c n d : ByteArray) : Array Value :=
  #[.int .i64 op, .int .i64 (if s1 then a else 0), .int .i64 (if s2 then b else 0), .string (if s3 then c else ⟨#[]⟩), .string (if s4 then n else ⟨#[]⟩), .string (if s5 then d else ⟨#[]⟩)]
theorem info47 : (Tryz.prog.info? 47).map (·.size) = some 6 := by kernel_rfl
theorem one6 (a b c : Int) (d e f : ByteArray) : (#[Value.int .i64 a, .int .i64 b, .int .i64 c, .string d, .string e, .string f].all (·.oneCell')) = true := by kernel_rfl
theorem kept2 {w w' : World} {o : Obj} {c0 : Array Value} {t : TypeId} (h : Ch ((w.alloc o).alloc (.cells c0 t)) w') (A B : Obj) : ((w'.alloc A).alloc B).heap[w.heap.size + 1]? = some (.cells c0 t (0, 0)) :=
  (((h.alloc A).alloc B).block (w.heap.size + 1) (by simp)).trans (heap_alloc2_new _ _ _)
theorem ins_kept0 {w w' : World} {o : Obj} {op a b : Int} {c n d : ByteArray} (h : Ch ((w.alloc (.cells #[.int .i64 op, .int .i64 a, .int .i64 b, .string c, .string n, .string d] 47)).alloc o) w') : w'.heap[w.heap.size]? = some (.cells (insC op a b c n d) 47) :=
  (h.block w.heap.size (by simp; omega)).trans (heap_alloc2_old _ _ _)
theorem Ch.past2 {w w' : World} {o o2 : Obj} (h : Ch ((w.alloc o).alloc o2) w') : w.heap.size + 1 < w'.heap.size := by have := h.size; simp at this; omega

set_option maxHeartbeats 4000000 in
theorem own_at (op a b k n2 n3 : Int) (wb c n d : ByteArray) (w : World) (s1 s2 s3 s4 s5 : Bool) (hp : Pat s1 s2 s3 s4 s5)
    (hr : ∀ w0, Calls Tryz.prog 129 #[.int .i64 op] w0 fun e w' => e = .returned (.agg #[.string wb, .int .i64 k, .int .i64 n2, .int .i64 n3]) ∧ Ch w0 w')
    (hs : ∀ w0, Calls Tryz.prog 130 #[.int .i64 k] w0 fun e w' => e = .returned (.agg #[.bool s1, .bool s2, .bool s3, .bool s4, .bool s5]) ∧ Ch w0 w') :
    Calls Tryz.prog 127 #[.agg #[.int .i64 op, .int .i64 a, .int .i64 b, .string c, .string n, .string d]] w fun e w' => e = .returned (.agg (ownA s1 s2 s3 s4 s5 op a b c n d)) ∧ Ch w w' := by
  have hf := fld1 wb k n2 n3
  have hz : ∀ o : Obj, (w.alloc o).heap.size = w.heap.size + 1 := fun o => by simp
  rcases hp with ⟨rfl, rfl, rfl, rfl, rfl⟩ | ⟨rfl, rfl, rfl, rfl, rfl⟩ | ⟨rfl, rfl, rfl, rfl, rfl⟩ | ⟨rfl, rfl, rfl, rfl, rfl⟩ | ⟨rfl, rfl, rfl, rfl, rfl⟩ | ⟨rfl, rfl, rfl, rfl, rfl⟩
  all_goals
    go_enter Tryz.func127, Tryz.ntmps127
    go_wp2_with (first
      | (go_at_call 129; (with_reducible refine (hr _).mono ?_); rintro e w3 ⟨rfl, hc3⟩; obtain ⟨q0, q1, q2, q3, q4, q5⟩ := insC_at (ins_kept0 hc3))
      | (go_at_call 130; (with_reducible refine (hs _).mono ?_); rintro e w4 ⟨rfl, hc4⟩; have hcc := hc3.trans hc4; obtain ⟨r0, r1, r2, r3, r4, r5⟩ := insC_at (ins_kept0 hcc); have hlt := Ch.past2 hcc; have hlt2 : w.heap.size < w4.heap.size := (by omega); have hlt3 : w.heap.size < w4.heap.size + 1 := (by omega))
      | (refine wpList_store_row rfl 47 (.tmp 2) (.tmp 38) rfl (w.heap.size + 1) _ rfl rfl 47 _ (kept2 hcc _ _) info47 rfl (one6 _ _ _ _ _ _) ?_))
  all_goals
    refine bodyPost_ret (results_cell_row rfl _ _ (w.heap.size + 1) 47 _ (0, 0) _ rfl (setRow_heap _ _ _ _ _ _ (kept2 hcc _ _)) Tryz.underlying47 rfl info47) rfl ?_
    exact ⟨rfl, ((((((Ch.refl w).alloc _).alloc _).trans hcc).alloc _).alloc _).setRow _ _ (by omega)⟩
end Go.Proofs.YtdalibfgkkgcpaaGreat
