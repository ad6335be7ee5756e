/- Which fields an Op has, its word; what an int and a place may be. -/
import Derived.Test.YtdalibfgkkgcpaaGreatRow
namespace Go.Proofs.YtdalibfgkkgcpaaGreat
open Go.RowKit
set_option linter.unusedVariables false

/-- Which fields those of a kind have: A, B, Class, Name, Desc. -/
def sA (k : Int) : Bool := k == 2 || k == 3 || k == 4 || k == 5
def sB (k : Int) : Bool := k == 3
def sC (k : Int) : Bool := k == 6 || k == 9 || k == 10
def sN (k : Int) : Bool := k == 9 || k == 10
def sD (k : Int) : Bool := k == 7 || k == 8 || k == 9 || k == 10
def sh (k : Int) : Value := .agg #[.bool (sA k), .bool (sB k), .bool (sC k), .bool (sN k), .bool (sD k)]
theorem info112 : (Tryz.prog.info? 141).map (·.size) = some 5 := by kernel_rfl
theorem one5 (a b c d e : Bool) : (#[Value.bool a, .bool b, .bool c, .bool d, .bool e].all (·.oneCell')) = true := by kernel_rfl

set_option maxHeartbeats 2000000 in
theorem shape_any (k : Int) (w : World) : Calls Tryz.prog 130 #[.int .i64 k] w fun e w' => e = .returned (sh k) ∧ Ch w w' := by
  go_enter Tryz.func130, Tryz.ntmps130
  go_wp2
  all_goals
    refine bodyPost_ret (results_cell_row rfl _ _ w.heap.size 141 _ (0, 0) _ rfl (heap_alloc_new _ _) Tryz.underlying141 rfl info112) rfl ?_
    refine ⟨congrArg Ending.returned ?_, (Ch.refl w).alloc _⟩
    unfold sh sA sB sC sN sD
    simp_all

theorem fld0 (a : ByteArray) (b c d : Int) (W : World) : (Instr.field 163 (.agg #[.string a, .int .i64 b, .int .i64 c, .int .i64 d]) 0).run Tryz.prog W = .ok (.string a) W := by kernel_rfl
theorem fld1 (a : ByteArray) (b c d : Int) (W : World) : (Instr.field 163 (.agg #[.string a, .int .i64 b, .int .i64 c, .int .i64 d]) 1).run Tryz.prog W = .ok (.int .i64 b) W := by kernel_rfl
theorem isInt_any (n : Int) (w : World) : Calls Tryz.prog 135 #[.int .i64 n] w fun e w' => e = .returned (.bool (decide (-2147483648 ≤ n) && decide (n ≤ 2147483647))) ∧ w' = w := by
  go_enter Tryz.func135, Tryz.ntmps135
  go_wp2
  all_goals
    go_ret
    refine ⟨congrArg (fun b => Ending.returned (.bool b)) ?_, rfl⟩
    first | (simp_all; done) | (simp_all; omega)
theorem within_any (n s : Int) (w : World) : Calls Tryz.prog 137 #[.int .i64 n, .int .i64 s] w fun e w' => e = .returned (.bool (decide (0 ≤ n) && decide (n < s))) ∧ w' = w := by
  go_enter Tryz.func137, Tryz.ntmps137
  go_wp2
  all_goals
    go_ret
    refine ⟨congrArg (fun b => Ending.returned (.bool b)) ?_, rfl⟩
    first | (simp_all; done) | (simp_all; omega)

set_option maxHeartbeats 2000000 in
theorem of_any (op : Int) (w : World) : Calls Tryz.prog 101 #[.int .i64 op] w fun e w' => e = .returned (.tuple #[sh (kd (ix op)), .bool (kd (ix op) != 0)]) ∧ Ch w w' := by
  have hr := fun w0 => rowOf_any op w0
  simp only [rV] at hr
  generalize wB (ix op) = b at *
  generalize kd (ix op) = k at *
  generalize pp (ix op) = n2 at *
  generalize ph (ix op) = n3 at *
  have hs := fun w0 => shape_any k w0
  simp only [sh] at hs ⊢
  generalize sA k = b1 at *
  generalize sB k = b2 at *
  generalize sC k = b3 at *
  generalize sN k = b4 at *
  generalize sD k = b5 at *
  obtain ⟨c0, hc0, h5⟩ : ∃ c0 : Array Value, #[.bool false, .bool false, .bool false, .bool false, .bool false] = c0 ∧ c0.size = 5 := ⟨_, rfl, rfl⟩
  have hf := fld1 b k n2 n3
  go_enter Tryz.func101, Tryz.ntmps101
  go_wp2_with (first
    | (go_at_call 129; (with_reducible refine (hr _).mono ?_); rintro e w3 ⟨rfl, hc3⟩)
    | (go_at_call 130; (with_reducible refine (hs _).mono ?_); rintro e w4 ⟨rfl, hc4⟩; have hcc := hc3.trans hc4; have H0 : Hid (w4.heap[w.heap.size]? = some (.cells c0 141 (0, 0))) := (hcc.block w.heap.size (by simp)).trans (heap_alloc_new _ _))
    | (refine wpList_store_row rfl 141 (.tmp 2) (.tmp 9) rfl w.heap.size #[.bool b1, .bool b2, .bool b3, .bool b4, .bool b5] rfl rfl 141 c0 H0.out info112 h5 (one5 _ _ _ _ _) ?_))
  refine bodyPost_ret (v := .tuple #[.agg #[.bool b1, .bool b2, .bool b3, .bool b4, .bool b5], .bool (k != 0)]) ?_ rfl ?_
  · rw [results_cell_tmp rfl]
    simp [asAddr, run_loadVar_row _ _ _ _ #[.bool b1, .bool b2, .bool b3, .bool b4, .bool b5] _ _ (setRow_heap _ _ _ _ _ _ H0.out) Tryz.underlying141 rfl info112]
  · exact ⟨rfl, (((Ch.refl w).alloc _).trans hcc).setRow _ _ (Nat.le_refl _)⟩
end Go.Proofs.YtdalibfgkkgcpaaGreat
