/- The document's own answer: which fields an Op has; an instruction with these alone. -/
import Derived.Test.YthmepecmeambmaaGreatKOwn
namespace Go.Proofs.YthmepecmeambmaaGreat
open Go.RowKit
set_option linter.unusedVariables false

theorem info134 : (Tryz.prog.info? 134).map (·.size) = some 5 := by kernel_rfl
/-- Is it an Op? -/
def isOp (op : Int) : Bool := decide (1 ≤ op) && decide (op ≤ 38)

/-- The kinds by the Op. -/
theorem kind_at (op : Int) : (op = 2 ∨ op = 5 ∨ op = 6 ∨ op = 17 ∨ op = 18 ∨ op = 19 ∨ op = 20) ∧ (kd (ix op) = 2 ∨ kd (ix op) = 4 ∨ kd (ix op) = 5) ∨ op = 3 ∧ kd (ix op) = 3 ∨ op = 21 ∧ kd (ix op) = 6 ∨
    (op = 26 ∨ op = 30 ∨ op = 31) ∧ (kd (ix op) = 7 ∨ kd (ix op) = 8) ∨ (op = 22 ∨ op = 23 ∨ op = 24 ∨ op = 25 ∨ op = 32 ∨ op = 33 ∨ op = 34 ∨ op = 35) ∧ (kd (ix op) = 9 ∨ kd (ix op) = 10) ∨
    ((op == 2) = false ∧ (op == 5) = false ∧ (op == 6) = false ∧ (op == 17) = false ∧ (op == 18) = false ∧ (op == 19) = false ∧ (op == 20) = false ∧ (op == 3) = false ∧ (op == 21) = false ∧ (op == 26) = false ∧ (op == 30) = false ∧ (op == 31) = false ∧
      (op == 22) = false ∧ (op == 23) = false ∧ (op == 24) = false ∧ (op == 25) = false ∧ (op == 32) = false ∧ (op == 33) = false ∧ (op == 34) = false ∧ (op == 35) = false) ∧ (kd (ix op) = 0 ∨ kd (ix op) = 1) := by
  by_cases h : 0 ≤ op ∧ op ≤ 38
  · obtain ⟨k, rfl⟩ : ∃ k : Nat, op = (k : Int) := ⟨op.toNat, by omega⟩
    rw [ix_yes k (by omega)]
    have hk : k < 39 := by omega
    have := on_range (n := 39) (g := fun _ => true) (f := fun k : Nat => decide (((k : Int) = 2 ∨ (k : Int) = 5 ∨ (k : Int) = 6 ∨ (k : Int) = 17 ∨ (k : Int) = 18 ∨ (k : Int) = 19 ∨ (k : Int) = 20) ∧ (kd k = 2 ∨ kd k = 4 ∨ kd k = 5) ∨ (k : Int) = 3 ∧ kd k = 3 ∨ (k : Int) = 21 ∧ kd k = 6 ∨
      ((k : Int) = 26 ∨ (k : Int) = 30 ∨ (k : Int) = 31) ∧ (kd k = 7 ∨ kd k = 8) ∨ ((k : Int) = 22 ∨ (k : Int) = 23 ∨ (k : Int) = 24 ∨ (k : Int) = 25 ∨ (k : Int) = 32 ∨ (k : Int) = 33 ∨ (k : Int) = 34 ∨ (k : Int) = 35) ∧ (kd k = 9 ∨ kd k = 10) ∨
      (((k : Int) == 2) = false ∧ ((k : Int) == 5) = false ∧ ((k : Int) == 6) = false ∧ ((k : Int) == 17) = false ∧ ((k : Int) == 18) = false ∧ ((k : Int) == 19) = false ∧ ((k : Int) == 20) = false ∧ ((k : Int) == 3) = false ∧ ((k : Int) == 21) = false ∧ ((k : Int) == 26) = false ∧ ((k : Int) == 30) = false ∧ ((k : Int) == 31) = false ∧
        ((k : Int) == 22) = false ∧ ((k : Int) == 23) = false ∧ ((k : Int) == 24) = false ∧ ((k : Int) == 25) = false ∧ ((k : Int) == 32) = false ∧ ((k : Int) == 33) = false ∧ ((k : Int) == 34) = false ∧ ((k : Int) == 35) = false) ∧ (kd k = 0 ∨ kd k = 1))) (by kernel_rfl) hk
    simpa only [decide_eq_true_eq] using this
  · rw [ix_no (by omega)]
    refine Or.inr (Or.inr (Or.inr (Or.inr (Or.inr ⟨?_, Or.inl rfl⟩))))
    refine ⟨?_, ?_, ?_, ?_, ?_, ?_, ?_, ?_, ?_, ?_, ?_, ?_, ?_, ?_, ?_, ?_, ?_, ?_, ?_, ?_⟩ <;> (simp; omega)

/-- What the document's function answers. -/
def shR (op : Int) : Value := .tuple #[.agg #[.bool (sA (kd (ix op))), .bool (sB (kd (ix op))), .bool (sC (kd (ix op))), .bool (sN (kd (ix op))), .bool (sD (kd (ix op)))], .bool (isOp op)]

theorem shape_results (w : World) (b1 b2 b3 b4 b5 x : Bool) (tmps : Array Value) (hp : tmps.getD 2 undef = .pointer (some ⟨w.heap.size, 0, none⟩)) (hx : tmps.getD 3 undef = .bool x) :
    (results Tryz.f106 tmps).run Tryz.prog (w.alloc (.cells #[.bool b1, .bool b2, .bool b3, .bool b4, .bool b5] 134)) = .ok (.tuple #[.agg #[.bool b1, .bool b2, .bool b3, .bool b4, .bool b5], .bool x]) (w.alloc (.cells #[.bool b1, .bool b2, .bool b3, .bool b4, .bool b5] 134)) := by
  rw [results_cell_tmp (p := 2) (u := 3) (ty := 134) rfl, hp, hx]
  simp [asAddr, run_loadVar_row _ _ _ _ #[.bool b1, .bool b2, .bool b3, .bool b4, .bool b5] _ _ (heap_alloc_new w (.cells #[.bool b1, .bool b2, .bool b3, .bool b4, .bool b5] 134)) Tryz.underlying134 rfl info134]

set_option maxHeartbeats 4000000 in
theorem refShape_any (op : Int) (w : World) : Calls Tryz.prog 106 #[.int .i64 op] w fun e w' => e = .returned (shR op) ∧ Ch w w' := by
  rcases kind_at op with ⟨h1, h2⟩ | ⟨h1, h2⟩ | ⟨h1, h2⟩ | ⟨h1, h2⟩ | ⟨h1, h2⟩ | ⟨⟨n2, n5, n6, n17, n18, n19, n20, n3, n21, n26, n30, n31, n22, n23, n24, n25, n32, n33, n34, n35⟩, h2⟩
  · have hv : shR op = .tuple #[.agg #[.bool true, .bool false, .bool false, .bool false, .bool false], .bool true] := by
      unfold shR
      have : isOp op = true := by unfold isOp; rcases h1 with rfl | rfl | rfl | rfl | rfl | rfl | rfl <;> rfl
      rcases h2 with h | h | h <;> rw [h, this] <;> rfl
    rw [hv]
    clear hv h2
    rcases h1 with rfl | rfl | rfl | rfl | rfl | rfl | rfl
    all_goals
      go_enter Tryz.func106, Tryz.ntmps106
      go_wp2
      refine bodyPost_ret (shape_results w _ _ _ _ _ _ _ rfl rfl) rfl ?_
      exact ⟨rfl, (Ch.refl w).alloc _⟩
  · have hv : shR op = .tuple #[.agg #[.bool true, .bool true, .bool false, .bool false, .bool false], .bool true] := by
      unfold shR
      have : isOp op = true := by unfold isOp; rw [h1]; rfl
      rw [h2, this]; rfl
    rw [hv]
    clear hv h2
    subst h1
    all_goals
      go_enter Tryz.func106, Tryz.ntmps106
      go_wp2
      refine bodyPost_ret (shape_results w _ _ _ _ _ _ _ rfl rfl) rfl ?_
      exact ⟨rfl, (Ch.refl w).alloc _⟩
  · have hv : shR op = .tuple #[.agg #[.bool false, .bool false, .bool true, .bool false, .bool false], .bool true] := by
      unfold shR
      have : isOp op = true := by unfold isOp; rw [h1]; rfl
      rw [h2, this]; rfl
    rw [hv]
    clear hv h2
    subst h1
    all_goals
      go_enter Tryz.func106, Tryz.ntmps106
      go_wp2
      refine bodyPost_ret (shape_results w _ _ _ _ _ _ _ rfl rfl) rfl ?_
      exact ⟨rfl, (Ch.refl w).alloc _⟩
  · have hv : shR op = .tuple #[.agg #[.bool false, .bool false, .bool false, .bool false, .bool true], .bool true] := by
      unfold shR
      have : isOp op = true := by unfold isOp; rcases h1 with rfl | rfl | rfl <;> rfl
      rcases h2 with h | h <;> rw [h, this] <;> rfl
    rw [hv]
    clear hv h2
    rcases h1 with rfl | rfl | rfl
    all_goals
      go_enter Tryz.func106, Tryz.ntmps106
      go_wp2
      refine bodyPost_ret (shape_results w _ _ _ _ _ _ _ rfl rfl) rfl ?_
      exact ⟨rfl, (Ch.refl w).alloc _⟩
  · have hv : shR op = .tuple #[.agg #[.bool false, .bool false, .bool true, .bool true, .bool true], .bool true] := by
      unfold shR
      have : isOp op = true := by unfold isOp; rcases h1 with rfl | rfl | rfl | rfl | rfl | rfl | rfl | rfl <;> rfl
      rcases h2 with h | h <;> rw [h, this] <;> rfl
    rw [hv]
    clear hv h2
    rcases h1 with rfl | rfl | rfl | rfl | rfl | rfl | rfl | rfl
    all_goals
      go_enter Tryz.func106, Tryz.ntmps106
      go_wp2
      refine bodyPost_ret (shape_results w _ _ _ _ _ _ _ rfl rfl) rfl ?_
      exact ⟨rfl, (Ch.refl w).alloc _⟩
  · have hv : shR op = .tuple #[.agg #[.bool false, .bool false, .bool false, .bool false, .bool false], .bool (isOp op)] := by
      unfold shR
      rcases h2 with h | h <;> rw [h] <;> rfl
    rw [hv]
    unfold isOp
    clear hv h2
    rcases (show op < 1 ∧ decide (1 ≤ op) = false ∨ 1 ≤ op ∧ op ≤ 38 ∨ 1 ≤ op ∧ 38 < op ∧ decide (op ≤ 38) = false by simp only [decide_eq_false_iff_not]; omega) with ⟨m1, m2⟩ | ⟨m1, m2⟩ | ⟨m1, m2, m3⟩
    · rw [m2, Bool.false_and]
      go_enter Tryz.func106, Tryz.ntmps106
      go_wp2
      refine bodyPost_ret (shape_results w _ _ _ _ _ _ _ rfl rfl) rfl ?_
      exact ⟨rfl, (Ch.refl w).alloc _⟩
    · rw [decide_eq_true m1, decide_eq_true m2, Bool.and_true]
      go_enter Tryz.func106, Tryz.ntmps106
      go_wp2
      refine bodyPost_ret (shape_results w _ _ _ _ _ _ _ rfl rfl) rfl ?_
      exact ⟨rfl, (Ch.refl w).alloc _⟩
    · rw [m3, Bool.and_false]
      go_enter Tryz.func106, Tryz.ntmps106
      go_wp2
      refine bodyPost_ret (shape_results w _ _ _ _ _ _ _ rfl rfl) rfl ?_
      exact ⟨rfl, (Ch.refl w).alloc _⟩

set_option maxHeartbeats 4000000 in
theorem pure_at (op a b : Int) (c n d : ByteArray) (w : World) (s1 s2 s3 s4 s5 iso : Bool) (hp : Pat s1 s2 s3 s4 s5)
    (hs : ∀ w0, Calls Tryz.prog 106 #[.int .i64 op] w0 fun e w' => e = .returned (.tuple #[.agg #[.bool s1, .bool s2, .bool s3, .bool s4, .bool s5], .bool iso]) ∧ Ch w0 w') :
    Calls Tryz.prog 95 #[.agg #[.int .i64 op, .int .i64 a, .int .i64 b, .string c, .string n, .string d]] w fun e w' => e = .returned (.agg (ownA s1 s2 s3 s4 s5 op a b c n d)) ∧ Ch w w' := by
  have hz : ∀ o : Obj, (w.alloc o).heap.size = w.heap.size + 1 := fun o => by simp
  rcases hp with ⟨rfl, rfl, rfl, rfl, rfl⟩ | ⟨rfl, rfl, rfl, rfl, rfl⟩ | ⟨rfl, rfl, rfl, rfl, rfl⟩ | ⟨rfl, rfl, rfl, rfl, rfl⟩ | ⟨rfl, rfl, rfl, rfl, rfl⟩ | ⟨rfl, rfl, rfl, rfl, rfl⟩
  all_goals
    go_enter Tryz.func95, Tryz.ntmps95
    go_wp2_with (first
      | (go_at_call 106; (with_reducible refine (hs _).mono ?_); rintro e w4 ⟨rfl, hcc⟩; obtain ⟨r0, r1, r2, r3, r4, r5⟩ := insC_at (ins_kept0 hcc); have hlt := Ch.past2 hcc; have hlt2 : w.heap.size < w4.heap.size := (by omega); have hlt3 : w.heap.size < w4.heap.size + 1 := (by omega))
      | (refine wpList_store_row rfl 62 (.tmp 2) (.tmp 40) rfl (w.heap.size + 1) _ rfl rfl 62 _ (kept2 hcc _ _) info62 rfl (one6 _ _ _ _ _ _) ?_))
  all_goals
    refine bodyPost_ret (results_cell_row rfl _ _ (w.heap.size + 1) 62 _ (0, 0) _ rfl (setRow_heap _ _ _ _ _ _ (kept2 hcc _ _)) Tryz.underlying62 rfl info62) rfl ?_
    exact ⟨rfl, ((((((Ch.refl w).alloc _).alloc _).trans hcc).alloc _).alloc _).setRow _ _ (by omega)⟩
end Go.Proofs.YthmepecmeambmaaGreat
