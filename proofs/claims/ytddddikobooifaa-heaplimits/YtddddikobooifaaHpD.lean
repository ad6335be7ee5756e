/- A type's zero; an element's type; how many objects; one of them. -/
import Derived.Test.YtddddikobooifaaHpC
namespace Go.Proofs.Ytddddikobooifaa
open Go.RowKit Go.Shelf
set_option linter.unusedVariables false

theorem Bo.setRow {w w1 : World} {g : Nat} {T : TypeId} {cs : Array Value} (h : Bo w g T cs w1) (cs' : Array Value) : Bo w g T cs' (w1.setRow g cs') :=
  ⟨h.ch.setRow g cs' h.le, h.le, setRow_heap _ _ _ _ _ _ h.b⟩
theorem Bo.farRow {w w1 : World} {g : Nat} {T : TypeId} {cs : Array Value} (h : Bo w g T cs w1) {g' : Nat} (cs' : Array Value) (hne : g ≠ g') (hg : w.heap.size ≤ g') : Bo w g T cs (w1.setRow g' cs') :=
  ⟨h.ch.setRow g' cs' hg, h.le, (setRow_other _ _ _ _ hne).trans h.b⟩
theorem size31 : (Try.prog.info? 31).map (·.size) = some 3 := by kernel_rfl
theorem size49 : (Try.prog.info? 49).map (·.size) = some 5 := by kernel_rfl

theorem one3 : (#[Value.int .i64 0, .int .i64 0, .complex .f64 0 0].all (·.oneCell')) = true := by kernel_rfl
set_option maxHeartbeats 4000000 in
theorem zero_I (w : World) : Calls Try.prog 14 #[.string ⟨#[73]⟩] w fun e w' => e = .returned zv ∧ Ch w w' := by
  have R0 := Bo.new (Ch.refl w) #[.int .i64 0, .int .i64 0, .complex .f64 0 0] 31
  have hst : (store ⟨w.heap.size, 2, none⟩ (.complex .f64 0 0)).run Try.prog (w.alloc (.cells #[.int .i64 0, .int .i64 0, .complex .f64 0 0] 31)) = .ok () ((w.alloc (.cells #[.int .i64 0, .int .i64 0, .complex .f64 0 0] 31)).setCell ⟨w.heap.size, 2, none⟩ (.complex .f64 0 0)) := by
    rw [run_store Try.prog _ _ _ _ rfl, R0.c 2 rfl]
    simp [R0.fz 2]
  go_enter Try.func14, Try.ntmps14
  go_wp2
  refine bodyPost_ret (results_cell_row rfl _ _ w.heap.size 31 _ (0, 0) _ rfl R0.b Try.underlying31 rfl size31) rfl ?_
  exact ⟨rfl, R0.ch⟩

set_option maxHeartbeats 4000000 in
theorem elem_I (w : World) : Calls Try.prog 12 #[.string ⟨#[91, 73]⟩] w fun e w' => e = .returned (.tuple #[.string ⟨#[73]⟩, .bool true]) ∧ Ch w w' := by
  have ht : ∀ w, Calls Try.prog 22 #[.string ⟨#[91, 73]⟩] w fun e w' => e = .returned (.bool true) ∧ w' = w := fun w => by
    have h := type_any ⟨#[91, 73]⟩ w (by decide)
    have e : isType (bl ⟨#[91, 73]⟩) = true := by decide
    rw [e] at h
    exact h
  have hc : ∀ w, Calls Try.prog 19 #[.string ⟨#[73]⟩] w fun e w' => e = .returned (.string ⟨#[73]⟩) ∧ Ch w w' := fun w => clone_any ⟨#[73]⟩ w (by decide)
  go_enter Try.func12, Try.ntmps12
  go_wp2_with (first
    | (go_at_call 22; refine (ht _).mono ?_; rintro e w2 ⟨rfl, hw2⟩; have hw2 := hw2.symm; subst hw2)
    | (go_at_call 19; refine (hc _).mono ?_; rintro e w2 ⟨rfl, c2⟩))
  go_ret2
  exact ⟨rfl, c2⟩

theorem count_nil (w : World) : Calls Try.prog 5 #[.pointer none] w fun e w' => e = .returned (.int .i64 0) ∧ w' = w := by
  go_enter Try.func5, Try.ntmps5
  go_wp2
  go_ret
  exact ⟨rfl, rfl⟩
theorem count_any (b k c : Nat) (ao : Option Addr) (w : World) (h : w.cell? ⟨b, 0, none⟩ = some (.slice ao k c)) : Calls Try.prog 5 #[.pointer (some ⟨b, 0, none⟩)] w fun e w' => e = .returned (.int .i64 (k : Int)) ∧ w' = w := by
  go_enter Try.func5, Try.ntmps5
  go_wp2
  go_ret
  exact ⟨rfl, rfl⟩

/-- No object. -/
def zo : Value := .agg #[.string ⟨#[]⟩, .string ⟨#[]⟩, .bool false, .slice none 0 0, .slice none 0 0]
theorem object_nil (p : Value) (w : World) (hc : ∀ w', Ch w w' → Calls Try.prog 5 #[p] w' fun e w2 => e = .returned (.int .i64 0) ∧ w2 = w') :
    Calls Try.prog 20 #[p, .int .i64 1] w fun e w' => e = .returned zo ∧ Ch w w' := by
  have R0 := Bo.new (Ch.refl w) #[.string ⟨#[]⟩, .string ⟨#[]⟩, .bool false, .slice none 0 0, .slice none 0 0] 49
  have hc' := hc _ R0.ch
  go_enter Try.func20, Try.ntmps20
  go_wp2_with (go_at_call 5; refine hc'.mono ?_; rintro e w2 ⟨rfl, hw2⟩; have hw2 := hw2.symm; subst hw2)
  refine bodyPost_ret (results_cell_row rfl _ _ w.heap.size 49 _ (0, 0) _ rfl R0.b Try.underlying49 rfl size49) rfl ?_
  exact ⟨rfl, R0.ch⟩
end Go.Proofs.Ytddddikobooifaa
