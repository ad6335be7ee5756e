/- An array made. -/
import Derived.Test.YtddddikobooifaaHpG
namespace Go.Proofs.Ytddddikobooifaa
open Go.RowKit Go.Shelf
set_option linter.unusedVariables false

set_option maxHeartbeats 4000000 in
/-- No heap. -/
theorem array_nil (n : Int) (w : World) : Calls Try.prog 4 #[.pointer none, .string ⟨#[91, 73]⟩, .string ⟨#[115]⟩, .int .i64 n] w fun e w' => e = .returned (.tuple #[.int .i64 0, .int .i64 1]) ∧ Ch w w' := by
  go_enter Try.func4, Try.ntmps4
  go_wp2_with (go_at_call 12; refine (elem_I _).mono ?_; rintro e w2 ⟨rfl, c2⟩)
  all_goals (go_ret2; exact ⟨rfl, c2⟩)

set_option maxHeartbeats 4000000 in
theorem array_no (b : Nat) (n : Int) (w : World) (hn : n < 0 ∨ 100 < n) : Calls Try.prog 4 #[.pointer (some ⟨b, 0, none⟩), .string ⟨#[91, 73]⟩, .string ⟨#[115]⟩, .int .i64 n] w fun e w' => e = .returned (.tuple #[.int .i64 0, .int .i64 1]) ∧ Ch w w' := by
  go_enter Try.func4, Try.ntmps4
  go_wp2_with (go_at_call 12; refine (elem_I _).mono ?_; rintro e w2 ⟨rfl, c2⟩)
  all_goals (go_ret2; exact ⟨rfl, c2⟩)

theorem repeat_let (n : Nat) (w : World) (hn : n ≤ 100) : Calls Try.prog 13 #[.slice (some ⟨w.heap.size, 0, none⟩) 1 1, .int .i64 (n : Int)] (w.alloc (.cells #[.int .i64 0, .int .i64 0, .complex .f64 0 0] 31)) fun e w' =>
    ∃ vb, e = .returned (.slice (some ⟨vb, 0, none⟩) n n) ∧ w.heap.size ≤ vb ∧ w'.heap[vb]? = some (.cells (zr n) 31) ∧ Ch w w' := by
  refine (repeat_any n w.heap.size _ hn (fun j hj => ?_)).mono ?_
  · have hb := heap_alloc_new w (.cells #[.int .i64 0, .int .i64 0, .complex .f64 0 0] 31)
    simp only [World.cell?, hb]
    match j, hj with
    | 0, _ => rfl
    | 1, _ => rfl
    | 2, _ => rfl
  · rintro e w' ⟨rfl, q, rfl⟩
    exact ⟨_, rfl, by simp, heap_alloc_new _ _, (((Ch.refl w).alloc _).alloc _).drewN q⟩

set_option maxHeartbeats 4000000 in
theorem array_yes (b n : Nat) (w : World) (hb : w.heap[b]? = some (.cells #[.slice none 0 0] 24)) (hn : n ≤ 100) : Calls Try.prog 4 #[.pointer (some ⟨b, 0, none⟩), .string ⟨#[91, 73]⟩, .string ⟨#[115]⟩, .int .i64 (n : Int)] w fun e w' =>
    e = .returned (.tuple #[.int .i64 1, .int .i64 0]) ∧ Tg b w w' ∧ ∃ ob c vb, w.heap.size ≤ ob ∧ w.heap.size ≤ vb ∧ Oo w' b ob c ⟨#[91, 73]⟩ ⟨#[115]⟩ true (.slice none 0 0) (.slice (some ⟨vb, 0, none⟩) n n) ∧ w'.heap[vb]? = some (.cells (zr n) 31) := by
  have hbl : b < w.heap.size := (Array.getElem?_eq_some_iff.1 hb).1
  have hbh : (n : Int) ≤ 100 := by omega
  have hz : ∀ w, Calls Try.prog 14 #[.string ⟨#[73]⟩] w fun e w' => e = .returned (.agg #[.int .i64 0, .int .i64 0, .complex .f64 0 0]) ∧ Ch w w' := fun w => zero_I w
  go_enter Try.func4, Try.ntmps4
  go_wp2_with (first
    | (go_at_call 12; refine (elem_I _).mono ?_; rintro e w2 ⟨rfl, c2⟩)
    | (go_at_call 14; refine (hz _).mono ?_; rintro e w3 ⟨rfl, c3⟩)
    | (go_at_call 13; refine (repeat_let n _ hn).mono ?_; rintro e w4 ⟨vb, rfl, hvb, hv4, c4⟩; have C4 := (c2.trans c3).trans c4; have hb4 := (C4.block b hbl).trans hb; have hvl : w.heap.size ≤ vb := Nat.le_trans (c2.trans c3).size hvb)
    | (go_at_call 15; refine (add_any b _ _ _ _ _ _ _ _ _ _ hb4 (by decide) (by decide)).mono ?_; rintro e w5 ⟨rfl, t5, ob, c, hob, ho⟩))
  go_ret2
  have hsz := C4.size
  exact ⟨rfl, ⟨t5.os.trans C4.os, t5.tape.trans C4.tape, t5.output.trans C4.output, Nat.le_trans C4.size t5.size, fun k hk hne => (t5.block k (by omega) hne).trans (C4.block k hk)⟩, ob, c, vb, by omega, hvl, ho, (t5.block vb (Array.getElem?_eq_some_iff.1 hv4).1 (by omega)).trans hv4⟩
end Go.Proofs.Ytddddikobooifaa
