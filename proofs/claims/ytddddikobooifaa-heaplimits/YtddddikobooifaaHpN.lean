/- An object made; no heap; the chapter's sample. -/
import Derived.Test.YtddddikobooifaaHpM
namespace Go.Proofs.Ytddddikobooifaa
open Go.RowKit Go.Maps Go.Sort Go.Shelf
set_option linter.unusedVariables false

theorem Tg.cell {g : Nat} {w w' : World} (t : Tg g w w') {p : Addr} {u : Value} (h : w.cell? p = some u) (hne : p.block ≠ g) : w'.cell? p = some u := by
  unfold World.cell? at h ⊢
  by_cases hlt : p.block < w.heap.size
  · rw [t.block _ hlt hne]; exact h
  · rw [Array.getElem?_eq_none (by omega)] at h; simp at h
theorem new_nil (v : Value) (w : World) : Calls Try.prog 8 #[.pointer none, .string ⟨#[76, 65, 59]⟩, .string ⟨#[115]⟩, v] w fun e w' => e = .returned (.int .i64 0) ∧ w' = w := by
  go_enter Try.func8, Try.ntmps8
  go_wp2
  go_ret
  exact ⟨rfl, rfl⟩

set_option maxHeartbeats 4000000 in
set_option maxRecDepth 100000 in
theorem new_any (b fb : Nat) (w : World) (hb : w.heap[b]? = some (.cells #[.slice none 0 0] 24)) (h : w.cell? ⟨fb, 0, none⟩ = some (.string ⟨#[120, 58, 73]⟩)) :
    Calls Try.prog 8 #[.pointer (some ⟨b, 0, none⟩), .string ⟨#[76, 65, 59]⟩, .string ⟨#[115]⟩, .slice (some ⟨fb, 0, none⟩) 1 1] w fun e w' => e = .returned (.int .i64 1) ∧ Tg b w w' ∧
      ∃ ob c nb c1 vb c2, Oo w' b ob c ⟨#[76, 65, 59]⟩ ⟨#[115]⟩ false (.slice (some ⟨nb, 0, none⟩) 1 c1) (.slice (some ⟨vb, 0, none⟩) 1 c2) ∧ w'.cell? ⟨nb, 0, none⟩ = some (.string ⟨#[120]⟩) ∧ w'.cell? ⟨vb, 0, none⟩ = some (.int .i64 0) ∧ w'.cell? ⟨vb, 1, none⟩ = some (.int .i64 0) ∧ w'.cell? ⟨vb, 2, none⟩ = some (.complex .f64 0 0) := by
  have hbl : b < w.heap.size := (Array.getElem?_eq_some_iff.1 hb).1
  have hl := laid_any fb w h
  go_enter Try.func8, Try.ntmps8
  go_wp2_with (first
    | (go_at_call 18; refine hl.mono ?_; rintro e w2 ⟨nb, c1, vb, c2, rfl, l1, l2, e0, e1, e2, e3, k2⟩; have hb2 := (k2.block b hbl).trans hb)
    | (go_at_call 15; refine (add_any b _ _ _ _ _ _ _ _ _ _ hb2 (by decide) (by decide)).mono ?_; rintro e w3 ⟨rfl, t3, ob, c, hob, ho⟩))
  go_ret
  have hc : ∀ (g j : Nat) (u : Value), w2.cell? ⟨g, j, none⟩ = some u → w.heap.size ≤ g → w3.cell? ⟨g, j, none⟩ = some u := fun g j u hu hg => t3.cell hu (by simp; omega)
  have hsz := k2.size
  exact ⟨rfl, ⟨t3.os.trans k2.os, t3.tape.trans k2.tape, t3.output.trans k2.output, Nat.le_trans k2.size t3.size, fun k hk hne => (t3.block k (by omega) hne).trans (k2.block k hk)⟩, ob, c, nb, c1, vb, c2, ho, hc _ _ _ e0 l1, hc _ _ _ e1 l2, hc _ _ _ e2 l2, hc _ _ _ e3 l2⟩

/-- An object of no heap. -/
theorem object_none (w : World) : Calls Try.prog 20 #[.pointer none, .int .i64 1] w fun e w' => e = .returned zo ∧ Ch w w' :=
  object_nil _ w (fun w' _ => count_nil w')
/-- An object of an empty one. -/
theorem object_empty (b : Nat) (w : World) (h : w.cell? ⟨b, 0, none⟩ = some (.slice none 0 0)) : Calls Try.prog 20 #[.pointer (some ⟨b, 0, none⟩), .int .i64 1] w fun e w' => e = .returned zo ∧ Ch w w' :=
  object_nil _ w (fun w' c => count_any b 0 0 none w' (c.cell h))

set_option maxHeartbeats 4000000 in
set_option maxRecDepth 100000 in
theorem type_nil (w : World) : Calls Try.prog 9 #[.pointer none, .int .i64 1] w fun e w' => e = .returned (.string ⟨#[]⟩) ∧ Ch w w' := by
  have ho : ∀ w, Calls Try.prog 20 #[.pointer none, .int .i64 1] w fun e w' => e = .returned (.agg #[.string ⟨#[]⟩, .string ⟨#[]⟩, .bool false, .slice none 0 0, .slice none 0 0]) ∧ Ch w w' := object_none
  have hc : ∀ w, Calls Try.prog 19 #[.string ⟨#[]⟩] w fun e w' => e = .returned (.string ⟨#[]⟩) ∧ Ch w w' := fun w => clone_any _ w (by decide)
  have hfl : ∀ W, (Instr.field 49 (.agg #[.string ⟨#[]⟩, .string ⟨#[]⟩, .bool false, .slice none 0 0, .slice none 0 0]) 0).run Try.prog W = .ok (.string ⟨#[]⟩) W := fun W => by
    kernel_rfl
  go_enter Try.func9, Try.ntmps9
  go_wp2_with (first
    | (go_at_call 20; refine (ho _).mono ?_; rintro e w2 ⟨rfl, c2⟩)
    | (go_at_call 19; refine (hc _).mono ?_; rintro e w3 ⟨rfl, c3⟩))
  go_ret
  exact ⟨rfl, c2.trans c3⟩

set_option maxHeartbeats 4000000 in
set_option maxRecDepth 100000 in
theorem set_nil (w : World) : Calls Try.prog 10 #[.pointer none, .int .i64 1, .int .i64 0, .agg #[.int .i64 0, .int .i64 0, .complex .f64 0 0]] w fun e w' => e = .returned (.int .i64 11) ∧ Ch w w' := by
  have ho : ∀ w, Calls Try.prog 16 #[.pointer none, .int .i64 1, .int .i64 0] w fun e w' => e = .returned (.tuple #[.pointer none, .int .i64 11]) ∧ Ch w w' := fun w => element_none _ _ _ (fun w' _ => object_none w')
  have C0 := (Ch.refl w).alloc (.cells #[.int .i64 0, .int .i64 0, .complex .f64 0 0] 31)
  go_enter Try.func10, Try.ntmps10
  go_wp2_with (go_at_call 16; refine (ho _).mono ?_; rintro e w2 ⟨rfl, c2⟩)
  go_ret
  exact ⟨rfl, C0.trans c2⟩

theorem get_nil (w : World) : Calls Try.prog 7 #[.pointer none, .int .i64 1, .string ⟨#[120]⟩] w fun e w' => e = .returned (.tuple #[zv, .int .i64 11]) ∧ Ch w w' :=
  get_no _ _ _ (fun w' _ => field_no _ _ ⟨#[]⟩ ⟨#[]⟩ false none 0 0 none 0 0 0 w' (object_none w') (fun w2 _ => bs_nil _ w2))

set_option maxHeartbeats 4000000 in
set_option maxRecDepth 100000 in
/-- How many elements an object has that is no array. -/
theorem len_obj (b ob c : Nat) (of site : ByteArray) (a1 : Option Addr) (n1 k1 : Nat) (a2 : Option Addr) (n2 k2 : Nat) (w : World) (h : Oo w b ob c of site false (.slice a1 n1 k1) (.slice a2 n2 k2)) :
    Calls Try.prog 21 #[.pointer (some ⟨b, 0, none⟩), .int .i64 1] w fun e w' => e = .returned (.int .i64 (-1)) ∧ Ch w w' := by
  have ho := object_one b ob c of site false a1 n1 k1 a2 n2 k2 w h
  go_enter Try.func21, Try.ntmps21
  go_wp2_with (go_at_call 20; refine ho.mono ?_; rintro e w2 ⟨rfl, c2⟩; have B := Bo.new c2 #[.string of, .string site, .bool false, .slice a1 n1 k1, .slice a2 n2 k2] 49; have f2 := B.c 2 rfl)
  go_ret
  exact ⟨rfl, B.ch⟩
end Go.Proofs.Ytddddikobooifaa
