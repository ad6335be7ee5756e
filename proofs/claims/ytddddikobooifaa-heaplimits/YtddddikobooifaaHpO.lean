/- The chapter's sample; the law HeapLimits, walked. -/
import Derived.Test.YtddddikobooifaaHpN
namespace Go.Proofs.Ytddddikobooifaa
open Go.RowKit Go.Maps Go.Sort Go.Shelf
set_option linter.unusedVariables false

theorem get_x (b ob c nb c1 vb c2 : Nat) (of site : ByteArray) (W : World) (h : Oo W b ob c of site false (.slice (some ⟨nb, 0, none⟩) 1 c1) (.slice (some ⟨vb, 0, none⟩) 1 c2)) (e0 : W.cell? ⟨nb, 0, none⟩ = some (.string ⟨#[120]⟩)) (e1 : W.cell? ⟨vb, 0, none⟩ = some (.int .i64 0)) (e2 : W.cell? ⟨vb, 1, none⟩ = some (.int .i64 0)) (e3 : W.cell? ⟨vb, 2, none⟩ = some (.complex .f64 0 0)) :
    Calls Try.prog 7 #[.pointer (some ⟨b, 0, none⟩), .int .i64 1, .string ⟨#[120]⟩] W fun e w' => e = .returned (.tuple #[.agg #[.int .i64 0, .int .i64 0, .complex .f64 0 0], .int .i64 0]) ∧ Ch W w' :=
  get_yes _ _ vb 0 W (fun w' k => field_yes _ _ of site false _ 1 c1 vb c2 w' (object_one b ob c of site false _ 1 c1 _ 1 c2 w' (h.keep k)) (fun w2 k2 => bs_x nb c1 w2 (k2.cell (k.cell e0)))) e1 e2 e3
theorem get_y (b ob c nb c1 vb c2 : Nat) (of site : ByteArray) (W : World) (h : Oo W b ob c of site false (.slice (some ⟨nb, 0, none⟩) 1 c1) (.slice (some ⟨vb, 0, none⟩) 1 c2)) (e0 : W.cell? ⟨nb, 0, none⟩ = some (.string ⟨#[120]⟩)) :
    Calls Try.prog 7 #[.pointer (some ⟨b, 0, none⟩), .int .i64 1, .string ⟨#[121]⟩] W fun e w' => e = .returned (.tuple #[.agg #[.int .i64 0, .int .i64 0, .complex .f64 0 0], .int .i64 11]) ∧ Ch W w' :=
  get_no _ _ W (fun w' k => field_no _ _ of site false _ 1 c1 _ 1 c2 1 w' (object_one b ob c of site false _ 1 c1 _ 1 c2 w' (h.keep k)) (fun w2 k2 => bs_y nb c1 w2 (k2.cell (k.cell e0))))

set_option maxHeartbeats 8000000 in
set_option maxRecDepth 100000 in
theorem awake_any (w : World) : Calls Try.prog 11 #[] w fun e w' => e = .returned (.bool true) ∧ Ch w w' := by
  have B0 := Bo.new (Ch.refl w) #[.slice none 0 0] 24
  have B1 := B0.alloc (.cells #[.string ⟨#[120, 58, 73]⟩] 9)
  have F1 := Bo.new B0.ch #[.string ⟨#[120, 58, 73]⟩] 9
  have f0 := F1.c 0 rfl
  have hn := new_any _ _ _ B1.b f0
  have hsz : (w.alloc (.cells #[.slice none 0 0] 24)).heap.size = w.heap.size + 1 := by simp
  rw [hsz] at hn
  have hsc := stc
  go_enter Try.func11, Try.ntmps11
  go_wp2_with (first
    | (go_at_call 8; (with_reducible refine hn.mono ?_); clear hn; rintro e w2 ⟨rfl, t2, ob, c, nb, c1, vb, c2, ho, e0, e1, e2, e3⟩; have K2 := t2.ch B1.ch (Nat.le_refl _); have hx := get_x _ ob c nb c1 vb c2 _ _ w2 ho e0 e1 e2 e3)
    | (go_at_call 7; (with_reducible refine hx.mono ?_); clear hx; rintro e w3 ⟨rfl, c3⟩; have R3 := Bo.new c3 #[.int .i64 0, .int .i64 0, .complex .f64 0 0] 31; have hy := get_y _ ob c nb c1 vb c2 _ _ _ (ho.keep R3.ch) (R3.ch.cell e0))
    | (go_at_call 7; (with_reducible refine hy.mono ?_); clear hy; rintro e w4 ⟨rfl, c4⟩; have R4 := Bo.new (R3.ch.trans c4) #[.int .i64 0, .int .i64 0, .complex .f64 0 0] 31; have Q4 := (R3.call c4).alloc (.cells #[.int .i64 0, .int .i64 0, .complex .f64 0 0] 31); have q0 := Q4.c 0 rfl; have q1 := Q4.c 1 rfl; have hl := len_obj _ ob c _ _ _ _ _ _ _ _ _ (ho.keep R4.ch))
    | (go_at_call 21; (with_reducible refine hl.mono ?_); clear hl; rintro e w5 ⟨rfl, c5⟩))
  go_ret
  exact ⟨rfl, (K2.trans R4.ch).trans c5⟩
end Go.Proofs.Ytddddikobooifaa
