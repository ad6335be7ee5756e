/- What an instruction takes and lays; whether it may be. -/
import Derived.Test.YtedcnfoipjchnaaKind
namespace Go.Proofs.Ytedcnfoipjchnaa
open Go.RowKit
set_option linter.unusedVariables false

theorem pars_len : ∀ (k : Nat) (r : List UInt8) (p : List (List UInt8) × List UInt8), pars k r = some p → p.1.length ≤ k
  | 0, r, p, h => by
    unfold pars at h
    repeat' split at h
    all_goals cases h
    exact Nat.le_refl _
  | k + 1, r, p, h => by
    rw [pars] at h
    repeat' split at h
    · cases h; exact Nat.zero_le _
    · cases h
    · cases h
    · cases hq : pars k (r.drop (tyn r 0)) with
      | none => rw [hq] at h; cases h
      | some q =>
        rw [hq] at h
        have h2 := pars_len k _ q hq
        cases h
        simp
        omega
theorem meth_len {l : List UInt8} {p : List (List UInt8) × List UInt8} (h : meth l = some p) : p.1.length ≤ 8 := by
  unfold meth at h
  split at h
  · exact pars_len 8 _ p h
  · cases h

/-- What a call takes and lays, by its method's type. -/
def effM (M : Option (List (List UInt8) × List UInt8)) (n : Int) : Value :=
  match M with
  | none => .tuple #[.int .i64 0, .int .i64 0, .int .i64 6]
  | some p => .tuple #[.int .i64 (n + (p.1.length : Int)), .int .i64 (if p.2 == [86] then 0 else 1), .int .i64 0]

theorem ms_toList (l : List UInt8) : (ms l).toList = l := by rw [bl_toList, bl_ms]

set_option maxHeartbeats 1000000 in
theorem callEffect_any (d : ByteArray) (n : Int) (w : World) (hd : d.size ≤ 1000) (hn : 0 ≤ n ∧ n ≤ 1) :
    Calls Try.prog 24 #[.string d, .int .i64 n] w fun e w' => e = .returned (effM (meth (bl d)) n) ∧ Ch w w' := by
  cases hM : meth (bl d) with
  | none =>
    have hm := fun w0 => method_no hM hd w0
    go_enter Try.func24, Try.ntmps24
    go_wp2_with (go_at_call 31; (with_reducible refine (hm _).mono ?_); rintro e w3 ⟨rfl, hc3⟩)
    go_ret3
    exact ⟨rfl, hc3⟩
  | some p =>
    have hm := fun w0 => method_yes hM hd w0
    have hl := meth_len hM
    obtain ⟨ps, q⟩ := p
    simp only at hm hl
    obtain ⟨b, hb⟩ : ∃ b, (q == [86]) = b := ⟨_, rfl⟩
    have hb2 : ((ms q).toList == [86]) = b := by rw [ms_toList]; exact hb
    have hw : IntKind.i64.wrap (n + (ps.length : Int)) = n + (ps.length : Int) := by rw [IntKind.wrap_i64]; omega
    simp only [effM, hb]
    have hl2 : (ps.length : Int) ≤ 8 := by omega
    clear hb hM hl
    generalize ms q = qs at *
    cases b
    all_goals
      go_enter Try.func24, Try.ntmps24
      go_wp2_with (first
        | (go_at_call 31; (with_reducible refine (hm _).mono ?_); rintro e w3 ⟨v, rfl, ho, hc3⟩)
        | (go_at_call 32; (with_reducible refine (words_any v ps _ _ ho).mono ?_); rintro e w4 ⟨rfl, hx⟩; have hx := hx.symm; subst hx))
      go_ret3
      exact ⟨rfl, hc3⟩

/-- An instruction as a value, and where it lies. -/
def insC (op a b : Int) (c n d : ByteArray) : Array Value := #[.int .i64 op, .int .i64 a, .int .i64 b, .string c, .string n, .string d]
theorem insC_at {w : World} {g : Nat} {op a b : Int} {c n d : ByteArray} (h : w.heap[g]? = some (.cells (insC op a b c n d) 23)) :
    w.cell? ⟨g, 0, none⟩ = some (.int .i64 op) ∧ w.cell? ⟨g, 1, none⟩ = some (.int .i64 a) ∧ w.cell? ⟨g, 2, none⟩ = some (.int .i64 b) ∧
    w.cell? ⟨g, 3, none⟩ = some (.string c) ∧ w.cell? ⟨g, 4, none⟩ = some (.string n) ∧ w.cell? ⟨g, 5, none⟩ = some (.string d) :=
  ⟨by rw [cell_of_row _ _ _ _ _ _ h]; rfl, by rw [cell_of_row _ _ _ _ _ _ h]; rfl, by rw [cell_of_row _ _ _ _ _ _ h]; rfl, by rw [cell_of_row _ _ _ _ _ _ h]; rfl, by rw [cell_of_row _ _ _ _ _ _ h]; rfl, by rw [cell_of_row _ _ _ _ _ _ h]; rfl⟩
theorem ins_kept {w w' : World} {op a b : Int} {c n d : ByteArray} (h : Ch (w.alloc (.cells #[.int .i64 op, .int .i64 a, .int .i64 b, .string c, .string n, .string d] 23)) w') : w'.heap[w.heap.size]? = some (.cells (insC op a b c n d) 23) :=
  (h.block w.heap.size (by simp)).trans (heap_alloc_new _ _)

theorem Ch.past {w w' : World} {o : Obj} (h : Ch (w.alloc o) w') : w.heap.size < w'.heap.size := by have := h.size; simp at this; omega
theorem kd_range (k : Nat) : 0 ≤ kd k ∧ kd k ≤ 10 := by
  unfold kd
  by_cases h : k < 39
  · have := on_range (f := fun k => decide (0 ≤ kindsL.getD k 0 ∧ kindsL.getD k 0 ≤ 10)) (g := fun _ => true) (n := 39) (by kernel_rfl) h
    simpa using this
  · rw [List.getD_eq_getElem?_getD, List.getElem?_eq_none (by show 39 ≤ k; omega)]; decide
theorem pp_call (k : Nat) (h : kd k = 10) : 0 ≤ pp k ∧ pp k ≤ 1 := by
  unfold kd at h
  unfold pp
  by_cases hk : k < 39
  · have := on_range (f := fun k => decide (kindsL.getD k 0 = 10 → 0 ≤ popsL.getD k 0 ∧ popsL.getD k 0 ≤ 1)) (g := fun _ => true) (n := 39) (by kernel_rfl) hk
    simp only [decide_eq_true_eq] at this
    exact this h
  · rw [List.getD_eq_getElem?_getD, List.getElem?_eq_none (by show 39 ≤ k; omega)]; decide

/-- What an instruction of that place in the table takes and lays. -/
def eff (k : Nat) (M : Option (List (List UInt8) × List UInt8)) : Value :=
  if kd k = 0 then .tuple #[.int .i64 0, .int .i64 0, .int .i64 3] else if kd k = 10 then effM M (pp k) else .tuple #[.int .i64 (pp k), .int .i64 (ph k), .int .i64 0]

set_option maxHeartbeats 2000000 in
theorem effect_any (op a b : Int) (c n d : ByteArray) (w : World) (hd : d.size ≤ 1000) :
    Calls Try.prog 17 #[.agg #[.int .i64 op, .int .i64 a, .int .i64 b, .string c, .string n, .string d]] w fun e w' => e = .returned (eff (ix op) (meth (bl d))) ∧ Ch w w' := by
  have hr := fun w0 => rowOf_any op w0
  simp only [rV] at hr
  have hp := pp_call (ix op)
  have hce := fun w0 (h : kd (ix op) = 10) => callEffect_any d (pp (ix op)) w0 hd (hp h)
  unfold eff
  generalize wB (ix op) = wb at *
  generalize kd (ix op) = k at *
  generalize pp (ix op) = n2 at *
  generalize ph (ix op) = n3 at *
  by_cases h0 : k = 0
  · subst h0
    simp only [if_true]
    clear hce hp
    go_enter Try.func17, Try.ntmps17
    go_wp2_with (first
      | (go_at_call 19; (with_reducible refine (hr _).mono ?_); rintro e w3 ⟨rfl, hc3⟩; obtain ⟨q0, q1, q2, q3, q4, q5⟩ := insC_at (ins_kept hc3)))
    go_ret3
    exact ⟨rfl, (((Ch.refl w).alloc _).trans hc3).alloc _⟩
  · have k0 : (k == 0) = false := by simpa using h0
    by_cases h10 : k = 10
    · subst h10
      have hcf := fun w0 => hce w0 rfl
      clear hce
      simp only [if_neg h0, if_true]
      obtain ⟨x, y, z, hx⟩ : ∃ x y z, effM (meth (bl d)) n2 = .tuple #[.int .i64 x, .int .i64 y, .int .i64 z] := by
        cases meth (bl d) with
        | none => exact ⟨_, _, _, rfl⟩
        | some p => exact ⟨_, _, _, rfl⟩
      rw [hx] at hcf ⊢
      clear hp hx
      go_enter Try.func17, Try.ntmps17
      go_wp2_with (first
        | (go_at_call 19; (with_reducible refine (hr _).mono ?_); rintro e w3 ⟨rfl, hc3⟩; obtain ⟨q0, q1, q2, q3, q4, q5⟩ := insC_at (ins_kept hc3); have hlt := Ch.past hc3)
        | (go_at_call 24; (with_reducible refine (hcf _).mono ?_); rintro e w4 ⟨rfl, hc4⟩))
      go_ret3
      exact ⟨rfl, ((((Ch.refl w).alloc _).trans hc3).alloc _).trans hc4⟩
    · have k10 : (k == 10) = false := by simpa using h10
      simp only [if_neg h0, if_neg h10]
      clear hce hp h0 h10
      go_enter Try.func17, Try.ntmps17
      go_wp2_with (first
        | (go_at_call 19; (with_reducible refine (hr _).mono ?_); rintro e w3 ⟨rfl, hc3⟩; obtain ⟨q0, q1, q2, q3, q4, q5⟩ := insC_at (ins_kept hc3)))
      go_quiet (fail)
      go_wp2
      go_ret3
      exact ⟨rfl, ((((Ch.refl w).alloc _).trans hc3).alloc _).drewN _⟩
end Go.Proofs.Ytedcnfoipjchnaa
