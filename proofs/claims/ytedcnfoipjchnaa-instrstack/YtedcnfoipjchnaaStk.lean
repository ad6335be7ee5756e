/- The walk of the law InstrStack. -/
import Derived.Test.YtedcnfoipjchnaaStkS
import Derived.Laws.OwnMore
namespace Go.Proofs.Ytedcnfoipjchnaa
open Go.RowKit
set_option linter.unusedVariables false

set_option maxHeartbeats 8000000 in
theorem stack_main (a0 : Option Addr) (len cap : Nat) (z : Nat → Bool) (res op : Int) (w : World) (hl : len ≤ 10)
    (hc : ∀ k, k < len → ∃ g off, a0 = some ⟨g, off, none⟩ ∧ w.cell? ⟨g, off + k, none⟩ = some (.bool (z k))) :
    Calls Try.prog 6 #[.slice a0 len cap, .int .i64 res, .int .i64 op] w fun e w' => e = .returned (.bool true) ∧ Ch w w' := by
  have t0 : decide ((10 : Int) < (len : Int)) = false := by simp; omega
  have HC : Hid (∀ k, k < len → ∃ g off, a0 = some ⟨g, off, none⟩ ∧ w.cell? ⟨g, off + k, none⟩ = some (.bool (z k))) := hc
  clear hc
  go_enter Try.func6, Try.ntmps6
  go_wp2_with fail
  go_loop [7, 8] (fun sv i => ∃ (k : Nat) (S : ByteArray), k ≤ len ∧ sv = .string S ∧ i = .int .i64 k ∧ Hid (bl S = 40 :: fl (jl z k))) (fun _ i => len - (intOf i).toNat)
  case atStart => exact ⟨0, ⟨#[40]⟩, by omega, rfl, rfl, rfl⟩
  case round =>
    obtain ⟨k, S, hk, rfl, rfl, hS⟩ := hrel
    have hSs : S.size ≤ 50 := by
      rw [← bl_len, hS.out]
      have := fl_len (jl z k)
      rw [jl_len] at this
      simp
      omega
    by_cases hlt : k < len
    · obtain ⟨g, off, rfl, hcell⟩ := HC.out k hlt
      have hS2 : Hid (bl (S ++ ms (T (z k))) = 40 :: fl (jl z (k + 1))) := by
        show _ = _
        rw [bl_append, hS.out, bl_ms, jl, fl_snoc]
        rfl
      obtain ⟨b, hb⟩ : ∃ b, z k = b := ⟨_, rfl⟩
      rw [hb] at hcell hS2
      clear hb
      cases b
      · have e : ms (T false) = ⟨#[91, 76, 65, 59]⟩ := rfl
        rw [e] at hS2
        clear e
        go_wp2
        exact ⟨⟨k + 1, S ++ ⟨#[91, 76, 65, 59]⟩, by omega, rfl, rfl, hS2⟩, by simp [intOf]; omega⟩
      · have e : ms (T true) = ⟨#[73]⟩ := rfl
        rw [e] at hS2
        clear e
        go_wp2
        exact ⟨⟨k + 1, S ++ ⟨#[73]⟩, by omega, rfl, rfl, hS2⟩, by simp [intOf]; omega⟩
    · obtain rfl : k = len := by omega
      have hi := pl_lt res 3 (by omega)
      have hr1 : ∀ w0, Calls Try.prog 16 #[.int .i64 res, .int .i64 3] w0 fun e w' => e = .returned (.int .i64 ((pl res 3 : Nat) : Int)) ∧ w' = w0 := fun w0 => pl_any res 3 w0 (by omega) (by omega)
      have hj := pl_lt op 4 (by omega)
      have hr2 : ∀ w0, Calls Try.prog 16 #[.int .i64 op, .int .i64 4] w0 fun e w' => e = .returned (.int .i64 ((pl op 4 : Nat) : Int)) ∧ w' = w0 := fun w0 => pl_any op 4 w0 (by omega) (by omega)
      generalize pl res 3 = i at *
      generalize pl op 4 = j at *
      have hi' : ((i : Nat) : Int) < 3 := by omega
      have d0 := res_cell w i hi
      have m1 : bl ((S ++ ⟨#[41]⟩) ++ ms (R i)) = 40 :: fl (jl z k) ++ 41 :: R i := by rw [bl_append, bl_append, hS.out, bl_ms]; simp [bl]
      have hRs : (ms (R i)).size ≤ 3 := by rw [ms_size]; exact R_len i
      have e1 : (S ++ ⟨#[41]⟩).size = S.size + 1 := by rw [ByteArray.size_append]; rfl
      have e2 : ((S ++ ⟨#[41]⟩) ++ ms (R i)).size = S.size + 1 + (ms (R i)).size := by rw [ByteArray.size_append, e1]
      have s1 : ((S ++ ⟨#[41]⟩) ++ ms (R i)).size ≤ 900 := by omega
      have hef := fun w0 => effect_any (32 + (j : Int)) 0 0 ⟨#[65]⟩ ⟨#[109]⟩ ((S ++ ⟨#[41]⟩) ++ ms (R i)) w0 (by omega)
      rw [eff_at hj, m1] at hef
      have hck := fun w0 => check_any (32 + (j : Int)) 0 0 1 1 ⟨#[65]⟩ ⟨#[109]⟩ ((S ++ ⟨#[41]⟩) ++ ms (R i)) w0 (by decide) (by decide) s1
      have b1 : bl ⟨#[65]⟩ = [65] := rfl
      have b2 : bl ⟨#[109]⟩ = [109] := rfl
      rw [b1, b2, chk_at hj, m1] at hck
      have hjl : (jl z k).length = k := jl_len z k
      have hw32 : IntKind.i64.wrap (32 + (j : Int)) = 32 + (j : Int) := by rw [IntKind.wrap_i64]; omega
      have hov1 : ¬ (9223372036854775807 < S.size + 1 + (ms (R i)).size) := by omega
      have hRV : ((ms (R i)).toList == [86]) = (R i == [86]) := by rw [ms_toList]
      have ad : (⟨w.heap.size, 0, none⟩ : Addr).add i = ⟨w.heap.size, i, none⟩ := by unfold Addr.add; split <;> simp_all
      obtain ⟨nj, hnj⟩ : ∃ b, decide (j = 0) = b := ⟨_, rfl⟩
      have hj0 : ((32 + (j : Int)) != 32) = !nj := by
        rw [bne, ← hnj]; congr 1; rw [Bool.eq_iff_iff]; simp; omega
      have HR : Hid (resCells = #[.string ⟨#[86]⟩, .string ⟨#[73]⟩, .string ⟨#[76, 65, 59]⟩]) := rfl
      unfold resCells at d0
      clear m1 e1 e2 s1 b1 b2 hlt HC hS HR
      by_cases h8 : k ≤ 8
      · rw [meth_few (jl z k) i (by omega)] at hef hck
        simp only [effM, Option.isSome_some, if_true, List.length_map, hjl] at hef hck
        have h8' : decide ((8 : Int) < (k : Int)) = false := by simp; omega
        obtain ⟨bv, hbv⟩ : ∃ b, (R i == [86]) = b := ⟨_, rfl⟩
        rw [hbv] at hef hRV
        have hn1 : (if j = 0 then (0 : Int) else 1) = if nj then 0 else 1 := by rw [← hnj]; by_cases h : j = 0 <;> simp [h]
        rw [hn1] at hef
        obtain ⟨E, hE⟩ : ∃ E : Int, (if nj then (0 : Int) else 1) + (k : Int) = E := ⟨_, rfl⟩
        rw [hE] at hef
        have hwk : IntKind.i64.wrap ((k : Int) + 1) = (k : Int) + 1 := by rw [IntKind.wrap_i64]; omega
        generalize ms (R i) = r at *
        clear hjl hbv hn1 hnj
        cases nj <;> cases bv
        all_goals
          simp only [Bool.not_true, Bool.not_false, if_true, if_false, Bool.false_eq_true] at hef hj0 hE
          have hE1 : (E == (k : Int)) = true ∨ (E == (k : Int) + 1) = true := by simp; omega
        · have hE2 : (E == (k : Int) + 1) = true := by simp; omega
          clear hE hE1
          go_wp2_with (first
          | (go_at_call 16; (with_reducible refine (hr1 _).mono ?_); rintro e x1 ⟨rfl, hx⟩; have hx := hx.symm; subst hx; clear hx)
          | (go_at_call 16; (with_reducible refine (hr2 _).mono ?_); rintro e x1 ⟨rfl, hx⟩; have hx := hx.symm; subst hx; clear hx)
          | (go_at_call 17; (with_reducible refine (hef _).mono ?_); rintro e w4 ⟨rfl, hc4⟩; obtain ⟨q0, q1, q2, q3, q4, q5⟩ := insC_at (ins_kept1 hc4))
          | (go_at_call 15; (with_reducible refine (hck _).mono ?_); rintro e w5 ⟨rfl, hc5⟩)
          | (go_at_call 9; (with_reducible refine (awake_any _).mono ?_); rintro e w6 ⟨rfl, hc6⟩))
          go_ret
          exact ⟨rfl, ((((((Ch.refl w).alloc _).alloc _).trans hc4).trans hc5).trans hc6)⟩
        · have hE2 : (E == (k : Int) + 1) = true := by simp; omega
          clear hE hE1
          go_wp2_with (first
          | (go_at_call 16; (with_reducible refine (hr1 _).mono ?_); rintro e x1 ⟨rfl, hx⟩; have hx := hx.symm; subst hx; clear hx)
          | (go_at_call 16; (with_reducible refine (hr2 _).mono ?_); rintro e x1 ⟨rfl, hx⟩; have hx := hx.symm; subst hx; clear hx)
          | (go_at_call 17; (with_reducible refine (hef _).mono ?_); rintro e w4 ⟨rfl, hc4⟩; obtain ⟨q0, q1, q2, q3, q4, q5⟩ := insC_at (ins_kept1 hc4))
          | (go_at_call 15; (with_reducible refine (hck _).mono ?_); rintro e w5 ⟨rfl, hc5⟩)
          | (go_at_call 9; (with_reducible refine (awake_any _).mono ?_); rintro e w6 ⟨rfl, hc6⟩))
          go_ret
          exact ⟨rfl, ((((((Ch.refl w).alloc _).alloc _).trans hc4).trans hc5).trans hc6)⟩
        · have hE2 : (E == (k : Int)) = true := by simp; omega
          clear hE hE1
          go_wp2_with (first
          | (go_at_call 16; (with_reducible refine (hr1 _).mono ?_); rintro e x1 ⟨rfl, hx⟩; have hx := hx.symm; subst hx; clear hx)
          | (go_at_call 16; (with_reducible refine (hr2 _).mono ?_); rintro e x1 ⟨rfl, hx⟩; have hx := hx.symm; subst hx; clear hx)
          | (go_at_call 17; (with_reducible refine (hef _).mono ?_); rintro e w4 ⟨rfl, hc4⟩; obtain ⟨q0, q1, q2, q3, q4, q5⟩ := insC_at (ins_kept1 hc4))
          | (go_at_call 15; (with_reducible refine (hck _).mono ?_); rintro e w5 ⟨rfl, hc5⟩)
          | (go_at_call 9; (with_reducible refine (awake_any _).mono ?_); rintro e w6 ⟨rfl, hc6⟩))
          go_ret
          exact ⟨rfl, ((((((Ch.refl w).alloc _).alloc _).trans hc4).trans hc5).trans hc6)⟩
        · have hE2 : (E == (k : Int)) = true := by simp; omega
          clear hE hE1
          go_wp2_with (first
          | (go_at_call 16; (with_reducible refine (hr1 _).mono ?_); rintro e x1 ⟨rfl, hx⟩; have hx := hx.symm; subst hx; clear hx)
          | (go_at_call 16; (with_reducible refine (hr2 _).mono ?_); rintro e x1 ⟨rfl, hx⟩; have hx := hx.symm; subst hx; clear hx)
          | (go_at_call 17; (with_reducible refine (hef _).mono ?_); rintro e w4 ⟨rfl, hc4⟩; obtain ⟨q0, q1, q2, q3, q4, q5⟩ := insC_at (ins_kept1 hc4))
          | (go_at_call 15; (with_reducible refine (hck _).mono ?_); rintro e w5 ⟨rfl, hc5⟩)
          | (go_at_call 9; (with_reducible refine (awake_any _).mono ?_); rintro e w6 ⟨rfl, hc6⟩))
          go_ret
          exact ⟨rfl, ((((((Ch.refl w).alloc _).alloc _).trans hc4).trans hc5).trans hc6)⟩
      · rw [meth_many (jl z k) i (by omega)] at hef hck
        simp only [effM, Option.isSome_none, Bool.false_eq_true, if_false] at hef hck
        have h8' : decide ((8 : Int) < (k : Int)) = true := by simp; omega
        generalize ms (R i) = r at *
        clear hjl hnj hRV
        go_wp2_with (first
          | (go_at_call 16; (with_reducible refine (hr1 _).mono ?_); rintro e x1 ⟨rfl, hx⟩; have hx := hx.symm; subst hx; clear hx)
          | (go_at_call 16; (with_reducible refine (hr2 _).mono ?_); rintro e x1 ⟨rfl, hx⟩; have hx := hx.symm; subst hx; clear hx)
          | (go_at_call 17; (with_reducible refine (hef _).mono ?_); rintro e w4 ⟨rfl, hc4⟩; obtain ⟨q0, q1, q2, q3, q4, q5⟩ := insC_at (ins_kept1 hc4))
          | (go_at_call 15; (with_reducible refine (hck _).mono ?_); rintro e w5 ⟨rfl, hc5⟩)
          | (go_at_call 9; (with_reducible refine (awake_any _).mono ?_); rintro e w6 ⟨rfl, hc6⟩))
        go_ret
        exact ⟨rfl, ((((((Ch.refl w).alloc _).alloc _).trans hc4).trans hc5).trans hc6)⟩
end Go.Proofs.Ytedcnfoipjchnaa
