/- The walk of the law NumberReals. -/
import Derived.Test.YtkmjfkfpjliecaaRealA
namespace Go.Proofs.Ytkmjfkfpjliecaa
open Go.RowKit
set_option linter.unusedVariables false

theorem eight (p : Int) : (p.tmod 8).natAbs ≤ 7 := by
  rw [Int.natAbs_tmod]
  have := Nat.mod_lt p.natAbs (show 0 < 8 by decide)
  change p.natAbs % 8 ≤ 7
  omega

set_option maxHeartbeats 4000000 in
theorem reals_walk (n p : Int) (b : Nat) (w : World) : Calls Try.prog 6 #[.int .i64 n, .int .i64 p, .float .f64 b] w fun e w' => e = .returned (.bool true) ∧ w' = w := by
  have h8 := eight p
  have hm64 : IntKind.i64.wrap (p.tmod 8) = p.tmod 8 := in64 (by omega) (by omega)
  have hcall := fun w => refWrap_any n w
  have lo := W_lo n
  have hi := W_hi n
  generalize W n = x at hcall lo hi
  have hx1 : IntKind.i64.wrap (x + 1) = x + 1 := in64 (by omega) (by omega)
  by_cases hneg : p.tmod 8 < 0
  · obtain ⟨g, s, o, r1, r2, r3, hgt, c1, c2⟩ := parts x (-p.tmod 8) lo hi (by omega) (by omega)
    have t1 : decide (p.tmod 8 < 0) = true := decide_eq_true hneg
    have hmn : IntKind.i64.wrap (-p.tmod 8) = -p.tmod 8 := in64 (by omega) (by omega)
    have t2 : (FloatKind.f64.format.order g 0 == some .gt) = true := by rw [hgt]; exact decide_eq_true (by omega)
    by_cases hx : x < 0
    · have t3 : decide (x < 0) = true := decide_eq_true hx
      have e := tdiv8_neg x (-p.tmod 8) hx (by omega) (by omega)
      rw [e] at c1
      clear hgt hneg hx e h8 lo hi
      go_enter Try.func6, Try.ntmps6
      go_wp2_with (first
        | (go_at_call 7; refine (hcall _).mono ?_; rintro e w' ⟨rfl, hw⟩; have hw := hw.symm; subst hw)
        | (go_at_call 18; (with_reducible refine (c1 _ _).mono ?_); rintro e w' ⟨rfl, hw⟩; have hw := hw.symm; subst hw)
        | (go_at_call 18; refine (c2 _ _).mono ?_; rintro e w' ⟨rfl, hw⟩; have hw := hw.symm; subst hw)
        | (go_at_call 14; refine (awake_any _).mono ?_; rintro e w' ⟨rfl, hw⟩; have hw := hw.symm; subst hw))
      go_ret
      exact ⟨rfl, rfl⟩
    · have t3 : decide (x < 0) = false := decide_eq_false hx
      have e := tdiv8_pos x (-p.tmod 8) (by omega) (by omega) (by omega)
      rw [e] at c1
      clear hgt hneg hx e h8 lo hi
      go_enter Try.func6, Try.ntmps6
      go_wp2_with (first
        | (go_at_call 7; refine (hcall _).mono ?_; rintro e w' ⟨rfl, hw⟩; have hw := hw.symm; subst hw)
        | (go_at_call 18; (with_reducible refine (c1 _ _).mono ?_); rintro e w' ⟨rfl, hw⟩; have hw := hw.symm; subst hw)
        | (go_at_call 18; refine (c2 _ _).mono ?_; rintro e w' ⟨rfl, hw⟩; have hw := hw.symm; subst hw)
        | (go_at_call 14; refine (awake_any _).mono ?_; rintro e w' ⟨rfl, hw⟩; have hw := hw.symm; subst hw))
      go_ret
      exact ⟨rfl, rfl⟩
  · obtain ⟨g, s, o, r1, r2, r3, hgt, c1, c2⟩ := parts x (p.tmod 8) lo hi (by omega) (by omega)
    have t1 : decide (p.tmod 8 < 0) = false := decide_eq_false hneg
    by_cases hx : x < 0
    · have t3 : decide (x < 0) = true := decide_eq_true hx
      by_cases hk : 0 < p.tmod 8
      · have t2 : (FloatKind.f64.format.order g 0 == some .gt) = true := by rw [hgt]; exact decide_eq_true hk
        have e := tdiv8_neg x (p.tmod 8) hx (by omega) (by omega)
        rw [e] at c1
        clear hgt hneg hx e h8 lo hi hk
        go_enter Try.func6, Try.ntmps6
        go_wp2_with (first
          | (go_at_call 7; refine (hcall _).mono ?_; rintro e w' ⟨rfl, hw⟩; have hw := hw.symm; subst hw)
          | (go_at_call 18; (with_reducible refine (c1 _ _).mono ?_); rintro e w' ⟨rfl, hw⟩; have hw := hw.symm; subst hw)
          | (go_at_call 18; refine (c2 _ _).mono ?_; rintro e w' ⟨rfl, hw⟩; have hw := hw.symm; subst hw)
          | (go_at_call 14; refine (awake_any _).mono ?_; rintro e w' ⟨rfl, hw⟩; have hw := hw.symm; subst hw))
        go_ret
        exact ⟨rfl, rfl⟩
      · have t2 : (FloatKind.f64.format.order g 0 == some .gt) = false := by rw [hgt]; exact decide_eq_false hk
        have e : (x * 8 + p.tmod 8).tdiv 8 = x := by rw [show p.tmod 8 = 0 by omega]; exact tdiv8_zero x
        rw [e] at c1
        clear hgt hneg hx e h8 lo hi hk
        go_enter Try.func6, Try.ntmps6
        go_wp2_with (first
          | (go_at_call 7; refine (hcall _).mono ?_; rintro e w' ⟨rfl, hw⟩; have hw := hw.symm; subst hw)
          | (go_at_call 18; (with_reducible refine (c1 _ _).mono ?_); rintro e w' ⟨rfl, hw⟩; have hw := hw.symm; subst hw)
          | (go_at_call 18; refine (c2 _ _).mono ?_; rintro e w' ⟨rfl, hw⟩; have hw := hw.symm; subst hw)
          | (go_at_call 14; refine (awake_any _).mono ?_; rintro e w' ⟨rfl, hw⟩; have hw := hw.symm; subst hw))
        go_ret
        exact ⟨rfl, rfl⟩
    · have t3 : decide (x < 0) = false := decide_eq_false hx
      have e := tdiv8_pos x (p.tmod 8) (by omega) (by omega) (by omega)
      rw [e] at c1
      clear hgt hneg hx e h8 lo hi
      go_enter Try.func6, Try.ntmps6
      go_wp2_with (first
        | (go_at_call 7; refine (hcall _).mono ?_; rintro e w' ⟨rfl, hw⟩; have hw := hw.symm; subst hw)
        | (go_at_call 18; (with_reducible refine (c1 _ _).mono ?_); rintro e w' ⟨rfl, hw⟩; have hw := hw.symm; subst hw)
        | (go_at_call 18; refine (c2 _ _).mono ?_; rintro e w' ⟨rfl, hw⟩; have hw := hw.symm; subst hw)
        | (go_at_call 14; refine (awake_any _).mono ?_; rintro e w' ⟨rfl, hw⟩; have hw := hw.symm; subst hw))
      go_ret
      exact ⟨rfl, rfl⟩
end Go.Proofs.Ytkmjfkfpjliecaa
