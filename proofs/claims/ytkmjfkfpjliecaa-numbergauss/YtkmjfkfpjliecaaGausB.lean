/- The walk of the law NumberGauss. -/
import Derived.Test.YtkmjfkfpjliecaaGausA
namespace Go.Proofs.Ytkmjfkfpjliecaa
open Go.RowKit
set_option linter.unusedVariables false

theorem thousand (p : Int) : (p.tmod 1000).natAbs ≤ 999 := by
  rw [Int.natAbs_tmod]
  have := Nat.mod_lt p.natAbs (show 0 < 1000 by decide)
  change p.natAbs % 1000 ≤ 999
  omega

set_option maxHeartbeats 4000000 in
theorem gauss_walk (a b c d t : Int) (w : World) : Calls Try.prog 5 #[.int .i64 a, .int .i64 b, .int .i64 c, .int .i64 d, .int .i64 t] w fun e w' => e = .returned (.bool true) ∧ w' = w := by
  have lA := thousand a
  have lB := thousand b
  have lC := thousand c
  have lD := thousand d
  generalize gA : a.tmod 1000 = A at lA
  generalize gB : b.tmod 1000 = B at lB
  generalize gC : c.tmod 1000 = C at lC
  generalize gD : d.tmod 1000 = D at lD
  obtain ⟨xa, xb, yc, yd, re, im, p1, p2, sr, si, q1, q2, fa, fb, hx, hy, hm, hp, e1, e2, hs, hq, e3, e4, hr⟩ := gauss_pre A B C D lA lB lC lD
  have l1 := small lA lC
  have l2 := small lB lD
  have l3 := small lA lD
  have l4 := small lB lC
  have m1 : IntKind.i64.wrap (A * C) = A * C := in64 (by omega) (by omega)
  have m2 : IntKind.i64.wrap (B * D) = B * D := in64 (by omega) (by omega)
  have m3 : IntKind.i64.wrap (A * D) = A * D := in64 (by omega) (by omega)
  have m4 : IntKind.i64.wrap (B * C) = B * C := in64 (by omega) (by omega)
  have m5 : IntKind.i64.wrap (A * C - B * D) = A * C - B * D := in64 (by omega) (by omega)
  have m6 : IntKind.i64.wrap (A * D + B * C) = A * D + B * C := in64 (by omega) (by omega)
  have m7 : IntKind.i64.wrap (A + C) = A + C := in64 (by omega) (by omega)
  have m8 : IntKind.i64.wrap (B + D) = B + D := in64 (by omega) (by omega)
  clear l1 l2 l3 l4 lC lD
  by_cases h1 : t < 0
  · have t1 : decide (t < 0) = true := decide_eq_true h1
    clear h1 lA lB fa fb
    go_enter Try.func5, Try.ntmps5
    go_wp2_with (first
      | (go_at_call 15; (with_reducible refine (hx _).mono ?_); rintro e w' ⟨rfl, hw⟩; have hw := hw.symm; subst hw)
      | (go_at_call 15; (with_reducible refine (hy _).mono ?_); rintro e w' ⟨rfl, hw⟩; have hw := hw.symm; subst hw)
      | (go_at_call 15; (with_reducible refine (hp _).mono ?_); rintro e w' ⟨rfl, hw⟩; have hw := hw.symm; subst hw)
      | (go_at_call 15; (with_reducible refine (hq _).mono ?_); rintro e w' ⟨rfl, hw⟩; have hw := hw.symm; subst hw)
      | (go_at_call 16; (with_reducible refine (hm _).mono ?_); rintro e w' ⟨rfl, hw⟩; have hw := hw.symm; subst hw)
      | (go_at_call 17; (with_reducible refine (hs _).mono ?_); rintro e w' ⟨rfl, hw⟩; have hw := hw.symm; subst hw)
      | (go_at_call 18; (with_reducible refine (hr _).mono ?_); rintro e w' ⟨rfl, hw⟩; have hw := hw.symm; subst hw)
      | (go_at_call 14; refine (awake_any _).mono ?_; rintro e w' ⟨rfl, hw⟩; have hw := hw.symm; subst hw))
    go_ret
    exact ⟨rfl, rfl⟩
  · have t1 : decide (t < 0) = false := decide_eq_false h1
    by_cases h2 : 100 < t
    · have t2 : decide (100 < t) = true := decide_eq_true h2
      clear h1 h2 lA lB fa fb
      go_enter Try.func5, Try.ntmps5
      go_wp2_with (first
        | (go_at_call 15; (with_reducible refine (hx _).mono ?_); rintro e w' ⟨rfl, hw⟩; have hw := hw.symm; subst hw)
        | (go_at_call 15; (with_reducible refine (hy _).mono ?_); rintro e w' ⟨rfl, hw⟩; have hw := hw.symm; subst hw)
        | (go_at_call 15; (with_reducible refine (hp _).mono ?_); rintro e w' ⟨rfl, hw⟩; have hw := hw.symm; subst hw)
        | (go_at_call 15; (with_reducible refine (hq _).mono ?_); rintro e w' ⟨rfl, hw⟩; have hw := hw.symm; subst hw)
        | (go_at_call 16; (with_reducible refine (hm _).mono ?_); rintro e w' ⟨rfl, hw⟩; have hw := hw.symm; subst hw)
        | (go_at_call 17; (with_reducible refine (hs _).mono ?_); rintro e w' ⟨rfl, hw⟩; have hw := hw.symm; subst hw)
        | (go_at_call 18; (with_reducible refine (hr _).mono ?_); rintro e w' ⟨rfl, hw⟩; have hw := hw.symm; subst hw)
        | (go_at_call 14; refine (awake_any _).mono ?_; rintro e w' ⟨rfl, hw⟩; have hw := hw.symm; subst hw))
      go_ret
      exact ⟨rfl, rfl⟩
    · have t2 : decide (100 < t) = false := decide_eq_false h2
      have m9 : IntKind.i64.wrap (4 * t) = 4 * t := in64 (by omega) (by omega)
      obtain ⟨f0, f1, g0, g1, hi⟩ := complex_as 0 1 (by decide) (by decide)
      have HT : Hid (0 ≤ t ∧ t ≤ 100) := ⟨by omega, by omega⟩
      clear h1 h2
      go_enter Try.func5, Try.ntmps5
      go_wp2_with (first
        | (go_at_call 15; (with_reducible refine (hx _).mono ?_); rintro e w' ⟨rfl, hw⟩; have hw := hw.symm; subst hw)
        | (go_at_call 15; (with_reducible refine (hy _).mono ?_); rintro e w' ⟨rfl, hw⟩; have hw := hw.symm; subst hw)
        | (go_at_call 15; (with_reducible refine (hp _).mono ?_); rintro e w' ⟨rfl, hw⟩; have hw := hw.symm; subst hw)
        | (go_at_call 15; (with_reducible refine (hq _).mono ?_); rintro e w' ⟨rfl, hw⟩; have hw := hw.symm; subst hw)
        | (go_at_call 16; (with_reducible refine (hm _).mono ?_); rintro e w' ⟨rfl, hw⟩; have hw := hw.symm; subst hw)
        | (go_at_call 17; (with_reducible refine (hs _).mono ?_); rintro e w' ⟨rfl, hw⟩; have hw := hw.symm; subst hw)
        | (go_at_call 18; (with_reducible refine (hr _).mono ?_); rintro e w' ⟨rfl, hw⟩; have hw := hw.symm; subst hw)
        | (go_at_call 14; refine (awake_any _).mono ?_; rintro e w' ⟨rfl, hw⟩; have hw := hw.symm; subst hw))
      go_loop [13, 14] (fun z i => ∃ k : Nat, k ≤ 400 ∧ (k : Int) ≤ 4 * t ∧ i = .int .i64 k ∧ Turned A B k z) (fun _ i => (4 * t - intOf i).toNat)
      case atStart => exact ⟨0, by omega, by have := HT.out; omega, rfl, xa, xb, rfl, fa, fb⟩
      case round =>
        obtain ⟨k, hk4, hk, rfl, zr, zi, rfl, fr, fi⟩ := hrel
        by_cases hlt : (k : Int) < 4 * t
        · have t3 : decide ((k : Int) < 4 * t) = true := decide_eq_true hlt
          obtain ⟨nr1, ni1, hturn, hmul⟩ := turn_one lA lB fr fi g0 g1
          have HK : Hid ((k : Int) < 4 * t) := hlt
          have hk1 : k + 1 ≤ 400 := by have := HT.out; omega
          clear hlt
          go_wp2_with (first
            | (go_at_call 15; (with_reducible refine (hi _).mono ?_); rintro e w' ⟨rfl, hw⟩; have hw := hw.symm; subst hw)
            | (go_at_call 16; (with_reducible refine (hmul _).mono ?_); rintro e w' ⟨rfl, hw⟩; have hw := hw.symm; subst hw))
          have hh := HK.out
          exact ⟨⟨k + 1, hk1, by omega, by go_num, hturn⟩, by simp [intOf]; omega⟩
        · have t3 : decide ((k : Int) < 4 * t) = false := decide_eq_false hlt
          have hk' : k = 4 * t.toNat := by have := HT.out; omega
          have ht : tn A B k = (A, B) := by rw [hk']; exact tn_all A B _
          rw [ht] at fr fi
          have e5 := eq_fv fr fa rfl
          have e6 := eq_fv fi fb rfl
          clear ht hk' hlt
          go_wp2_with (go_at_call 14; refine (awake_any _).mono ?_; rintro e w' ⟨rfl, hw⟩; have hw := hw.symm; subst hw)
          go_ret
          exact ⟨rfl, rfl⟩
end Go.Proofs.Ytkmjfkfpjliecaa
