/- The contract of the document's reading of a key; a sum that is held. -/
import Derived.Test.YtjkphnpikciaeaaSplit
namespace Go.Proofs.Ytjkphnpikciaeaa
open Go.RowKit
set_option linter.unusedVariables false

theorem run_cut (W : World) (s : ByteArray) (a b : Nat) (x y : Int) (hx : x = a) (hy : y = b) (h1 : a ≤ b) (h2 : b ≤ s.size) :
    (Instr.slice 9 (.string s) (some (.int .i64 x)) (some (.int .i64 y)) none).run Try.prog W = .ok (.string (s.extract a b)) W := by
  subst hx; subst hy
  rw [run_slice_string (P := Try.prog) W 9 s .i64 .i64 a b Try.underlying9 (by omega) (by omega) (by omega)]
  simp

set_option maxHeartbeats 4000000 in
theorem refSplit_any (s : ByteArray) (w : World) (hs : s.size ≤ 900) :
    Calls Try.prog 32 #[.string s] w fun e w' => e = .returned (.tuple #[.string (ms (spA (bl s))), .string (ms (spB (bl s))), .string (ms (spD (bl s))), .int .i64 (spE (bl s))]) ∧ Ch w w' := by
  obtain ⟨F, hF⟩ : ∃ F, F = Ending.returned (.tuple #[.string (ms (spA (bl s))), .string (ms (spB (bl s))), .string (ms (spD (bl s))), .int .i64 (spE (bl s))]) := ⟨_, rfl⟩
  rw [← hF]
  have hno : keyedB (cutA (bl s)) (cutB (bl s)) (cutD (bl s)) = false → F = Ending.returned (.tuple #[.string ⟨#[]⟩, .string ⟨#[]⟩, .string ⟨#[]⟩, .int .i64 6]) := fun hk => by
    have sp := Sp.no hk
    rw [hF, sp.a, sp.b, sp.d, sp.e]
    rfl
  have hyes : keyedB (cutA (bl s)) (cutB (bl s)) (cutD (bl s)) = true → F = Ending.returned (.tuple #[.string (ms (cutA (bl s))), .string (ms (cutB (bl s))), .string (ms (cutD (bl s))), .int .i64 0]) := fun hk => by
    have sp := Sp.yes hk
    rw [hF, sp.a, sp.b, sp.d, sp.e]
  have HNO : Hid (keyedB (cutA (bl s)) (cutB (bl s)) (cutD (bl s)) = false → F = Ending.returned (.tuple #[.string ⟨#[]⟩, .string ⟨#[]⟩, .string ⟨#[]⟩, .int .i64 6])) := hno
  have HYES : Hid (keyedB (cutA (bl s)) (cutB (bl s)) (cutD (bl s)) = true → F = Ending.returned (.tuple #[.string (ms (cutA (bl s))), .string (ms (cutB (bl s))), .string (ms (cutD (bl s))), .int .i64 0])) := hyes
  clear hF hno hyes
  go_enter Try.func32, Try.ntmps32
  go_wp2
  go_loop [6, 7, 8] (fun a b i => ∃ k : Nat, k ≤ s.size ∧ a = .int .i64 (seen 46 (bl s) k) ∧ b = .int .i64 (seen 40 (bl s) k) ∧ i = .int .i64 k) (fun _ _ i => s.size - (intOf i).toNat)
  case atStart => exact ⟨0, by omega, rfl, rfl, rfl⟩
  case round =>
    obtain ⟨k, hk, rfl, rfl, rfl⟩ := hrel
    by_cases hlt : k < s.size
    · have hg := bl_get s k hlt
      have hend : ∀ A B x : Int, seen 46 (bl s) (k + 1) = A → seen 40 (bl s) (k + 1) = B → x = (k : Int) + 1 → (∃ k_1 : Nat, k_1 ≤ s.size ∧ Value.int IntKind.i64 A = Value.int IntKind.i64 (seen 46 (bl s) k_1) ∧ Value.int IntKind.i64 B = Value.int IntKind.i64 (seen 40 (bl s) k_1) ∧ Value.int IntKind.i64 x = Value.int IntKind.i64 k_1) ∧ s.size - (intOf (Value.int IntKind.i64 x)).toNat < s.size - (intOf (Value.int IntKind.i64 k)).toNat :=
        fun A B x hA hB hx => ⟨⟨k + 1, by omega, by rw [hA], by rw [hB], by rw [hx]; rfl⟩, by rw [hx]; simp [intOf]; omega⟩
      have HE : Hid (∀ A B x : Int, seen 46 (bl s) (k + 1) = A → seen 40 (bl s) (k + 1) = B → x = (k : Int) + 1 → (∃ k_1 : Nat, k_1 ≤ s.size ∧ Value.int IntKind.i64 A = Value.int IntKind.i64 (seen 46 (bl s) k_1) ∧ Value.int IntKind.i64 B = Value.int IntKind.i64 (seen 40 (bl s) k_1) ∧ Value.int IntKind.i64 x = Value.int IntKind.i64 k_1) ∧ s.size - (intOf (Value.int IntKind.i64 x)).toNat < s.size - (intOf (Value.int IntKind.i64 k)).toNat) := hend
      clear hend
      by_cases c46 : ((s[k].toNat : Int) == 46) = true
      · have e46 := byte_eq (n := 46) c46
        have n40 : ((s[k].toNat : Int) == 40) = false := by rw [e46]; rfl
        have h40 := seen_not hg (byte_ne (n := 40) n40)
        have H40 : Hid (seen 40 (bl s) (k + 1) = seen 40 (bl s) k) := h40
        rw [e46] at hg
        by_cases ha : seen 46 (bl s) k < 0
        · have H46 : Hid (seen 46 (bl s) (k + 1) = k) := seen_new hg ha
          clear h40 hg e46
          go_wp2
          exact HE.out _ _ _ H46.out H40.out rfl
        · have H46 : Hid (seen 46 (bl s) (k + 1) = seen 46 (bl s) k) := seen_old ha
          have ha' : decide (seen 46 (bl s) k < 0) = false := by simp; omega
          clear h40 hg e46
          go_wp2
          exact HE.out _ _ _ H46.out H40.out rfl
      · have n46 : ((s[k].toNat : Int) == 46) = false := by simpa using c46
        have H46 : Hid (seen 46 (bl s) (k + 1) = seen 46 (bl s) k) := seen_not hg (byte_ne (n := 46) n46)
        clear c46
        by_cases c40 : ((s[k].toNat : Int) == 40) = true
        · have e40 := byte_eq (n := 40) c40
          rw [e40] at hg
          by_cases ha : seen 40 (bl s) k < 0
          · have H40 : Hid (seen 40 (bl s) (k + 1) = k) := seen_new hg ha
            clear hg e40
            go_wp2
            exact HE.out _ _ _ H46.out H40.out rfl
          · have H40 : Hid (seen 40 (bl s) (k + 1) = seen 40 (bl s) k) := seen_old ha
            have ha' : decide (seen 40 (bl s) k < 0) = false := by simp; omega
            clear hg e40
            go_wp2
            exact HE.out _ _ _ H46.out H40.out rfl
        · have n40 : ((s[k].toNat : Int) == 40) = false := by simpa using c40
          have H40 : Hid (seen 40 (bl s) (k + 1) = seen 40 (bl s) k) := seen_not hg (byte_ne (n := 40) n40)
          clear hg c40
          go_wp2
          exact HE.out _ _ _ H46.out H40.out rfl
    · obtain rfl : k = s.size := by omega
      clear hlt hk
      by_cases hp : ix 46 (bl s) < s.size
      · obtain ⟨A, hA⟩ : ∃ A : Nat, ix 46 (bl s) = A := ⟨_, rfl⟩
        have sA : seen 46 (bl s) s.size = (A : Int) := by unfold seen; rw [if_pos hp, hA]
        have t1 : decide ((A : Int) < 0) = false := by simp
        by_cases ho : ix 40 (bl s) < s.size
        · obtain ⟨B, hB⟩ : ∃ B : Nat, ix 40 (bl s) = B := ⟨_, rfl⟩
          have sB : seen 40 (bl s) s.size = (B : Int) := by unfold seen; rw [if_pos ho, hB]
          by_cases hlt : B < A
          · have hkn := HNO.out (open_first (l := bl s) (by rw [hA, hB]; exact hlt) (by rw [bl_len]; exact hp))
            have HK : Hid (F = Ending.returned (.tuple #[.string ⟨#[]⟩, .string ⟨#[]⟩, .string ⟨#[]⟩, .int .i64 6])) := hkn
            rw [sA, sB]
            have t2 : decide ((B : Int) < (A : Int)) = true := by simp; omega
            clear HNO HYES hkn hA hB sA sB hp ho
            go_wp2_with fail
            go_quiet (fail)
            go_wp2
            (try simp only [Exit.inBlock, Exit.then])
            refine bodyPost_ret (results_four rfl _ _ _) rfl ?_
            exact ⟨HK.out.symm, (Ch.refl w).drewN _⟩
          · have hne : A ≠ B := fun e => by
              have g1 := ix_get 46 (bl s) (by rw [bl_len]; exact hp)
              have g2 := ix_get 40 (bl s) (by rw [bl_len]; exact ho)
              rw [hA, e, ← hB, g2] at g1
              revert g1
              decide
            obtain ⟨d1, d2, d3⟩ := cut_three (l := bl s) (by rw [hA, hB]; omega) (by rw [bl_len]; exact ho)
            have dA : cutA (bl s) = (bl s).take A := by unfold cutA; rw [hA]
            rw [hA, hB] at d1
            rw [hB] at d2
            have x1 : s.extract 0 A = ms (cutA (bl s)) := eq_ms (by rw [bl_to, dA])
            have x2 : s.extract (A + 1) B = ms (cutB (bl s)) := eq_ms (by rw [bl_extract, d1])
            have x3 : s.extract B s.size = ms (cutD (bl s)) := eq_ms (by rw [bl_from, d2])
            have z1 : (s.extract 0 A).size ≤ 1000 := by rw [← bl_len, bl_to, List.length_take, bl_len]; omega
            have z2 : (s.extract (A + 1) B).size ≤ 1000 := by rw [← bl_len, bl_extract, List.length_take, List.length_drop, bl_len]; omega
            have z3 : (s.extract B s.size).size ≤ 1000 := by rw [← bl_len, bl_from, List.length_drop, bl_len]; omega
            obtain ⟨kb, hkb⟩ : ∃ kb, keyedB (cutA (bl s)) (cutB (bl s)) (cutD (bl s)) = kb := ⟨_, rfl⟩
            have hkey := fun w0 => refKey_any (s.extract 0 A) (s.extract (A + 1) B) (s.extract B s.size) w0 z1 z2 z3
            have hK0 : keyL (bl (s.extract 0 A)) (bl (s.extract (A + 1) B)) (bl (s.extract B s.size)) = if kb then bl s else [] := by
              rw [x1, x2, x3, bl_ms, bl_ms, bl_ms]
              unfold keyL
              rw [hkb, d3]
            rw [hK0] at hkey
            rw [sA, sB]
            have c1 : (A : Int) ≤ s.size := by omega
            have c2 : (0 : Int) ≤ (A : Int) + 1 := by omega
            have c3 : (A : Int) + 1 ≤ B := by omega
            have c4 : (B : Int) ≤ s.size := by omega
            have ht : ((A : Int) + 1).toNat = A + 1 := by omega
            have t2 : decide ((B : Int) < (A : Int)) = false := by simp; omega
            have hs0 : 0 < s.size := by omega
            have hsl : ∀ W, (Instr.slice 9 (.string s) (some (.int .i64 ((A : Int) + 1))) (some (.int .i64 (B : Int))) none).run Try.prog W = .ok (.string (s.extract (A + 1) B)) W := fun W => run_cut W s (A + 1) B _ _ rfl rfl (by omega) (by omega)
            have q0 : IntKind.i64.wrap ((A : Int) + 1) = (A : Int) + 1 := by rw [IntKind.wrap_i64]; omega
            have c5 : A < B := by omega
            have c6 : (A : Int) < B := by omega
            cases kb
            · rw [if_neg (by simp)] at hkey
              have hkn := HNO.out hkb
              have HK : Hid (F = Ending.returned (.tuple #[.string ⟨#[]⟩, .string ⟨#[]⟩, .string ⟨#[]⟩, .int .i64 6])) := hkn
              have hq : ((ms []).toList == s.toList) = false := by
                rw [bl_toList, bl_ms, bl_toList]
                cases hb : bl s with
                | nil => have := bl_len s; rw [hb] at this; simp at this; omega
                | cons x r => rfl
              clear HNO HYES hkn hA hB sA sB hp ho hK0 hkb x1 x2 x3 d1 d2 d3 dA z1 z2 z3 hne hs0
              go_wp2_with fail
              go_region_held (fun _ => True) (trivial) (first | (go_at_call 33; refine (hkey _).mono ?_; rintro e w5 ⟨rfl, hc5⟩))
              go_wp2
              (try simp only [Exit.inBlock, Exit.then])
              refine bodyPost_ret (results_four rfl _ _ _) rfl ?_
              exact ⟨HK.out.symm, ((Ch.refl w).drewN 1).trans hc5⟩
            · rw [if_pos rfl, ms_bl] at hkey
              have hkn := HYES.out hkb
              rw [← x1, ← x2, ← x3] at hkn
              have HK : Hid (F = Ending.returned (.tuple #[.string (s.extract 0 A), .string (s.extract (A + 1) B), .string (s.extract B s.size), .int .i64 0])) := hkn
              clear HNO HYES hkn hA hB sA sB hp ho hK0 hkb x1 x2 x3 d1 d2 d3 dA z1 z2 z3 hne hs0
              go_wp2_with fail
              go_region_held (fun _ => True) (trivial) (first | (go_at_call 33; refine (hkey _).mono ?_; rintro e w5 ⟨rfl, hc5⟩))
              go_wp2_with fail
              go_quiet (fail)
              go_wp2
              (try simp only [Exit.inBlock, Exit.then])
              refine bodyPost_ret (results_four rfl _ _ _) rfl ?_
              exact ⟨HK.out.symm, (((Ch.refl w).drewN 1).trans hc5).drewN _⟩
        · have sB : seen 40 (bl s) s.size = -1 := by unfold seen; rw [if_neg ho]
          have hkn := HNO.out (no_open (l := bl s) (by rw [bl_len]; exact ho) (by rw [bl_len]; exact hp))
          have HK : Hid (F = Ending.returned (.tuple #[.string ⟨#[]⟩, .string ⟨#[]⟩, .string ⟨#[]⟩, .int .i64 6])) := hkn
          rw [sA, sB]
          have t2 : decide ((-1 : Int) < (A : Int)) = true := by simp; omega
          clear HNO HYES hkn hA sA sB hp ho
          go_wp2_with fail
          go_quiet (fail)
          go_wp2
          (try simp only [Exit.inBlock, Exit.then])
          refine bodyPost_ret (results_four rfl _ _ _) rfl ?_
          exact ⟨HK.out.symm, (Ch.refl w).drewN _⟩
      · have sA : seen 46 (bl s) s.size = -1 := by unfold seen; rw [if_neg hp]
        have hkn := HNO.out (no_point (l := bl s) (by rw [bl_len]; exact hp))
        have HK : Hid (F = Ending.returned (.tuple #[.string ⟨#[]⟩, .string ⟨#[]⟩, .string ⟨#[]⟩, .int .i64 6])) := hkn
        rw [sA]
        clear HNO HYES hkn sA hp
        go_wp2_with fail
        go_quiet (fail)
        go_wp2
        (try simp only [Exit.inBlock, Exit.then])
        refine bodyPost_ret (results_four rfl _ _ _) rfl ?_
        exact ⟨HK.out.symm, (Ch.refl w).drewN _⟩

set_option maxHeartbeats 2000000 in
theorem sum_any (n x y z : Nat) (B : Nat) (w : World) (c0 : w.cell? ⟨B, 0, none⟩ = some (.int .i64 (x : Int))) (c1 : w.cell? ⟨B, 1, none⟩ = some (.int .i64 (y : Int))) (c2 : w.cell? ⟨B, 2, none⟩ = some (.int .i64 (z : Int))) :
    Calls Try.prog 29 #[.int .i64 (n : Int), .slice (some ⟨B, 0, none⟩) 3 3] w fun e w' => (∃ m : Int, e = .returned (.int .i64 m) ∧ (m ≤ 300 → m = n + x + y + z)) ∧ w' = w := by
  go_enter Try.func29, Try.ntmps29
  go_wp2
  refine wp_loop_rounds 4 ?_
  by_cases hn : (1099511627776 : Int) < n
  · have t0 : decide ((1099511627776 : Int) < (n : Int)) = true := by simp; omega
    rw [rounds_succ]
    go_wp2
    go_ret
    exact ⟨⟨_, rfl, by omega⟩, rfl⟩
  · have t0 : decide ((1099511627776 : Int) < (n : Int)) = false := by simp; omega
    by_cases hA : 1099511627776 - (n : Int) < x
    · rw [rounds_succ]
      go_wp2
      go_ret
      exact ⟨⟨_, rfl, by omega⟩, rfl⟩
    · have t1 : decide (1099511627776 - (n : Int) < x) = false := by simp; omega
      have t2 : decide (1099511627776 < (n : Int) + x) = false := by simp; omega
      rw [rounds_succ]
      go_wp2
      rw [rounds_succ]
      by_cases hB : 1099511627776 - ((n : Int) + x) < y
      · go_wp2
        go_ret
        exact ⟨⟨_, rfl, by omega⟩, rfl⟩
      · have t3 : decide (1099511627776 - ((n : Int) + x) < y) = false := by simp; omega
        have t4 : decide (1099511627776 < (n : Int) + x + y) = false := by simp; omega
        go_wp2
        rw [rounds_succ]
        by_cases hC : 1099511627776 - ((n : Int) + x + y) < z
        · go_wp2
          go_ret
          exact ⟨⟨_, rfl, by omega⟩, rfl⟩
        · have t5 : decide (1099511627776 - ((n : Int) + x + y) < z) = false := by simp; omega
          go_wp2
          rw [rounds_succ]
          go_wp2
          go_ret
          exact ⟨⟨_, rfl, by omega⟩, rfl⟩
end Go.Proofs.Ytjkphnpikciaeaa
