/- The contracts of the program's and the document's reading of a key. -/
import Derived.Test.YtjkphnpikciaeaaKeyF
import Derived.Deep.RegionHeld
namespace Go.Proofs.Ytjkphnpikciaeaa
open Go.RowKit
set_option linter.unusedVariables false

theorem bl_open (s : ByteArray) : bl (⟨#[40]⟩ ++ s) = 40 :: bl s := by rw [bl_append]; rfl
set_option maxHeartbeats 2000000 in
theorem split_any (s : ByteArray) (w : World) (hs : s.size ≤ 900) :
    Calls Try.prog 31 #[.string s] w fun e w' => e = .returned (.tuple #[.string (ms (spA (bl s))), .string (ms (spB (bl s))), .string (ms (spD (bl s))), .int .i64 (spE (bl s))]) ∧ Ch w w' := by
  have h1 := cut_any s 46 w (by omega)
  have hA : ms ((bl s).take (ix 46 (bl s))) = ms (cutA (bl s)) := rfl
  have hR : ms ((bl s).drop (ix 46 (bl s) + 1)) = ms (cutR (bl s)) := rfl
  rw [hA, hR] at h1
  have lA : (cutA (bl s)).length ≤ s.size := by unfold cutA; rw [List.length_take, bl_len]; omega
  have lR : (cutR (bl s)).length ≤ s.size := by unfold cutR; rw [List.length_drop, bl_len]; omega
  have lB : (cutB (bl s)).length ≤ s.size := by unfold cutB; rw [List.length_take]; omega
  have lD : (cutD (bl s)).length ≤ s.size + 1 := by unfold cutD; rw [List.length_cons, List.length_drop]; omega
  have h2 := fun w0 => cut_any (ms (cutR (bl s))) 40 w0 (by rw [ms_size]; omega)
  have hB : ∀ x, ms ((bl (ms (cutR x))).take (ix 40 (bl (ms (cutR x))))) = ms (cutB x) := fun x => rfl
  rw [hB] at h2
  obtain ⟨r2, hr2⟩ : ∃ r2, ms ((bl (ms (cutR (bl s)))).drop (ix 40 (bl (ms (cutR (bl s)))) + 1)) = r2 := ⟨_, rfl⟩
  have hD : ⟨#[40]⟩ ++ r2 = ms (cutD (bl s)) := by
    refine eq_ms ?_
    rw [bl_open, ← hr2]
    rfl
  rw [hr2] at h2
  have hr2s : r2.size ≤ 1000 := by
    have h := bl_len (⟨#[40]⟩ ++ r2)
    rw [bl_open, List.length_cons, bl_len] at h
    have h' := congrArg ByteArray.size hD
    rw [ms_size] at h'
    omega
  obtain ⟨k, hk⟩ : ∃ k, keyedB (cutA (bl s)) (cutB (bl s)) (cutD (bl s)) = k := ⟨_, rfl⟩
  have hkd : ∀ w0, Calls Try.prog 42 #[.string (ms (cutA (bl s))), .string (ms (cutB (bl s))), .string (ms (cutD (bl s)))] w0 fun e w' => e = .returned (.bool k) ∧ Ch w0 w' := fun w0 => by
    have h := keyed_any (ms (cutA (bl s))) (ms (cutB (bl s))) (ms (cutD (bl s))) w0 (by rw [ms_size]; omega) (by rw [ms_size]; omega) (by rw [ms_size]; omega)
    rw [bl_ms, bl_ms, bl_ms, hk] at h
    exact h
  have hcA := fun w0 => clone_any (ms (cutA (bl s))) w0 (by rw [ms_size]; omega)
  have hcB := fun w0 => clone_any (ms (cutB (bl s))) w0 (by rw [ms_size]; omega)
  clear hr2 hB hA hR
  cases k
  · have sp := Sp.no hk
    rw [sp.a, sp.b, sp.d, sp.e]
    clear sp hk hcA hcB
    generalize cutD (bl s) = xD at *
    generalize cutA (bl s) = xA at *
    generalize cutB (bl s) = xB at *
    generalize cutR (bl s) = xR at *
    generalize (decide (ix 46 (bl s) < s.size)) = z1 at *
    generalize (decide (ix 40 (bl (ms xR)) < (ms xR).size)) = z2 at *
    go_enter Try.func31, Try.ntmps31
    go_wp2_with fail
    refine h1.mono ?_
    rintro e w2 ⟨rfl, n2, rfl⟩
    go_wp2_with fail
    refine (h2 _).mono ?_
    rintro e w3 ⟨rfl, n3, rfl⟩
    go_wp2_with (first | (go_at_call 42; refine (hkd _).mono ?_; rintro e w4 ⟨rfl, hc4⟩))
    (try simp only [Exit.inBlock, Exit.then])
    refine bodyPost_ret (results_four rfl _ _ _) rfl ?_
    exact ⟨rfl, ((Ch.refl w).drewN (n2 + n3)).trans hc4⟩
  · have sp := Sp.yes hk
    rw [sp.a, sp.b, sp.d, sp.e]
    clear sp hk
    generalize cutD (bl s) = xD at *
    generalize cutA (bl s) = xA at *
    generalize cutB (bl s) = xB at *
    generalize cutR (bl s) = xR at *
    generalize (decide (ix 46 (bl s) < s.size)) = z1 at *
    generalize (decide (ix 40 (bl (ms xR)) < (ms xR).size)) = z2 at *
    go_enter Try.func31, Try.ntmps31
    go_wp2_with fail
    refine h1.mono ?_
    rintro e w2 ⟨rfl, n2, rfl⟩
    go_wp2_with fail
    refine (h2 _).mono ?_
    rintro e w3 ⟨rfl, n3, rfl⟩
    go_wp2_with (first | (go_at_call 42; refine (hkd _).mono ?_; rintro e w4 ⟨rfl, hc4⟩))
    refine (hcA _).mono ?_
    rintro e w5 ⟨rfl, hc5⟩
    go_wp2_with fail
    refine (hcB _).mono ?_
    rintro e w6 ⟨rfl, hc6⟩
    go_wp2
    (try simp only [Exit.inBlock, Exit.then])
    refine bodyPost_ret (results_four rfl _ _ _) rfl ?_
    exact ⟨rfl, ((((Ch.refl w).drewN (n2 + n3)).trans hc4).trans hc5).trans hc6⟩
end Go.Proofs.Ytjkphnpikciaeaa
