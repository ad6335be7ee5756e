/- The walk of the law DescKeys. -/
import Derived.Test.YtjkphnpikciaeaaSplitR
namespace Go.Proofs.Ytjkphnpikciaeaa
open Go.RowKit
set_option linter.unusedVariables false

theorem ms_beq (a b : List UInt8) : ((ms a).toList == (ms b).toList) = (a == b) := by rw [bl_toList, bl_toList, bl_ms, bl_ms]
theorem ms_toList (a : List UInt8) : (ms a).toList = a := by rw [bl_toList, bl_ms]

set_option maxHeartbeats 8000000 in
theorem descKeys_walk (a b d k : ByteArray) (w : World) : Calls Try.prog 5 #[.string a, .string b, .string d, .string k] w fun e w' => e = .returned (.bool true) ∧ Ch w w' := by
  go_enter Try.func5, Try.ntmps5
  go_wp2_with fail
  have hA := (Ch.refl w).alloc (.cells #[.int .i64 (b.size : Int), .int .i64 (d.size : Int), .int .i64 (k.size : Int)] 3)
  refine (sum_any a.size b.size d.size k.size w.heap.size _ ?_ ?_ ?_).mono ?_
  · simp only [World.cell?]; rw [heap_alloc_new]; rfl
  · simp only [World.cell?]; rw [heap_alloc_new]; rfl
  · simp only [World.cell?]; rw [heap_alloc_new]; rfl
  rintro e w2 ⟨⟨m, rfl, hm⟩, hw2⟩
  have hw2 := hw2.symm
  subst hw2
  by_cases h300 : m ≤ 300
  · have hz : decide ((300 : Int) < m) = false := by simp; omega
    have hm := hm h300
    have sa : a.size ≤ 900 := by omega
    have sb : b.size ≤ 900 := by omega
    have sd : d.size ≤ 900 := by omega
    have sk : k.size ≤ 900 := by omega
    have hkl : (keyL (bl a) (bl b) (bl d)).length ≤ 900 := by
      unfold keyL
      split
      · simp [bl_len]; omega
      · simp
    clear hm h300
    have hk1 := fun w0 => key_any a b d w0 (by omega) (by omega) (by omega)
    have hk2 := fun w0 => refKey_any a b d w0 (by omega) (by omega) (by omega)
    have hs1 := fun w0 => split_any k w0 sk
    have hs2 := fun w0 => refSplit_any k w0 sk
    have hs3 := fun w0 => split_any (ms (keyL (bl a) (bl b) (bl d))) w0 (by rw [ms_size]; exact hkl)
    rw [bl_ms] at hs3
    obtain ⟨x, hx⟩ : ∃ x, keyedB (bl a) (bl b) (bl d) = x := ⟨_, rfl⟩
    generalize w.alloc (.cells #[.int .i64 (b.size : Int), .int .i64 (d.size : Int), .int .i64 (k.size : Int)] 3) = wA at hA ⊢
    have HA : Hid (Ch w wA) := hA
    cases x
    · have hK : keyL (bl a) (bl b) (bl d) = [] := by unfold keyL; rw [hx]; rfl
      rw [hK] at hk1 hk2 hs3
      have t0 := ms_toList []
      clear hx hK hkl hs3 hA
      generalize spA (bl k) = xA at *
      generalize spB (bl k) = xB at *
      generalize spD (bl k) = xD at *
      generalize spE (bl k) = xE at *
      go_wp2_with fail
      refine (hk1 _).mono ?_
      rintro e w3 ⟨rfl, hc3⟩
      go_wp2_with fail
      refine (hs1 _).mono ?_
      rintro e w4 ⟨rfl, hc4⟩
      go_wp2_with fail
      refine (hs2 _).mono ?_
      rintro e w5 ⟨rfl, hc5⟩
      go_wp2_with fail
      refine (hk2 _).mono ?_
      rintro e w6 ⟨rfl, hc6⟩
      have HC : Hid (Ch w w6) := (((HA.out.trans hc3).trans hc4).trans hc5).trans hc6
      clear hc3 hc4 hc5 hc6 HA
      go_wp2_with (first | (go_at_call 8; refine (awake_any _).mono ?_; rintro e w9 ⟨rfl, hc9⟩))
      go_ret
      exact ⟨rfl, HC.out.trans hc9⟩
    · have hK : keyL (bl a) (bl b) (bl d) = bl a ++ [46] ++ bl b ++ bl d := by unfold keyL; rw [hx]; rfl
      have sp := sp_back hx
      rw [← hK] at sp
      rw [sp.a, sp.b, sp.d, sp.e, ms_bl, ms_bl, ms_bl] at hs3
      have hne : ((ms (keyL (bl a) (bl b) (bl d))).toList == []) = false := by
        rw [ms_toList, hK]; cases bl a <;> rfl
      clear hx hK hkl sp hA
      generalize keyL (bl a) (bl b) (bl d) = xK at *
      generalize spA (bl k) = xA at *
      generalize spB (bl k) = xB at *
      generalize spD (bl k) = xD at *
      generalize spE (bl k) = xE at *
      go_wp2_with fail
      refine (hk1 _).mono ?_
      rintro e w3 ⟨rfl, hc3⟩
      go_wp2_with fail
      refine (hs1 _).mono ?_
      rintro e w4 ⟨rfl, hc4⟩
      go_wp2_with fail
      refine (hs2 _).mono ?_
      rintro e w5 ⟨rfl, hc5⟩
      go_wp2_with fail
      refine (hk2 _).mono ?_
      rintro e w6 ⟨rfl, hc6⟩
      have HC : Hid (Ch w w6) := (((HA.out.trans hc3).trans hc4).trans hc5).trans hc6
      clear hc3 hc4 hc5 hc6 HA
      go_wp2_with fail
      refine (hs3 _).mono ?_
      rintro e w7 ⟨rfl, hc7⟩
      go_wp2_with (first | (go_at_call 8; refine (awake_any _).mono ?_; rintro e w9 ⟨rfl, hc9⟩))
      go_ret
      exact ⟨rfl, (HC.out.trans hc7).trans hc9⟩
  · have hz : decide ((300 : Int) < m) = true := by simp; omega
    go_wp2_with (first | (go_at_call 8; refine (awake_any _).mono ?_; rintro e w9 ⟨rfl, hc9⟩))
    go_ret
    exact ⟨rfl, hA.trans hc9⟩
end Go.Proofs.Ytjkphnpikciaeaa
