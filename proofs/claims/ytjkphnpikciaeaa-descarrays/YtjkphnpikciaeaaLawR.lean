/- The walk of the law DescArrays. -/
import Derived.Test.YtjkphnpikciaeaaAwake
namespace Go.Proofs.Ytjkphnpikciaeaa
open Go.RowKit
set_option linter.unusedVariables false

/-- So many [ ahead. -/
def br (k : Nat) (l : List UInt8) : List UInt8 := List.replicate k 91 ++ l
theorem br_succ (k : Nat) (l : List UInt8) : br (k + 1) l = 91 :: br k l := by simp [br, List.replicate_succ]
theorem br_zero (l : List UInt8) : br 0 l = l := by simp [br]
theorem br_len (k : Nat) (l : List UInt8) : (br k l).length = k + l.length := by simp [br]
theorem lb_br (l : List UInt8) (h : hd 91 l = false) (k : Nat) : lb (br k l) = k := by
  induction k with
  | zero =>
    rw [br_zero]
    cases l with
    | nil => rfl
    | cons c r => simp [hd] at h; simp [lb, h]
  | succ k ih => rw [br_succ, lb, if_pos rfl, ih]
theorem drop_br (l : List UInt8) (k : Nat) : (br k l).drop k = l := by simp [br]
theorem isType_br (l : List UInt8) (hl : isType l = true) (h : hd 91 l = false) (k : Nat) : isType (br k l) = decide (k ≤ 4) := by
  obtain ⟨h1, h2⟩ := isType_len hl
  have h3 : 0 < l.length := by
    rcases Nat.eq_zero_or_pos l.length with h0 | h0
    · exact absurd (List.eq_nil_of_length_eq_zero h0) h2
    · exact h0
  have h4 : tyb l = l.length := by
    have e := tyn_lb l 0
    have e0 := lb_br l h 0
    rw [br_zero] at e0
    rw [e0, h1] at e
    simp at e
    split at e
    · omega
    · omega
  have h5 : tyn (br k l) 0 = if 4 < k then 0 else l.length + k := by
    rw [tyn_lb, lb_br l h, drop_br, h4]
    simp only [Nat.add_zero]
    split
    · rfl
    · rw [if_neg (by omega)]
  unfold isType
  rw [h5, br_len]
  have hne : (br k l == []) = false := by
    cases hb : br k l with
    | nil => have := br_len k l; rw [hb] at this; simp at this; omega
    | cons c r => rfl
  rw [hne]
  by_cases hk : 4 < k
  · simp [hk]; omega
  · simp [hk]; omega
theorem arr_br (l : List UInt8) (hl : isType l = true) (h : hd 91 l = false) (k : Nat) (hk : k < 4) : arrL (br k l) = br (k + 1) l := by
  unfold arrL onlyL
  rw [← br_succ, isType_br l hl h, if_pos (by simp; omega)]
theorem arr_br4 (l : List UInt8) (hl : isType l = true) (h : hd 91 l = false) : arrL (br 4 l) = [] := by
  unfold arrL onlyL
  rw [← br_succ, isType_br l hl h, if_neg (by simp)]
theorem elem_br (l : List UInt8) (hl : isType l = true) (h : hd 91 l = false) (k : Nat) (hk : k < 4) : elemL (br (k + 1) l) = br k l ∧ elemB (br (k + 1) l) = true := by
  have h1 : isType (br (k + 1) l) = true := by rw [isType_br l hl h]; simp; omega
  have h2 : hd 91 (br (k + 1) l) = true := by rw [br_succ]; rfl
  unfold elemL elemB
  rw [h1, h2]
  exact ⟨by rw [br_succ]; rfl, rfl⟩
theorem ref_br (l : List UInt8) (hl : isType l = true) (h : hd 91 l = false) (k : Nat) (hk : k < 4) : isRef (br (k + 1) l) = true := by
  have h1 : isType (br (k + 1) l) = true := by rw [isType_br l hl h]; simp; omega
  rw [br_succ] at *
  exact isRef_A h1
theorem class_br (l : List UInt8) (k : Nat) : classL (br (k + 1) l) = [] := by
  unfold classL
  rw [br_succ]
  simp [hd]

set_option maxHeartbeats 4000000 in
theorem descArrays_walk (s : ByteArray) (dims : Int) (w : World) : Calls Try.prog 6 #[.string s, .int .i64 dims] w fun e w' => e = .returned (.bool true) ∧ Ch w w' := by
  by_cases h300 : s.size ≤ 300
  · have hz : decide ((300 : Int) < (s.size : Int)) = false := by simp; omega
    have hs2 : s.size ≤ 1000 := by omega
    by_cases hd0 : dims < 0
    · have hz2 : decide (dims < 0) = true := by simp; omega
      go_enter Try.func6, Try.ntmps6
      go_wp2_with (first | (go_at_call 8; refine (awake_any _).mono ?_; rintro e w6 ⟨rfl, hc6⟩))
      go_ret
      exact ⟨rfl, hc6⟩
    · have hz2 : decide (dims < 0) = false := by simp; omega
      by_cases hd10 : 10 < dims
      · have hz3 : decide (10 < dims) = true := by simp; omega
        go_enter Try.func6, Try.ntmps6
        go_wp2_with (first | (go_at_call 8; refine (awake_any _).mono ?_; rintro e w6 ⟨rfl, hc6⟩))
        go_ret
        exact ⟨rfl, hc6⟩
      · have hz3 : decide (10 < dims) = false := by simp; omega
        obtain ⟨b, hb⟩ : ∃ b, isType (bl s) = b := ⟨_, rfl⟩
        have hcall := fun w0 => refType_as hb hs2 w0
        cases b
        · clear hb
          go_enter Try.func6, Try.ntmps6
          go_wp2_with (first | (go_at_call 16; refine (hcall _).mono ?_; rintro e x1 ⟨rfl, hx⟩; have hx := hx.symm; subst hx; clear hx) | (go_at_call 8; refine (awake_any _).mono ?_; rintro e w6 ⟨rfl, hc6⟩))
          go_ret
          exact ⟨rfl, hc6⟩
        · have h0 := type_size hb
          obtain ⟨d, hd1⟩ : ∃ d, hd 91 (bl s) = d := ⟨_, rfl⟩
          have hzz := hd_zero 91 h0
          rw [hd1] at hzz
          have hz9 : ((s[0].toNat : Int) == 91) = d := hzz.symm
          cases d
          · clear hzz
            obtain ⟨n, rfl⟩ : ∃ n : Nat, dims = n := ⟨dims.toNat, by omega⟩
            have hn : n ≤ 10 := by omega
            have HB : Hid (isType (bl s) = true) := hb
            have HD : Hid (hd 91 (bl s) = false) := hd1
            have hsz : ∀ k, k ≤ 10 → (ms (br k (bl s))).size ≤ 320 := fun k hk => by rw [ms_size, br_len, bl_len]; omega
            have HZ : Hid (∀ k, k ≤ 10 → (ms (br k (bl s))).size ≤ 320) := hsz
            clear hb hd1 hsz
            go_enter Try.func6, Try.ntmps6
            go_wp2_with (first | (go_at_call 16; refine (hcall _).mono ?_; rintro e x1 ⟨rfl, hx⟩; have hx := hx.symm; subst hx; clear hx))
            go_loopw [5, 6] (fun t i wr => ∃ k : Nat, k ≤ n ∧ k ≤ 4 ∧ t = .string (ms (br k (bl s))) ∧ i = .int .i64 k ∧ Ch w wr) (fun _ i _ => n - (intOf i).toNat)
            case atStart => exact ⟨0, by omega, by omega, by rw [br_zero, ms_bl], rfl, Ch.refl _⟩
            case round =>
              obtain ⟨k, hkn, hk4, rfl, rfl, hc⟩ := hrel
              by_cases hlt : k < n
              · by_cases h4 : k = 4
                · subst h4
                  have harr : ∀ w0, Calls Try.prog 21 #[.string (ms (br 4 (bl s)))] w0 fun e w' => e = .returned (.string (ms [])) ∧ w' = w0 := fun w0 => by
                    have h := arr_any (ms (br 4 (bl s))) w0 (by have := HZ.out 4 (by omega); omega)
                    rw [bl_ms, arr_br4 _ HB.out HD.out] at h
                    exact h
                  have t0 : (ms []).toList = [] := by rw [bl_toList, bl_ms]
                  go_wp2_with (first | (go_at_call 21; refine (harr _).mono ?_; rintro e x1 ⟨rfl, hx⟩; have hx := hx.symm; subst hx; clear hx) | (go_at_call 8; refine (awake_any _).mono ?_; rintro e w6 ⟨rfl, hc6⟩))
                  go_ret
                  exact ⟨rfl, hc.trans hc6⟩
                · have hk3 : k < 4 := by omega
                  have hk3' : decide ((4 : Int) ≤ (k : Int)) = false := by simp; omega
                  have harr : ∀ w0, Calls Try.prog 21 #[.string (ms (br k (bl s)))] w0 fun e w' => e = .returned (.string (ms (br (k + 1) (bl s)))) ∧ w' = w0 := fun w0 => by
                    have h := arr_any (ms (br k (bl s))) w0 (by have := HZ.out k (by omega); omega)
                    rw [bl_ms, arr_br _ HB.out HD.out k hk3] at h
                    exact h
                  have hsz : (ms (br (k + 1) (bl s))).size ≤ 1000 := by have := HZ.out (k + 1) (by omega); omega
                  have hel : ∀ w0, Calls Try.prog 9 #[.string (ms (br (k + 1) (bl s)))] w0 fun e w' => e = .returned (.tuple #[.string (ms (br k (bl s))), .bool true]) ∧ Ch w0 w' := fun w0 => by
                    have h := elem_any (ms (br (k + 1) (bl s))) w0 hsz
                    rw [bl_ms, (elem_br _ HB.out HD.out k hk3).1, (elem_br _ HB.out HD.out k hk3).2] at h
                    exact h
                  have hrf : ∀ w0, Calls Try.prog 17 #[.string (ms (br (k + 1) (bl s)))] w0 fun e w' => e = .returned (.bool true) ∧ w' = w0 := fun w0 => by
                    have h := ref_any (ms (br (k + 1) (bl s))) w0 hsz
                    rw [bl_ms, ref_br _ HB.out HD.out k hk3] at h
                    exact h
                  have hcs : ∀ w0, Calls Try.prog 19 #[.string (ms (br (k + 1) (bl s)))] w0 fun e w' => e = .returned (.string (ms [])) ∧ Ch w0 w' := fun w0 => by
                    have h := class_any (ms (br (k + 1) (bl s))) w0 hsz
                    rw [bl_ms, class_br] at h
                    exact h
                  have t0 : (ms []).toList = [] := by rw [bl_toList, bl_ms]
                  clear hsz
                  go_wp2_with (first
                    | (go_at_call 21; refine (harr _).mono ?_; rintro e x1 ⟨rfl, hx⟩; have hx := hx.symm; subst hx; clear hx)
                    | (go_at_call 9; refine (hel _).mono ?_; rintro e w3 ⟨rfl, hc3⟩)
                    | (go_at_call 17; refine (hrf _).mono ?_; rintro e x1 ⟨rfl, hx⟩; have hx := hx.symm; subst hx; clear hx)
                    | (go_at_call 19; refine (hcs _).mono ?_; rintro e w4 ⟨rfl, hc4⟩)
                    | (go_at_call 8; refine (awake_any _).mono ?_; rintro e w6 ⟨rfl, hc6⟩))
                  go_roundw
                  case rel => exact ⟨k + 1, by omega, by omega, rfl, rfl, (hc.trans hc3).trans hc4⟩
                  case measure => simp [intOf]; omega
              · have hel : ∀ w0, Calls Try.prog 9 #[.string s] w0 fun e w' => e = .returned (.tuple #[.string (ms (elemL (bl s))), .bool false]) ∧ Ch w0 w' := fun w0 => by
                  have h := elem_any s w0 hs2
                  have e1 : elemB (bl s) = false := by unfold elemB; rw [HD.out]; simp
                  rw [e1] at h
                  exact h
                have hty : ∀ w0, Calls Try.prog 15 #[.string (ms (br k (bl s)))] w0 fun e w' => e = .returned (.bool true) ∧ w' = w0 := fun w0 => by
                  have h := type_any (ms (br k (bl s))) w0 (by have := HZ.out k (by omega); omega)
                  rw [bl_ms, isType_br _ HB.out HD.out, decide_eq_true hk4] at h
                  exact h
                go_wp2_with (first
                    | (go_at_call 9; refine (hel _).mono ?_; rintro e w3 ⟨rfl, hc3⟩)
                    | (go_at_call 15; refine (hty _).mono ?_; rintro e x1 ⟨rfl, hx⟩; have hx := hx.symm; subst hx; clear hx)
                    | (go_at_call 8; refine (awake_any _).mono ?_; rintro e w6 ⟨rfl, hc6⟩))
                go_ret
                exact ⟨rfl, (hc.trans hc3).trans hc6⟩
          · clear hb hd1 hzz
            go_enter Try.func6, Try.ntmps6
            go_wp2_with (first | (go_at_call 16; refine (hcall _).mono ?_; rintro e x1 ⟨rfl, hx⟩; have hx := hx.symm; subst hx; clear hx) | (go_at_call 8; refine (awake_any _).mono ?_; rintro e w6 ⟨rfl, hc6⟩))
            go_ret
            exact ⟨rfl, hc6⟩
  · have hz : decide ((300 : Int) < (s.size : Int)) = true := by simp; omega
    go_enter Try.func6, Try.ntmps6
    go_wp2_with (first | (go_at_call 8; refine (awake_any _).mono ?_; rintro e w6 ⟨rfl, hc6⟩))
    go_ret
    exact ⟨rfl, hc6⟩
end Go.Proofs.Ytjkphnpikciaeaa
