/- The document's own names, types and method types. -/
import Derived.Test.YtdalibfgkkgcpaaGreatKMeth
import Derived.BigQuiet
import Derived.Deep.Draws
import Derived.Deep.QuietTactic
import Derived.RegionTactic
import Derived.ScopeJumps
import Derived.WalkKit
import Derived.WalkMore
import Derived.WalkSpells
namespace Go.Proofs.YtdalibfgkkgcpaaGreat
open Go.RowKit
set_option linter.unusedVariables false

theorem ranges (n : Int) : (97 ≤ n ∧ n ≤ 122) ∨ (65 ≤ n ∧ n ≤ 90 ∧ n < 97) ∨ n = 95 ∨ (48 ≤ n ∧ n ≤ 57 ∧ n < 65 ∧ n < 97) ∨ (n < 48 ∧ n < 65 ∧ n < 97) ∨ (57 < n ∧ n < 65 ∧ n < 97 ∧ 48 ≤ n) ∨ (90 < n ∧ n < 95 ∧ n < 97 ∧ 65 ≤ n ∧ 48 ≤ n ∧ 57 < n) ∨ n = 96 ∨ (122 < n ∧ 97 ≤ n ∧ 65 ≤ n ∧ 48 ≤ n ∧ 90 < n ∧ 57 < n) := by omega

set_option maxHeartbeats 4000000 in
theorem refName_any (s : ByteArray) (w : World) (hs : s.size ≤ 100000) : Calls Tryz.prog 41 #[.string s] w fun e w' => e = .returned (.bool (isName (bl s))) ∧ w' = w := by
  go_enter Tryz.func41, Tryz.ntmps41
  go_wp2
  go_loop [3] (fun i => ∃ k : Nat, k ≤ s.size ∧ i = .int .i64 k ∧ ld (bl s) true = k + ld ((bl s).drop k) (k == 0)) (fun i => s.size - (intOf i).toNat)
  case atStart => exact ⟨0, by omega, rfl, by simp⟩
  case round =>
    obtain ⟨k, hk, rfl, hl⟩ := hrel
    by_cases hlt : k < s.size
    · by_cases hk0 : k = 0
      · subst hk0
        have hg := bl_get s 0 hlt
        by_cases hb : okB s[0] (((0 : Nat) : Int) == 0) = true
        · have hl2 := ld_yes hl hg hb
          have hend : ∀ x : Int, x = ((0 : Nat) : Int) + 1 → (∃ k_1 : Nat, k_1 ≤ s.size ∧ Value.int IntKind.i64 x = Value.int IntKind.i64 k_1 ∧ ld (bl s) true = k_1 + ld ((bl s).drop k_1) (k_1 == 0)) ∧ s.size - (intOf (Value.int IntKind.i64 x)).toNat < s.size - (intOf (Value.int IntKind.i64 ((0 : Nat) : Int))).toNat :=
            fun x hx => ⟨⟨0 + 1, by omega, by rw [hx]; rfl, hl2⟩, by rw [hx]; simp [intOf]; omega⟩
          have HE : Hid (∀ x : Int, x = ((0 : Nat) : Int) + 1 → (∃ k_1 : Nat, k_1 ≤ s.size ∧ Value.int IntKind.i64 x = Value.int IntKind.i64 k_1 ∧ ld (bl s) true = k_1 + ld ((bl s).drop k_1) (k_1 == 0)) ∧ s.size - (intOf (Value.int IntKind.i64 x)).toNat < s.size - (intOf (Value.int IntKind.i64 ((0 : Nat) : Int))).toNat) := hend
          clear hend hl2 hl hg
          have hor : (97 ≤ (s[0].toNat : Int) ∧ (s[0].toNat : Int) ≤ 122) ∨ (65 ≤ (s[0].toNat : Int) ∧ (s[0].toNat : Int) ≤ 90) ∨ (s[0].toNat : Int) = 95 := Decidable.byContradiction fun hn => by
            by_cases hd : 48 ≤ (s[0].toNat : Int) ∧ (s[0].toNat : Int) ≤ 57
            · rw [okB_d hd] at hb; simp at hb
            · rw [okB_f ⟨hn, hd⟩] at hb; cases hb
          clear hb
          rcases hor with ⟨d1, d2⟩ | ⟨d1, d2⟩ | d1
          · go_wp2
            exact HE.out _ rfl
          · have d3 : (s[0].toNat : Int) < 97 := by omega
            go_wp2
            exact HE.out _ rfl
          · have d3 : ((s[0].toNat : Int) == 95) = true := by simpa using d1
            have d4 : (s[0].toNat : Int) < 97 := by omega
            have d5 : 90 < (s[0].toNat : Int) := by omega
            have d6 : 65 ≤ (s[0].toNat : Int) := by omega
            clear d1
            go_wp2
            exact HE.out _ rfl
        · have hl2 := ld_no hl hg (by simpa using hb)
          have hf : isName (bl s) = false := by
            have := bl_len s
            simp only [isName]
            rw [decide_eq_false (p := ld (bl s) true = (bl s).length) (by omega)]
            simp
          have HE : Hid (isName (bl s) = false) := hf
          clear hf hl2 hl hg
          have hnl : ¬ ((97 ≤ (s[0].toNat : Int) ∧ (s[0].toNat : Int) ≤ 122) ∨ (65 ≤ (s[0].toNat : Int) ∧ (s[0].toNat : Int) ≤ 90) ∨ (s[0].toNat : Int) = 95) := fun hn => hb (okB_t hn)
          have d5 : ((s[0].toNat : Int) == 95) = false := by simp; omega
          clear hb
          rcases ranges (s[0].toNat : Int) with h | h | h | h | h | h | h | h | h
          · omega
          · omega
          · omega
          all_goals clear hnl
          all_goals try (obtain ⟨h1, h2, h3, h4, h5, h6⟩ := h)
          all_goals try (obtain ⟨h1, h2, h3, h4⟩ := h)
          all_goals try (obtain ⟨h1, h2, h3⟩ := h)
          all_goals try (have e1 : 90 < (s[0].toNat : Int) := by omega)
          all_goals try (have e2 : (s[0].toNat : Int) < 97 := by omega)
          all_goals try (have e3 : 57 < (s[0].toNat : Int) := by omega)
          all_goals try (have e4 : 65 ≤ (s[0].toNat : Int) := by omega)
          all_goals try clear h
          all_goals go_wp2
          all_goals first
            | (go_ret; exact ⟨congrArg (fun b => Ending.returned (.bool b)) HE.out.symm, rfl⟩)
            | (exfalso; simp at *; omega)
      · have hz : ((k : Int) == 0) = false := by simp; omega
        have hg := bl_get s k hlt
        by_cases hb : okB s[k] ((k : Int) == 0) = true
        · have hl2 := ld_yes hl hg hb
          have hend : ∀ x : Int, x = (k : Int) + 1 → (∃ k_1 : Nat, k_1 ≤ s.size ∧ Value.int IntKind.i64 x = Value.int IntKind.i64 k_1 ∧ ld (bl s) true = k_1 + ld ((bl s).drop k_1) (k_1 == 0)) ∧ s.size - (intOf (Value.int IntKind.i64 x)).toNat < s.size - (intOf (Value.int IntKind.i64 (k : Int))).toNat :=
            fun x hx => ⟨⟨k + 1, by omega, by rw [hx]; rfl, hl2⟩, by rw [hx]; simp [intOf]; omega⟩
          have HE : Hid (∀ x : Int, x = (k : Int) + 1 → (∃ k_1 : Nat, k_1 ≤ s.size ∧ Value.int IntKind.i64 x = Value.int IntKind.i64 k_1 ∧ ld (bl s) true = k_1 + ld ((bl s).drop k_1) (k_1 == 0)) ∧ s.size - (intOf (Value.int IntKind.i64 x)).toNat < s.size - (intOf (Value.int IntKind.i64 (k : Int))).toNat) := hend
          clear hend hl2 hl hg
          by_cases hd : 48 ≤ (s[k].toNat : Int) ∧ (s[k].toNat : Int) ≤ 57
          · obtain ⟨d1, d2⟩ := hd
            have d3 : (s[k].toNat : Int) < 97 := by omega
            have d4 : (s[k].toNat : Int) < 65 := by omega
            have d5 : ((s[k].toNat : Int) == 95) = false := by simp; omega
            clear hb
            go_wp2
            exact HE.out _ rfl
          · have hor : (97 ≤ (s[k].toNat : Int) ∧ (s[k].toNat : Int) ≤ 122) ∨ (65 ≤ (s[k].toNat : Int) ∧ (s[k].toNat : Int) ≤ 90) ∨ (s[k].toNat : Int) = 95 := Decidable.byContradiction fun hn => by rw [okB_f ⟨hn, hd⟩] at hb; cases hb
            clear hd hb
            rcases hor with ⟨d1, d2⟩ | ⟨d1, d2⟩ | d1
            · go_wp2
              exact HE.out _ rfl
            · have d3 : (s[k].toNat : Int) < 97 := by omega
              go_wp2
              exact HE.out _ rfl
            · have d3 : ((s[k].toNat : Int) == 95) = true := by simpa using d1
              have d4 : (s[k].toNat : Int) < 97 := by omega
              have d5 : 90 < (s[k].toNat : Int) := by omega
              have d6 : 65 ≤ (s[k].toNat : Int) := by omega
              clear d1
              go_wp2
              exact HE.out _ rfl
        · have hl2 := ld_no hl hg (by simpa using hb)
          have hf : isName (bl s) = false := by
            have := bl_len s
            simp only [isName]
            rw [decide_eq_false (p := ld (bl s) true = (bl s).length) (by omega)]
            simp
          have HE : Hid (isName (bl s) = false) := hf
          clear hf hl2 hl hg
          have hnl : ¬ ((97 ≤ (s[k].toNat : Int) ∧ (s[k].toNat : Int) ≤ 122) ∨ (65 ≤ (s[k].toNat : Int) ∧ (s[k].toNat : Int) ≤ 90) ∨ (s[k].toNat : Int) = 95) := fun hn => hb (okB_t hn)
          have d5 : ((s[k].toNat : Int) == 95) = false := by simp; omega
          have hnd : ¬ (48 ≤ (s[k].toNat : Int) ∧ (s[k].toNat : Int) ≤ 57) := fun hd => hb (by rw [okB_d hd]; simpa using hz)
          clear hb
          rcases ranges (s[k].toNat : Int) with h | h | h | h | h | h | h | h | h
          · omega
          · omega
          · omega
          · omega
          all_goals clear hnl hnd
          all_goals try (obtain ⟨h1, h2, h3, h4, h5, h6⟩ := h)
          all_goals try (obtain ⟨h1, h2, h3, h4⟩ := h)
          all_goals try (obtain ⟨h1, h2, h3⟩ := h)
          all_goals try (have e1 : 90 < (s[k].toNat : Int) := by omega)
          all_goals try (have e2 : (s[k].toNat : Int) < 97 := by omega)
          all_goals try (have e3 : 57 < (s[k].toNat : Int) := by omega)
          all_goals try (have e4 : 65 ≤ (s[k].toNat : Int) := by omega)
          all_goals try clear h
          all_goals go_wp2
          all_goals first
            | (go_ret; exact ⟨congrArg (fun b => Ending.returned (.bool b)) HE.out.symm, rfl⟩)
            | (exfalso; simp at *; omega)
    · have h1 := ld_fin hl (by rw [bl_len]; omega)
      have he : isName (bl s) = (decide (1 ≤ (s.size : Int)) && decide ((s.size : Int) ≤ 30)) := by
        have := bl_len s
        simp only [isName]
        rw [decide_eq_true (p := ld (bl s) true = (bl s).length) (by omega), bl_len]
        rw [Bool.eq_iff_iff]; simp; omega
      have HE : Hid (isName (bl s) = (decide (1 ≤ (s.size : Int)) && decide ((s.size : Int) ≤ 30))) := he
      clear hl h1 he
      go_wp2
      all_goals go_ret
      all_goals refine ⟨congrArg (fun b => Ending.returned (.bool b)) ?_, rfl⟩
      all_goals rw [HE.out]
      all_goals clear HE
      all_goals simp_all
      all_goals try omega

theorem refMname_any (s : ByteArray) (w : World) (hs : s.size ≤ 100000) : Calls Tryz.prog 80 #[.string s] w fun e w' => e = .returned (.bool (isMName (bl s))) ∧ w' = w := by
  go_enter Tryz.func80, Tryz.ntmps80
  go_wp2_with (go_at_call 41; refine (refName_any _ _ hs).mono ?_; rintro e w2 ⟨rfl, hw2⟩; have hw2 := hw2.symm; subst hw2)
  all_goals
    go_ret
    refine ⟨congrArg (fun b => Ending.returned (.bool b)) ?_, rfl⟩
    simp_all [bl_toList, isMName, initL, clinitL]
  cases isName (bl s) <;> simp
set_option maxHeartbeats 4000000 in
theorem front_any (s : ByteArray) (w : World) (hs : s.size ≤ 100000) : Calls Tryz.prog 78 #[.string s] w fun e w' => e = .returned (.int .i64 (tyn (bl s) 0 : Nat)) ∧ w' = w := by
  go_enter Tryz.func78, Tryz.ntmps78
  go_wp2
  go_loop [3] (fun i => ∃ k : Nat, k ≤ s.size ∧ i = .int .i64 k ∧ lb (bl s) = k + lb ((bl s).drop k)) (fun i => s.size - (intOf i).toNat)
  case atStart => exact ⟨0, by omega, rfl, by simp⟩
  case round =>
    obtain ⟨k, hk, rfl, hl⟩ := hrel
    by_cases hlt : k < s.size
    · have hg := bl_get s k hlt
      have hq : ((k : Int) == (s.size : Int)) = false := by simp; omega
      by_cases c91 : ((s[k].toNat : Int) == 91) = true
      · have hg2 := hg
        rw [byte_eq (n := 91) c91] at hg2
        have hl2 := lb_go hl hg2
        clear hl hg hg2
        go_wp2
        exact ⟨⟨k + 1, by omega, rfl, hl2⟩, by simp [intOf]; omega⟩
      · have n91 : ((s[k].toNat : Int) == 91) = false := by simpa using c91
        have hl2 := lb_hit hl hg (byte_ne (n := 91) n91)
        clear hl c91
        by_cases h4 : 4 < k
        · have hr := front_deep (l := bl s) (by omega)
          have HR : Hid (0 = tyn (bl s) 0) := hr.symm
          clear hr hg hl2
          go_wp2
          go_ret
          exact ⟨congrArg (fun (x : Nat) => Ending.returned (.int .i64 x)) (HR.out), rfl⟩
        · have hr := front_at (l := bl s) (c := s[k]) (by omega) (by rw [hl2]; exact hg)
          rw [hl2] at hr
          have h4d : decide (4 < (k : Int)) = false := by simp; omega
          by_cases c73 : ((s[k].toNat : Int) == 73) = true
          · rw [if_pos (Or.inl (byte_eq (n := 73) c73))] at hr
            have HR : Hid (k + 1 = tyn (bl s) 0) := hr.symm
            clear hr hg hl2
            go_wp2
            go_ret
            exact ⟨congrArg (fun (x : Nat) => Ending.returned (.int .i64 x)) (HR.out), rfl⟩
          · have n73 : ((s[k].toNat : Int) == 73) = false := by simpa using c73
            clear c73
            by_cases c67 : ((s[k].toNat : Int) == 67) = true
            · rw [if_pos (Or.inr (byte_eq (n := 67) c67))] at hr
              have HR : Hid (k + 1 = tyn (bl s) 0) := hr.symm
              clear hr hg hl2
              go_wp2
              go_ret
              exact ⟨congrArg (fun (x : Nat) => Ending.returned (.int .i64 x)) (HR.out), rfl⟩
            · have n67 : ((s[k].toNat : Int) == 67) = false := by simpa using c67
              clear c67
              rw [if_neg (fun h => h.elim (byte_ne (n := 73) n73) (byte_ne (n := 67) n67))] at hr
              by_cases c76 : ((s[k].toNat : Int) == 76) = true
              · have b76 : ((s[k].toNat : Int) != 76) = false := by rw [bne, c76]; rfl
                rw [if_pos (byte_eq (n := 76) c76), clr_sc (by rw [bl_len]; exact hlt), bl_len] at hr
                have HR : Hid (tyn (bl s) 0 = if k + 1 + sc ((bl s).drop (k + 1)) = s.size then 0 else if isName (((bl s).drop (k + 1)).take (sc ((bl s).drop (k + 1)))) then k + 1 + sc ((bl s).drop (k + 1)) + 1 else 0) := hr
                clear hr hg hl2
                go_wp2
                go_loop [4] (fun i => ∃ j : Nat, k + 1 + j ≤ s.size ∧ i = .int .i64 ((k + 1 + j : Nat) : Int) ∧ sc ((bl s).drop (k + 1)) = j + sc ((bl s).drop (k + 1 + j))) (fun i => s.size - (intOf i).toNat)
                case atStart => exact ⟨0, by omega, rfl, by simp⟩
                case round =>
                  obtain ⟨j, hj, rfl, hsc⟩ := hrel
                  by_cases hlt2 : k + 1 + j < s.size
                  · have hg := bl_get s (k + 1 + j) hlt2
                    have hq2 : (((k + 1 + j : Nat) : Int) == (s.size : Int)) = false := by simp; omega
                    by_cases c59 : ((s[k + 1 + j].toNat : Int) == 59) = true
                    · have b59 : ((s[k + 1 + j].toNat : Int) != 59) = false := by rw [bne, c59]; rfl
                      rw [byte_eq (n := 59) c59] at hg
                      have hh := sc_hit hsc hg
                      rw [hh, if_neg (by omega)] at HR
                      clear hsc hh hg
                      obtain ⟨b, hb⟩ : ∃ b, isName (((bl s).drop (k + 1)).take j) = b := ⟨_, rfl⟩
                      rw [hb] at HR
                      have hcall : ∀ w0, Calls Tryz.prog 41 #[.string (s.extract (k + 1) (k + 1 + j))] w0 fun e w' => e = .returned (.bool b) ∧ w' = w0 := fun w0 => by
                        have h := refName_any (s.extract (k + 1) (k + 1 + j)) w0 (by rw [← bl_len, bl_extract, List.length_take, List.length_drop, bl_len]; omega)
                        rw [bl_extract, show k + 1 + j - (k + 1) = j from by omega, hb] at h
                        exact h
                      have ht : ((k : Int) + 1).toNat = k + 1 := by omega
                      have ht2 : ((k : Int) + 1 + j).toNat = k + 1 + j := by omega
                      have hq3 : ((k : Int) + 1 + j == (s.size : Int)) = false := by simp; omega
                      clear hb
                      go_wp2_with fail
                      refine (hcall _).mono ?_
                      rintro e w2 ⟨rfl, hw2⟩
                      have hw2 := hw2.symm
                      subst hw2
                      cases b
                      · rw [if_neg (by simp)] at HR
                        go_wp2
                        go_ret
                        exact ⟨congrArg (fun (x : Nat) => Ending.returned (.int .i64 x)) (HR.out.symm), rfl⟩
                      · rw [if_pos rfl] at HR
                        go_wp2
                        go_ret
                        exact ⟨congrArg (fun (x : Nat) => Ending.returned (.int .i64 x)) (HR.out.symm), rfl⟩
                    · have n59 : ((s[k + 1 + j].toNat : Int) == 59) = false := by simpa using c59
                      have b59 : ((s[k + 1 + j].toNat : Int) != 59) = true := by rw [bne, n59]; rfl
                      have hh := sc_go hsc hg (byte_ne (n := 59) n59)
                      have HH : Hid (sc ((bl s).drop (k + 1)) = (j + 1) + sc ((bl s).drop (k + 1 + (j + 1)))) := hh
                      clear hsc hh hg HR c59
                      go_wp2
                      exact ⟨⟨j + 1, by omega, by rw [show ((k + 1 + (j + 1) : Nat) : Int) = (k : Int) + 1 + j + 1 from by omega], HH.out⟩, by simp [intOf]; omega⟩
                  · have hh := sc_out hsc (by rw [bl_len]; omega)
                    rw [hh, if_pos (by omega)] at HR
                    have hq2 : (((k + 1 + j : Nat) : Int) == (s.size : Int)) = true := by simp; omega
                    clear hsc hh
                    go_wp2
                    go_ret
                    exact ⟨congrArg (fun (x : Nat) => Ending.returned (.int .i64 x)) (HR.out.symm), rfl⟩
              · have n76 : ((s[k].toNat : Int) == 76) = false := by simpa using c76
                have b76 : ((s[k].toNat : Int) != 76) = true := by rw [bne, n76]; rfl
                clear c76
                rw [if_neg (byte_ne (n := 76) n76)] at hr
                have HR : Hid (0 = tyn (bl s) 0) := hr.symm
                clear hr hg hl2
                go_wp2
                go_ret
                exact ⟨congrArg (fun (x : Nat) => Ending.returned (.int .i64 x)) (HR.out), rfl⟩
    · have hr := front_end (l := bl s) (by rw [lb_out hl (by rw [bl_len]; omega), bl_len]; omega)
      have HR : Hid (0 = tyn (bl s) 0) := hr.symm
      have hq : ((k : Int) == (s.size : Int)) = true := by simp; omega
      clear hr hl
      go_wp2
      all_goals go_ret
      all_goals exact ⟨congrArg (fun (x : Nat) => Ending.returned (.int .i64 x)) (HR.out), rfl⟩

theorem refType_any (s : ByteArray) (w : World) (hs : s.size ≤ 100000) : Calls Tryz.prog 42 #[.string s] w fun e w' => e = .returned (.bool (isType (bl s))) ∧ w' = w := by
  go_enter Tryz.func42, Tryz.ntmps42
  go_wp2_with (go_at_call 78; refine (front_any _ _ hs).mono ?_; rintro e w2 ⟨rfl, hw2⟩; have hw2 := hw2.symm; subst hw2)
  all_goals
    go_ret
    refine ⟨congrArg (fun b => Ending.returned (.bool b)) ?_, rfl⟩
    unfold isType
    simp only [bl_toList] at *
  · simp_all
  · rw [beq_nil, nat_beq, bl_len]
set_option maxHeartbeats 1000000 in
theorem refRef_any (s : ByteArray) (w : World) (hs : s.size ≤ 100000) : Calls Tryz.prog 120 #[.string s] w fun e w' => e = .returned (.bool (isRef (bl s))) ∧ w' = w := by
  go_enter Tryz.func120, Tryz.ntmps120
  go_wp2_with (go_at_call 42; refine (refType_any _ _ hs).mono ?_; rintro e w2 ⟨rfl, hw2⟩; have hw2 := hw2.symm; subst hw2)
  all_goals
    go_ret
    refine ⟨congrArg (fun b => Ending.returned (.bool b)) ?_, rfl⟩
    unfold isRef
    (try simp only [bl_toList] at *)
    simp_all
theorem refType_as {s : ByteArray} {b : Bool} (hb : isType (bl s) = b) (hs : s.size ≤ 100000) (w0 : World) : Calls Tryz.prog 42 #[.string s] w0 fun e w' => e = .returned (.bool b) ∧ w' = w0 := by
  have h := refType_any s w0 hs; rw [hb] at h; exact h
theorem refArr_any (s : ByteArray) (w : World) (hs : s.size ≤ 90000) : Calls Tryz.prog 119 #[.string s] w fun e w' => e = .returned (.string (ms (arrL (bl s)))) ∧ w' = w := by
  obtain ⟨b, hb⟩ : ∃ b, isType (bl (⟨#[91]⟩ ++ s)) = b := ⟨_, rfl⟩
  have hcall := fun w0 => refType_as hb (by rw [size_arr]; omega) w0
  rw [bl_arr] at hb
  cases b
  · have hr : arrL (bl s) = [] := by unfold arrL onlyL; rw [hb]; rfl
    rw [hr]
    clear hr hb
    go_enter Tryz.func119, Tryz.ntmps119
    go_wp2_with (go_at_call 42; refine (hcall _).mono ?_; rintro e w2 ⟨rfl, hw2⟩; have hw2 := hw2.symm; subst hw2)
    go_ret
    exact ⟨rfl, rfl⟩
  · have hr : ms (arrL (bl s)) = ⟨#[91]⟩ ++ s := by unfold arrL onlyL; rw [hb]; exact (eq_ms (bl_arr s)).symm
    rw [hr]
    clear hr hb
    go_enter Tryz.func119, Tryz.ntmps119
    go_wp2_with (go_at_call 42; refine (hcall _).mono ?_; rintro e w2 ⟨rfl, hw2⟩; have hw2 := hw2.symm; subst hw2)
    go_ret
    exact ⟨rfl, rfl⟩
theorem refName_as {s : ByteArray} {b : Bool} (hb : isName (bl s) = b) (hs : s.size ≤ 100000) (w0 : World) : Calls Tryz.prog 41 #[.string s] w0 fun e w' => e = .returned (.bool b) ∧ w' = w0 := by
  have h := refName_any s w0 hs; rw [hb] at h; exact h
theorem front_as {s : ByteArray} {n : Nat} (hn : tyn (bl s) 0 = n) (hs : s.size ≤ 100000) (w0 : World) : Calls Tryz.prog 78 #[.string s] w0 fun e w' => e = .returned (.int .i64 (n : Int)) ∧ w' = w0 := by
  have h := front_any s w0 hs; rw [hn] at h; exact h
theorem empty_of {s : ByteArray} (h : s.size = 0) : s = ⟨#[]⟩ := by
  apply ByteArray.ext
  exact Array.eq_empty_of_size_eq_zero h
theorem nil_beq {s : ByteArray} (h : 0 < s.size) : (s.toList == []) = false := by
  rw [bl_toList, beq_nil]
  have := bl_len s
  cases hb : bl s with
  | nil => rw [hb] at this; simp at this; omega
  | cons x r => rfl
theorem Ch.drewN' {a b : World} (h : Ch a b) (n : Nat) : Ch a (b.drewN n) := h.drewN n

set_option maxHeartbeats 4000000 in
theorem refMethod_any (s : ByteArray) (w : World) (hs : s.size ≤ 100000) : Calls Tryz.prog 79 #[.string s] w (MPost (meth (bl s)) w) := by
  by_cases h0 : 0 < s.size
  · have hne := nil_beq h0
    obtain ⟨b, hb⟩ : ∃ b, hd 40 (bl s) = b := ⟨_, rfl⟩
    have hz40 := hd_ne 40 rfl h0 hb
    cases b
    · have hM : meth (bl s) = none := by unfold meth; rw [hb]; rfl
      have HM : Hid (meth (bl s) = none) := hM
      rw [Bool.not_false] at hz40
      clear hM hb
      go_enter Tryz.func79, Tryz.ntmps79
      go_wp2
      go_ret3
      exact MPost.no (Ch.refl _) HM.out
    · have hR : Rest (meth (bl s)) [] (bl (s.extract 1 s.size)) := ⟨by simp, by rw [bl_from]; unfold meth; rw [hb]; simp⟩
      have hz : (s.extract 1 s.size).size ≤ 100000 := by rw [← bl_len, bl_from, List.length_drop, bl_len]; omega
      rw [Bool.not_true] at hz40
      generalize meth (bl s) = M at *
      clear hb
      generalize hr0 : s.extract 1 s.size = r0 at *
      have hl1 : (1 : Int) ≤ s.size := by omega
      go_enter Tryz.func79, Tryz.ntmps79
      go_wp2_with fail
      go_loopw [0, 5] (fun rv pv wr => ∃ (ps : List (List UInt8)) (r : ByteArray), rv = .string r ∧ r.size ≤ 100000 ∧ wr.ownsRow w.heap.size 9 1 pv ps.length (ps.map strV) ∧ Ch w wr ∧ Hid (Rest M ps (bl r))) (fun rv _ _ => strSize rv)
      case atStart => exact ⟨[], r0, rfl, hz, World.ownsRow_nil _ _ _ _, Ch.refl _, hR⟩
      case round =>
        clear hne hz40 hr0 hl1
        obtain ⟨ps, r, rfl, hrs, ho, hc, hRr⟩ := hrel
        have hlen := own_len ho
        have hpl := hRr.out.1
        by_cases h0 : 0 < r.size
        · have hne := nil_beq h0
          have hl1 : (1 : Int) ≤ r.size := by omega
          obtain ⟨b, hb⟩ : ∃ b, hd 41 (bl r) = b := ⟨_, rfl⟩
          have hz41 := hd_ne 41 rfl h0 hb
          cases b
          · rw [Bool.not_false] at hz41
            obtain ⟨n, hn⟩ : ∃ n, tyn (bl r) 0 = n := ⟨_, rfl⟩
            have hle := tyn_le (bl r) 0
            rw [hn, bl_len] at hle
            have hty := fun w0 => front_as hn hrs w0
            by_cases h0 : n = 0
            · have hM := hRr.out.full hb (Or.inl (by rw [hn]; exact h0))
              have HM : Hid (M = none) := hM
              subst h0
              clear hM hRr hb hn hle hR
              go_wp2_with (first | (go_at_call 78; refine (hty _).mono ?_; rintro e w4 ⟨rfl, hw4⟩; have hw4 := hw4.symm; subst hw4))
              go_ret3
              exact MPost.no hc HM.out
            · have h0' : ((n : Int) == 0) = false := by simp; omega
              by_cases h8 : ps.length = 8
              · have hM := hRr.out.full hb (Or.inr h8)
                have HM : Hid (M = none) := hM
                have h8' : ((ps.length : Int) == 8) = true := by simp; omega
                clear hM hRr hb hn hle hR
                go_wp2_with (first | (go_at_call 78; refine (hty _).mono ?_; rintro e w4 ⟨rfl, hw4⟩; have hw4 := hw4.symm; subst hw4))
                go_ret3
                exact MPost.no hc HM.out
              · have h8' : ((ps.length : Int) == 8) = false := by simp; omega
                have hM := hRr.out.more hb (by rw [hn]; exact h0) (by omega)
                rw [hn, ← bl_to, ← bl_from] at hM
                have HM : Hid (Rest M (ps ++ [bl (r.extract 0 n)]) (bl (r.extract n r.size))) := hM
                have hsz2 : (r.extract n r.size).size = r.size - n := by rw [← bl_len, bl_from, List.length_drop, bl_len]
                have HZ : Hid ((r.extract n r.size).size = r.size - n) := hsz2
                have hlt : n ≤ r.size := hle
                clear hM hRr hb hn hle hR hsz2
                go_wp2_with (first | (go_at_call 78; refine (hty _).mono ?_; rintro e w4 ⟨rfl, hw4⟩; have hw4 := hw4.symm; subst hw4) | (at_builtin; refine wpList_append_text rfl (.tmp 32) (.tmp 36) rfl w.heap.size _ ps (r.extract 0 n) rfl (ownsRow_keep ho ((Ch.refl _).alloc _)) ⟨wr.heap.size, 0, none⟩ _ rfl (cell_new _ _ _) (by omega) (hc.alloc _).size ?_; intro v6 w6 ho6 hg6))
                go_roundw
                case rel => exact ⟨ps ++ [bl (r.extract 0 n)], r.extract n r.size, rfl, by rw [HZ.out]; omega, ho6, (hc.alloc _).grown hg6 (fun k hk => (ho.lt k hk).1), HM⟩
                case measure => simp only [strSize]; rw [HZ.out]; omega
          · rw [Bool.not_true] at hz41
            have hM := hRr.out.close hb
            rw [← bl_from] at hM
            have hqs : (r.extract 1 r.size).size ≤ 100000 := by rw [← bl_len, bl_from, List.length_drop, bl_len]; omega
            clear hRr hb hR
            generalize hq : r.extract 1 r.size = q at hM hqs
            obtain ⟨y, hy⟩ : ∃ y, isType (bl q) = y := ⟨_, rfl⟩
            have hty := fun w0 => refType_as hy hqs w0
            by_cases hV : bl q = [86]
            · rw [hV] at hM
              have hM : M = some (ps, bl q) := by rw [hM, hV]; rfl
              have HM : Hid (M = some (ps, bl q)) := hM
              have hVb : (q.toList == [86]) = true := by rw [bl_toList, hV]; rfl
              have hVc : q.toList = [86] := by rw [bl_toList, hV]
              clear hM hV hy hty
              go_wp2_with fail
              go_quiet (fail)
              go_wp2
              go_ret3
              exact MPost.yes (hc.drewN _) HM.out rfl ho
            · have hVb : (bl q == [86]) = false := by simpa using hV
              have hVc : (q.toList == [86]) = false := by rw [bl_toList]; exact hVb
              rw [hVb, hy] at hM
              cases y
              · have HM : Hid (M = none) := hM
                clear hM hV hy hVb
                go_wp2_with (first | (go_at_call 42; refine (hty _).mono ?_; rintro e w4 ⟨rfl, hw4⟩; have hw4 := hw4.symm; subst hw4))
                go_ret3
                exact MPost.no hc HM.out
              · have HM : Hid (M = some (ps, bl q)) := hM
                clear hM hV hy hVb
                go_wp2_with (first | (go_at_call 42; refine (hty _).mono ?_; rintro e w4 ⟨rfl, hw4⟩; have hw4 := hw4.symm; subst hw4))
                go_quiet (fail)
                go_wp2
                go_ret3
                exact MPost.yes (hc.drewN _) HM.out rfl ho
        · have hr : r = ⟨#[]⟩ := empty_of (by omega)
          have hM := hRr.out.full (by rw [hr]; rfl) (Or.inl (by rw [hr]; rfl))
          have HM : Hid (M = none) := hM
          subst hr
          clear hM hRr hR
          go_wp2
          go_ret3
          exact MPost.no hc HM.out
  · have hr : s = ⟨#[]⟩ := empty_of (by omega)
    subst hr
    go_enter Tryz.func79, Tryz.ntmps79
    go_wp2
    go_ret3
    exact MPost.no (Ch.refl _) rfl
end Go.Proofs.YtdalibfgkkgcpaaGreat
