/- The contracts of the program's and the document's names. -/
import Derived.Test.YtjkphnpikciaeaaChecked
import Derived.Test.YtjkphnpikciaeaaSpec
import Derived.WalkKit
import Derived.WalkSpells
import Derived.Deep.QuietTactic
import Derived.BigQuiet
import Derived.RegionTactic
import Derived.WalkMore
import Derived.ScopeJumps
import Derived.Deep.Draws
namespace Go.Proofs.Ytjkphnpikciaeaa
open Go.RowKit
set_option linter.unusedVariables false

theorem okB_t {c : UInt8} {f : Bool} (h : (97 ≤ (c.toNat : Int) ∧ (c.toNat : Int) ≤ 122) ∨ (65 ≤ (c.toNat : Int) ∧ (c.toNat : Int) ≤ 90) ∨ (c.toNat : Int) = 95) : okB c f = true := by
  have : isLet c = true := by
    simp only [isLet, Bool.or_eq_true, Bool.and_eq_true, decide_eq_true_eq]; omega
  simp [okB, this]
theorem not_let {c : UInt8} (h : ¬ ((97 ≤ (c.toNat : Int) ∧ (c.toNat : Int) ≤ 122) ∨ (65 ≤ (c.toNat : Int) ∧ (c.toNat : Int) ≤ 90) ∨ (c.toNat : Int) = 95)) : isLet c = false := by
  rw [← Bool.not_eq_true]
  simp only [isLet, Bool.or_eq_true, Bool.and_eq_true, decide_eq_true_eq]; omega
theorem okB_d {c : UInt8} {f : Bool} (h : 48 ≤ (c.toNat : Int) ∧ (c.toNat : Int) ≤ 57) : okB c f = !f := by
  have h1 : isDig c = true := by simp only [isDig, Bool.and_eq_true, decide_eq_true_eq]; omega
  have h2 : isLet c = false := not_let (by omega)
  simp [okB, h1, h2]
theorem okB_f {c : UInt8} {f : Bool} (h : ¬ ((97 ≤ (c.toNat : Int) ∧ (c.toNat : Int) ≤ 122) ∨ (65 ≤ (c.toNat : Int) ∧ (c.toNat : Int) ≤ 90) ∨ (c.toNat : Int) = 95) ∧ ¬ (48 ≤ (c.toNat : Int) ∧ (c.toNat : Int) ≤ 57)) : okB c f = false := by
  have h1 : isDig c = false := by rw [← Bool.not_eq_true]; simp only [isDig, Bool.and_eq_true, decide_eq_true_eq]; omega
  have h2 : isLet c = false := not_let h.1
  simp [okB, h1, h2]

theorem nameByte_any (c : UInt8) (f : Bool) (w : World) : Calls Try.prog 45 #[.int .u8 (c.toNat : Int), .bool f] w fun e w' => e = .returned (.bool (okB c f)) ∧ w' = w := by
  go_enter Try.func45, Try.ntmps45
  go_wp2
  all_goals
    go_ret
    refine ⟨congrArg (fun b => Ending.returned (.bool b)) ?_, rfl⟩
    (try simp only [beq_iff_eq] at *)
    (try simp only [beq_eq_false_iff_ne, ne_eq] at *)
    first
      | exact (okB_t (by omega)).symm
      | exact (okB_d (by omega)).symm
      | exact (okB_f (by omega)).symm

theorem kz (k : Nat) : ((k : Int) == 0) = (k == 0) := by
  cases k <;> simp <;> omega
theorem ld_yes {l : List UInt8} {k : Nat} {c : UInt8} (hl : ld l true = k + ld (l.drop k) (k == 0)) (hg : l[k]? = some c) (h : okB c ((k : Int) == 0) = true) : ld l true = (k + 1) + ld (l.drop (k + 1)) (k + 1 == 0) := by
  rw [kz] at h
  rw [hl, ld_step hg, h]
  simp
  omega
theorem ld_no {l : List UInt8} {k : Nat} {c : UInt8} (hl : ld l true = k + ld (l.drop k) (k == 0)) (hg : l[k]? = some c) (h : okB c ((k : Int) == 0) = false) : ld l true = k := by
  rw [kz] at h
  rw [hl, ld_step hg, h]
  simp
theorem ld_fin {l : List UInt8} {k : Nat} (hl : ld l true = k + ld (l.drop k) (k == 0)) (hg : l.length ≤ k) : ld l true = k := by
  rw [hl, ld_end hg]; simp

theorem nameSize_any (s : ByteArray) (w : World) (hs : s.size ≤ 1000) : Calls Try.prog 36 #[.string s] w fun e w' => e = .returned (.int .i64 (nsz (bl s))) ∧ w' = w := by
  go_enter Try.func36, Try.ntmps36
  go_wp2
  go_loop [3] (fun i => ∃ k : Nat, k ≤ s.size ∧ k ≤ 30 ∧ i = .int .i64 k ∧ ld (bl s) true = k + ld ((bl s).drop k) (k == 0)) (fun i => s.size - (intOf i).toNat)
  case atStart => exact ⟨0, by omega, by omega, rfl, by simp⟩
  case round =>
    obtain ⟨k, hk, hk30, rfl, hl⟩ := hrel
    by_cases hlt : k < s.size
    · have hg := bl_get s k hlt
      go_wp2_with (go_at_call 45; refine (nameByte_any _ _ _).mono ?_; rintro e w2 ⟨rfl, hw2⟩; have hw2 := hw2.symm; subst hw2)
      · have h1 := ld_yes hl hg (by assumption)
        go_ret
        refine ⟨congrArg (fun (x : Nat) => Ending.returned (.int .i64 x)) ?_, rfl⟩
        rw [nsz, if_neg (by omega)]
      · have h1 := ld_yes hl hg (by assumption)
        exact ⟨⟨k + 1, by omega, by omega, rfl, h1⟩, by simp [intOf]; omega⟩
      · have h1 := ld_no hl hg (by assumption)
        go_ret
        refine ⟨congrArg (fun (x : Nat) => Ending.returned (.int .i64 x)) ?_, rfl⟩
        rw [nsz, if_pos (by omega), h1]
    · have h1 := ld_fin hl (by rw [bl_len]; omega)
      go_wp2
      go_ret
      refine ⟨congrArg (fun (x : Nat) => Ending.returned (.int .i64 x)) ?_, rfl⟩
      rw [nsz, if_pos (by omega), h1]

theorem beq_nil (l : List UInt8) : (l == []) = l.isEmpty := by cases l <;> rfl
theorem nat_beq (a b : Nat) : ((a : Int) == (b : Int)) = decide (a = b) := by
  rw [Bool.eq_iff_iff]; simp; omega

theorem name_any (s : ByteArray) (w : World) (hs : s.size ≤ 1000) : Calls Try.prog 11 #[.string s] w fun e w' => e = .returned (.bool (isName (bl s))) ∧ w' = w := by
  go_enter Try.func11, Try.ntmps11
  go_wp2_with (go_at_call 36; refine (nameSize_any _ _ hs).mono ?_; rintro e w2 ⟨rfl, hw2⟩; have hw2 := hw2.symm; subst hw2)
  all_goals
    go_ret
    refine ⟨congrArg (fun b => Ending.returned (.bool b)) ?_, rfl⟩
    rw [← isName_eq]
    simp only [bl_toList] at *
  · simp_all
  · rw [beq_nil, nat_beq, bl_len]

theorem ranges (n : Int) : (97 ≤ n ∧ n ≤ 122) ∨ (65 ≤ n ∧ n ≤ 90 ∧ n < 97) ∨ n = 95 ∨ (48 ≤ n ∧ n ≤ 57 ∧ n < 65 ∧ n < 97) ∨ (n < 48 ∧ n < 65 ∧ n < 97) ∨ (57 < n ∧ n < 65 ∧ n < 97 ∧ 48 ≤ n) ∨ (90 < n ∧ n < 95 ∧ n < 97 ∧ 65 ≤ n ∧ 48 ≤ n ∧ 57 < n) ∨ n = 96 ∨ (122 < n ∧ 97 ≤ n ∧ 65 ≤ n ∧ 48 ≤ n ∧ 90 < n ∧ 57 < n) := by omega

set_option maxHeartbeats 4000000 in
theorem refName_any (s : ByteArray) (w : World) (hs : s.size ≤ 1000) : Calls Try.prog 12 #[.string s] w fun e w' => e = .returned (.bool (isName (bl s))) ∧ w' = w := by
  go_enter Try.func12, Try.ntmps12
  go_wp2
  go_loop [3] (fun i => ∃ k : Nat, k ≤ s.size ∧ i = .int .i64 k ∧ ld (bl s) true = k + ld ((bl s).drop k) (k == 0)) (fun i => s.size - (intOf i).toNat)
  case atStart => exact ⟨0, by omega, rfl, by simp⟩
  case round =>
    obtain ⟨k, hk, rfl, hl⟩ := hrel
    by_cases hlt : k < s.size
    · by_cases hk0 : k = 0
      · subst hk0
        have hg := bl_get s 0 hlt
        by_cases hb : okB s[0] (((0 : Nat) : Int) == 0) = true
        · have hl2 := ld_yes hl hg hb
          have hend : ∀ x : Int, x = ((0 : Nat) : Int) + 1 → (∃ k_1 : Nat, k_1 ≤ s.size ∧ Value.int IntKind.i64 x = Value.int IntKind.i64 k_1 ∧ ld (bl s) true = k_1 + ld ((bl s).drop k_1) (k_1 == 0)) ∧ s.size - (intOf (Value.int IntKind.i64 x)).toNat < s.size - (intOf (Value.int IntKind.i64 ((0 : Nat) : Int))).toNat :=
            fun x hx => ⟨⟨0 + 1, by omega, by rw [hx]; rfl, hl2⟩, by rw [hx]; simp [intOf]; omega⟩
          have HE : Hid (∀ x : Int, x = ((0 : Nat) : Int) + 1 → (∃ k_1 : Nat, k_1 ≤ s.size ∧ Value.int IntKind.i64 x = Value.int IntKind.i64 k_1 ∧ ld (bl s) true = k_1 + ld ((bl s).drop k_1) (k_1 == 0)) ∧ s.size - (intOf (Value.int IntKind.i64 x)).toNat < s.size - (intOf (Value.int IntKind.i64 ((0 : Nat) : Int))).toNat) := hend
          clear hend hl2 hl hg
          have hor : (97 ≤ (s[0].toNat : Int) ∧ (s[0].toNat : Int) ≤ 122) ∨ (65 ≤ (s[0].toNat : Int) ∧ (s[0].toNat : Int) ≤ 90) ∨ (s[0].toNat : Int) = 95 := Decidable.byContradiction fun hn => by
            by_cases hd : 48 ≤ (s[0].toNat : Int) ∧ (s[0].toNat : Int) ≤ 57
            · rw [okB_d hd] at hb; simp at hb
            · rw [okB_f ⟨hn, hd⟩] at hb; cases hb
          clear hb
          rcases hor with ⟨d1, d2⟩ | ⟨d1, d2⟩ | d1
          · go_wp2
            exact HE.out _ rfl
          · have d3 : (s[0].toNat : Int) < 97 := by omega
            go_wp2
            exact HE.out _ rfl
          · have d3 : ((s[0].toNat : Int) == 95) = true := by simpa using d1
            have d4 : (s[0].toNat : Int) < 97 := by omega
            have d5 : 90 < (s[0].toNat : Int) := by omega
            have d6 : 65 ≤ (s[0].toNat : Int) := by omega
            clear d1
            go_wp2
            exact HE.out _ rfl
        · have hl2 := ld_no hl hg (by simpa using hb)
          have hf : isName (bl s) = false := by
            have := bl_len s
            simp only [isName]
            rw [decide_eq_false (p := ld (bl s) true = (bl s).length) (by omega)]
            simp
          have HE : Hid (isName (bl s) = false) := hf
          clear hf hl2 hl hg
          have hnl : ¬ ((97 ≤ (s[0].toNat : Int) ∧ (s[0].toNat : Int) ≤ 122) ∨ (65 ≤ (s[0].toNat : Int) ∧ (s[0].toNat : Int) ≤ 90) ∨ (s[0].toNat : Int) = 95) := fun hn => hb (okB_t hn)
          have d5 : ((s[0].toNat : Int) == 95) = false := by simp; omega
          clear hb
          rcases ranges (s[0].toNat : Int) with h | h | h | h | h | h | h | h | h
          · omega
          · omega
          · omega
          all_goals clear hnl
          all_goals try (obtain ⟨h1, h2, h3, h4, h5, h6⟩ := h)
          all_goals try (obtain ⟨h1, h2, h3, h4⟩ := h)
          all_goals try (obtain ⟨h1, h2, h3⟩ := h)
          all_goals try (have e1 : 90 < (s[0].toNat : Int) := by omega)
          all_goals try (have e2 : (s[0].toNat : Int) < 97 := by omega)
          all_goals try (have e3 : 57 < (s[0].toNat : Int) := by omega)
          all_goals try (have e4 : 65 ≤ (s[0].toNat : Int) := by omega)
          all_goals try clear h
          all_goals go_wp2
          all_goals first
            | (go_ret; exact ⟨congrArg (fun b => Ending.returned (.bool b)) HE.out.symm, rfl⟩)
            | (exfalso; simp at *; omega)
      · have hz : ((k : Int) == 0) = false := by simp; omega
        have hg := bl_get s k hlt
        by_cases hb : okB s[k] ((k : Int) == 0) = true
        · have hl2 := ld_yes hl hg hb
          have hend : ∀ x : Int, x = (k : Int) + 1 → (∃ k_1 : Nat, k_1 ≤ s.size ∧ Value.int IntKind.i64 x = Value.int IntKind.i64 k_1 ∧ ld (bl s) true = k_1 + ld ((bl s).drop k_1) (k_1 == 0)) ∧ s.size - (intOf (Value.int IntKind.i64 x)).toNat < s.size - (intOf (Value.int IntKind.i64 (k : Int))).toNat :=
            fun x hx => ⟨⟨k + 1, by omega, by rw [hx]; rfl, hl2⟩, by rw [hx]; simp [intOf]; omega⟩
          have HE : Hid (∀ x : Int, x = (k : Int) + 1 → (∃ k_1 : Nat, k_1 ≤ s.size ∧ Value.int IntKind.i64 x = Value.int IntKind.i64 k_1 ∧ ld (bl s) true = k_1 + ld ((bl s).drop k_1) (k_1 == 0)) ∧ s.size - (intOf (Value.int IntKind.i64 x)).toNat < s.size - (intOf (Value.int IntKind.i64 (k : Int))).toNat) := hend
          clear hend hl2 hl hg
          by_cases hd : 48 ≤ (s[k].toNat : Int) ∧ (s[k].toNat : Int) ≤ 57
          · obtain ⟨d1, d2⟩ := hd
            have d3 : (s[k].toNat : Int) < 97 := by omega
            have d4 : (s[k].toNat : Int) < 65 := by omega
            have d5 : ((s[k].toNat : Int) == 95) = false := by simp; omega
            clear hb
            go_wp2
            exact HE.out _ rfl
          · have hor : (97 ≤ (s[k].toNat : Int) ∧ (s[k].toNat : Int) ≤ 122) ∨ (65 ≤ (s[k].toNat : Int) ∧ (s[k].toNat : Int) ≤ 90) ∨ (s[k].toNat : Int) = 95 := Decidable.byContradiction fun hn => by rw [okB_f ⟨hn, hd⟩] at hb; cases hb
            clear hd hb
            rcases hor with ⟨d1, d2⟩ | ⟨d1, d2⟩ | d1
            · go_wp2
              exact HE.out _ rfl
            · have d3 : (s[k].toNat : Int) < 97 := by omega
              go_wp2
              exact HE.out _ rfl
            · have d3 : ((s[k].toNat : Int) == 95) = true := by simpa using d1
              have d4 : (s[k].toNat : Int) < 97 := by omega
              have d5 : 90 < (s[k].toNat : Int) := by omega
              have d6 : 65 ≤ (s[k].toNat : Int) := by omega
              clear d1
              go_wp2
              exact HE.out _ rfl
        · have hl2 := ld_no hl hg (by simpa using hb)
          have hf : isName (bl s) = false := by
            have := bl_len s
            simp only [isName]
            rw [decide_eq_false (p := ld (bl s) true = (bl s).length) (by omega)]
            simp
          have HE : Hid (isName (bl s) = false) := hf
          clear hf hl2 hl hg
          have hnl : ¬ ((97 ≤ (s[k].toNat : Int) ∧ (s[k].toNat : Int) ≤ 122) ∨ (65 ≤ (s[k].toNat : Int) ∧ (s[k].toNat : Int) ≤ 90) ∨ (s[k].toNat : Int) = 95) := fun hn => hb (okB_t hn)
          have d5 : ((s[k].toNat : Int) == 95) = false := by simp; omega
          have hnd : ¬ (48 ≤ (s[k].toNat : Int) ∧ (s[k].toNat : Int) ≤ 57) := fun hd => hb (by rw [okB_d hd]; simpa using hz)
          clear hb
          rcases ranges (s[k].toNat : Int) with h | h | h | h | h | h | h | h | h
          · omega
          · omega
          · omega
          · omega
          all_goals clear hnl hnd
          all_goals try (obtain ⟨h1, h2, h3, h4, h5, h6⟩ := h)
          all_goals try (obtain ⟨h1, h2, h3, h4⟩ := h)
          all_goals try (obtain ⟨h1, h2, h3⟩ := h)
          all_goals try (have e1 : 90 < (s[k].toNat : Int) := by omega)
          all_goals try (have e2 : (s[k].toNat : Int) < 97 := by omega)
          all_goals try (have e3 : 57 < (s[k].toNat : Int) := by omega)
          all_goals try (have e4 : 65 ≤ (s[k].toNat : Int) := by omega)
          all_goals try clear h
          all_goals go_wp2
          all_goals first
            | (go_ret; exact ⟨congrArg (fun b => Ending.returned (.bool b)) HE.out.symm, rfl⟩)
            | (exfalso; simp at *; omega)
    · have h1 := ld_fin hl (by rw [bl_len]; omega)
      have he : isName (bl s) = (decide (1 ≤ (s.size : Int)) && decide ((s.size : Int) ≤ 30)) := by
        have := bl_len s
        simp only [isName]
        rw [decide_eq_true (p := ld (bl s) true = (bl s).length) (by omega), bl_len]
        rw [Bool.eq_iff_iff]; simp; omega
      have HE : Hid (isName (bl s) = (decide (1 ≤ (s.size : Int)) && decide ((s.size : Int) ≤ 30))) := he
      clear hl h1 he
      go_wp2
      all_goals go_ret
      all_goals refine ⟨congrArg (fun b => Ending.returned (.bool b)) ?_, rfl⟩
      all_goals rw [HE.out]
      all_goals clear HE
      all_goals simp_all
      all_goals try omega

theorem mname_any (s : ByteArray) (w : World) (hs : s.size ≤ 1000) : Calls Try.prog 13 #[.string s] w fun e w' => e = .returned (.bool (isMName (bl s))) ∧ w' = w := by
  go_enter Try.func13, Try.ntmps13
  go_wp2_with (go_at_call 11; refine (name_any _ _ hs).mono ?_; rintro e w2 ⟨rfl, hw2⟩; have hw2 := hw2.symm; subst hw2)
  all_goals
    go_ret
    refine ⟨congrArg (fun b => Ending.returned (.bool b)) ?_, rfl⟩
    simp_all [bl_toList, isMName, initL, clinitL]
theorem refMname_any (s : ByteArray) (w : World) (hs : s.size ≤ 1000) : Calls Try.prog 14 #[.string s] w fun e w' => e = .returned (.bool (isMName (bl s))) ∧ w' = w := by
  go_enter Try.func14, Try.ntmps14
  go_wp2_with (go_at_call 12; refine (refName_any _ _ hs).mono ?_; rintro e w2 ⟨rfl, hw2⟩; have hw2 := hw2.symm; subst hw2)
  all_goals
    go_ret
    refine ⟨congrArg (fun b => Ending.returned (.bool b)) ?_, rfl⟩
    simp_all [bl_toList, isMName, initL, clinitL]
  cases isName (bl s) <;> simp
end Go.Proofs.Ytjkphnpikciaeaa
