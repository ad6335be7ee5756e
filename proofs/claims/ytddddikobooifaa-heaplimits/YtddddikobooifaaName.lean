/- The contracts of the program's and the document's names. -/
import Derived.Test.YtddddikobooifaaProg
import Derived.Test.YtddddikobooifaaSpec
import Derived.WalkKit
import Derived.WalkSpells
import Derived.Deep.QuietTactic
import Derived.BigQuiet
import Derived.RegionTactic
import Derived.WalkMore
import Derived.ScopeJumps
import Derived.Deep.Draws
namespace Go.Proofs.Ytddddikobooifaa
open Go.RowKit
set_option linter.unusedVariables false

theorem okB_t {c : UInt8} {f : Bool} (h : (97 ≤ (c.toNat : Int) ∧ (c.toNat : Int) ≤ 122) ∨ (65 ≤ (c.toNat : Int) ∧ (c.toNat : Int) ≤ 90) ∨ (c.toNat : Int) = 95) : okB c f = true := by
  have : isLet c = true := by
    simp only [isLet, Bool.or_eq_true, Bool.and_eq_true, decide_eq_true_eq]; omega
  simp [okB, this]
theorem not_let {c : UInt8} (h : ¬ ((97 ≤ (c.toNat : Int) ∧ (c.toNat : Int) ≤ 122) ∨ (65 ≤ (c.toNat : Int) ∧ (c.toNat : Int) ≤ 90) ∨ (c.toNat : Int) = 95)) : isLet c = false := by
  rw [← Bool.not_eq_true]
  simp only [isLet, Bool.or_eq_true, Bool.and_eq_true, decide_eq_true_eq]; omega
theorem okB_d {c : UInt8} {f : Bool} (h : 48 ≤ (c.toNat : Int) ∧ (c.toNat : Int) ≤ 57) : okB c f = !f := by
  have h1 : isDig c = true := by simp only [isDig, Bool.and_eq_true, decide_eq_true_eq]; omega
  have h2 : isLet c = false := not_let (by omega)
  simp [okB, h1, h2]
theorem okB_f {c : UInt8} {f : Bool} (h : ¬ ((97 ≤ (c.toNat : Int) ∧ (c.toNat : Int) ≤ 122) ∨ (65 ≤ (c.toNat : Int) ∧ (c.toNat : Int) ≤ 90) ∨ (c.toNat : Int) = 95) ∧ ¬ (48 ≤ (c.toNat : Int) ∧ (c.toNat : Int) ≤ 57)) : okB c f = false := by
  have h1 : isDig c = false := by rw [← Bool.not_eq_true]; simp only [isDig, Bool.and_eq_true, decide_eq_true_eq]; omega
  have h2 : isLet c = false := not_let h.1
  simp [okB, h1, h2]

theorem nameByte_any (c : UInt8) (f : Bool) (w : World) : Calls Try.prog 55 #[.int .u8 (c.toNat : Int), .bool f] w fun e w' => e = .returned (.bool (okB c f)) ∧ w' = w := by
  go_enter Try.func55, Try.ntmps55
  go_wp2
  all_goals
    go_ret
    refine ⟨congrArg (fun b => Ending.returned (.bool b)) ?_, rfl⟩
    (try simp only [beq_iff_eq] at *)
    (try simp only [beq_eq_false_iff_ne, ne_eq] at *)
    first
      | exact (okB_t (by omega)).symm
      | exact (okB_d (by omega)).symm
      | exact (okB_f (by omega)).symm

theorem kz (k : Nat) : ((k : Int) == 0) = (k == 0) := by
  cases k <;> simp <;> omega
theorem ld_yes {l : List UInt8} {k : Nat} {c : UInt8} (hl : ld l true = k + ld (l.drop k) (k == 0)) (hg : l[k]? = some c) (h : okB c ((k : Int) == 0) = true) : ld l true = (k + 1) + ld (l.drop (k + 1)) (k + 1 == 0) := by
  rw [kz] at h
  rw [hl, ld_step hg, h]
  simp
  omega
theorem ld_no {l : List UInt8} {k : Nat} {c : UInt8} (hl : ld l true = k + ld (l.drop k) (k == 0)) (hg : l[k]? = some c) (h : okB c ((k : Int) == 0) = false) : ld l true = k := by
  rw [kz] at h
  rw [hl, ld_step hg, h]
  simp
theorem ld_fin {l : List UInt8} {k : Nat} (hl : ld l true = k + ld (l.drop k) (k == 0)) (hg : l.length ≤ k) : ld l true = k := by
  rw [hl, ld_end hg]; simp

theorem nameSize_any (s : ByteArray) (w : World) (hs : s.size ≤ 100000) : Calls Try.prog 44 #[.string s] w fun e w' => e = .returned (.int .i64 (nsz (bl s))) ∧ w' = w := by
  go_enter Try.func44, Try.ntmps44
  go_wp2
  go_loop [3] (fun i => ∃ k : Nat, k ≤ s.size ∧ k ≤ 30 ∧ i = .int .i64 k ∧ ld (bl s) true = k + ld ((bl s).drop k) (k == 0)) (fun i => s.size - (intOf i).toNat)
  case atStart => exact ⟨0, by omega, by omega, rfl, by simp⟩
  case round =>
    obtain ⟨k, hk, hk30, rfl, hl⟩ := hrel
    by_cases hlt : k < s.size
    · have hg := bl_get s k hlt
      go_wp2_with (go_at_call 55; refine (nameByte_any _ _ _).mono ?_; rintro e w2 ⟨rfl, hw2⟩; have hw2 := hw2.symm; subst hw2)
      · have h1 := ld_yes hl hg (by assumption)
        go_ret
        refine ⟨congrArg (fun (x : Nat) => Ending.returned (.int .i64 x)) ?_, rfl⟩
        rw [nsz, if_neg (by omega)]
      · have h1 := ld_yes hl hg (by assumption)
        exact ⟨⟨k + 1, by omega, by omega, rfl, h1⟩, by simp [intOf]; omega⟩
      · have h1 := ld_no hl hg (by assumption)
        go_ret
        refine ⟨congrArg (fun (x : Nat) => Ending.returned (.int .i64 x)) ?_, rfl⟩
        rw [nsz, if_pos (by omega), h1]
    · have h1 := ld_fin hl (by rw [bl_len]; omega)
      go_wp2
      go_ret
      refine ⟨congrArg (fun (x : Nat) => Ending.returned (.int .i64 x)) ?_, rfl⟩
      rw [nsz, if_pos (by omega), h1]

theorem beq_nil (l : List UInt8) : (l == []) = l.isEmpty := by cases l <;> rfl
theorem nat_beq (a b : Nat) : ((a : Int) == (b : Int)) = decide (a = b) := by
  rw [Bool.eq_iff_iff]; simp; omega

end Go.Proofs.Ytddddikobooifaa
