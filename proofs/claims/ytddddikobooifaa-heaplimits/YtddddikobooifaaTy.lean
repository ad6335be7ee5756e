/- The contracts of the program's and the document's types. -/
import Derived.Test.YtddddikobooifaaName
import Derived.Test.YtddddikobooifaaSpecB
namespace Go.Proofs.Ytddddikobooifaa
open Go.RowKit
set_option linter.unusedVariables false

/-- The place behind a class type whose L is at k; 0: none. -/
def clr (l : List UInt8) (k : Nat) : Nat := if cls (l.drop (k + 1)) = 0 then 0 else k + cls (l.drop (k + 1))
theorem clr_eq {l : List UInt8} {k n : Nat} (hn : nsz (l.drop (k + 1)) = n) : clr l k = if n = 0 then 0 else if l[k + 1 + n]? = some 59 then k + 1 + n + 1 else 0 := by
  unfold clr cls
  rw [hn, List.getElem?_drop]
  repeat' split
  all_goals first | omega | simp_all

set_option maxHeartbeats 1000000 in
theorem classSize_any (s : ByteArray) (k : Nat) (w : World) (hs : s.size ≤ 100000) (hk : k < s.size) : Calls Try.prog 38 #[.string s, .int .i64 (k : Int)] w fun e w' => e = .returned (.int .i64 (clr (bl s) k : Nat)) ∧ w' = w := by
  obtain ⟨n, hn⟩ : ∃ n, nsz ((bl s).drop (k + 1)) = n := ⟨_, rfl⟩
  have hle := nsz_le ((bl s).drop (k + 1))
  rw [hn, List.length_drop, bl_len] at hle
  have hc := clr_eq hn
  have HC : Hid (clr (bl s) k = if n = 0 then 0 else if (bl s)[k + 1 + n]? = some 59 then k + 1 + n + 1 else 0) := hc
  clear hc
  have hcall : ∀ w0, Calls Try.prog 44 #[.string (s.extract (k + 1) s.size)] w0 fun e w' => e = .returned (.int .i64 (n : Int)) ∧ w' = w0 := fun w0 => by
    have h := nameSize_any (s.extract (k + 1) s.size) w0 (by rw [← bl_len, bl_from, List.length_drop, bl_len]; omega)
    rw [bl_from, hn] at h
    exact h
  have ht : ((k : Int) + 1).toNat = k + 1 := by omega
  clear hn
  go_enter Try.func38, Try.ntmps38
  go_wp2_with fail
  refine (hcall _).mono ?_
  rintro e w2 ⟨rfl, hw2⟩
  have hw2 := hw2.symm
  subst hw2
  by_cases h0 : n = 0
  · subst h0
    have hr : 0 = clr (bl s) k := by rw [HC.out]; rfl
    have HR : Hid (0 = clr (bl s) k) := hr
    clear hr HC
    go_wp2
    go_ret
    exact ⟨congrArg (fun (x : Nat) => Ending.returned (.int .i64 x)) (HR.out), rfl⟩
  · have h0' : ((n : Int) == 0) = false := by simp; omega
    by_cases hend : k + 1 + n = s.size
    · have h1 : (((k : Int) + 1 + n) == (s.size : Int)) = true := by simp; omega
      have hno : (bl s)[k + 1 + n]? = none := List.getElem?_eq_none (by rw [bl_len]; omega)
      have hr : 0 = clr (bl s) k := by rw [HC.out, hno, if_neg h0]; rfl
      have HR : Hid (0 = clr (bl s) k) := hr
      clear hr HC hno
      go_wp2
      go_ret
      exact ⟨congrArg (fun (x : Nat) => Ending.returned (.int .i64 x)) (HR.out), rfl⟩
    · have h1 : (((k : Int) + 1 + n) == (s.size : Int)) = false := by simp; omega
      have hlt : k + 1 + n < s.size := by omega
      have hg := bl_get s (k + 1 + n) hlt
      have ht2 : ((k : Int) + 1 + n).toNat = k + 1 + n := by omega
      have hi0 : 0 ≤ (k : Int) + 1 + n ∧ (k : Int) + 1 + n < s.size := by omega
      by_cases hb : ((s[k + 1 + n].toNat : Int) == 59) = true
      · have hb2 : ((s[k + 1 + n].toNat : Int) != 59) = false := by rw [bne, hb]; rfl
        have hr : k + 1 + n + 1 = clr (bl s) k := by rw [HC.out, hg, byte_eq (n := 59) hb, if_neg h0, if_pos rfl]
        have HR : Hid (k + 1 + n + 1 = clr (bl s) k) := hr
        clear hr HC hg
        go_wp2
        go_ret
        exact ⟨congrArg (fun (x : Nat) => Ending.returned (.int .i64 x)) (HR.out), rfl⟩
      · have hb' : ((s[k + 1 + n].toNat : Int) == 59) = false := by simpa using hb
        have hb2 : ((s[k + 1 + n].toNat : Int) != 59) = true := by rw [bne, hb']; rfl
        have hr : 0 = clr (bl s) k := by rw [HC.out, hg, if_neg h0, if_neg (fun h => byte_ne (n := 59) hb' (by simpa using h))]
        have HR : Hid (0 = clr (bl s) k) := hr
        clear hr HC hg hb
        go_wp2
        go_ret
        exact ⟨congrArg (fun (x : Nat) => Ending.returned (.int .i64 x)) (HR.out), rfl⟩

set_option maxHeartbeats 4000000 in
theorem typeSize_any (s : ByteArray) (w : World) (hs : s.size ≤ 100000) : Calls Try.prog 29 #[.string s] w fun e w' => e = .returned (.int .i64 (tyn (bl s) 0 : Nat)) ∧ w' = w := by
  go_enter Try.func29, Try.ntmps29
  go_wp2_with fail
  refine wp_scope_jumps 0 (fun a' w' => w' = w ∧ ∃ (k : Nat) (u4 u5 u6 u7 u8 u9 u10 u11 u12 u13 u14 u15 u16 u17 u18 u19 u20 u21 u22 u23 u24 u25 u26 u27 u28 : Value), a' = { tmps := #[.string s, undef, .int .i64 0, .int .i64 (k : Int), u4, u5, u6, u7, u8, u9, u10, u11, u12, u13, u14, u15, u16, u17, u18, u19, u20, u21, u22, u23, u24, u25, u26, u27, u28], defers := [] } ∧ k ≤ 5 ∧ k ≤ s.size ∧ tyn (bl s) 0 = tyr (bl s) k) (fun a' _ => 5 - (intOf (a'.tmps.getD 3 undef)).toNat) rfl ?_ ?_
  · have hs0 : tyn (bl s) 0 = tyr (bl s) 0 := (tyr_zero _).symm
    by_cases hlt : 0 < s.size
    · have hg := bl_get s 0 hlt
      have h4 : 0 ≤ 4 := by omega
      have hq : (((0 : Nat) : Int) == (s.size : Int)) = false := by simp; omega
      by_cases c73 : ((s[0].toNat : Int) == 73) = true
      · have hr := tyr_one (l := bl s) hg h4 (Or.inl (byte_eq (n := 73) c73))
        rw [← hs0] at hr
        have HR : Hid (0 + 1 = tyn (bl s) 0) := hr.symm
        clear hr hs0 hg
        go_wp2_with fail
        go_step3
        go_wp2_with fail
        simp only [Exit.jump]
        go_ret
        exact ⟨congrArg (fun (x : Nat) => Ending.returned (.int .i64 x)) (HR.out), rfl⟩
      have n73 : ((s[0].toNat : Int) == 73) = false := by simpa using c73
      have m73 := byte_ne (n := 73) n73
      clear c73
      by_cases c67 : ((s[0].toNat : Int) == 67) = true
      · have hr := tyr_one (l := bl s) hg h4 (Or.inr (byte_eq (n := 67) c67))
        rw [← hs0] at hr
        have HR : Hid (0 + 1 = tyn (bl s) 0) := hr.symm
        clear hr hs0 hg
        go_wp2_with fail
        go_step3
        go_wp2_with fail
        simp only [Exit.jump]
        go_ret
        exact ⟨congrArg (fun (x : Nat) => Ending.returned (.int .i64 x)) (HR.out), rfl⟩
      have n67 : ((s[0].toNat : Int) == 67) = false := by simpa using c67
      have m67 := byte_ne (n := 67) n67
      clear c67
      by_cases c76 : ((s[0].toNat : Int) == 76) = true
      · have hg2 := hg
        rw [byte_eq (n := 76) c76] at hg2
        have hr := tyr_cls (l := bl s) hg2 h4
        rw [← hs0] at hr
        have HR : Hid (clr (bl s) 0 = tyn (bl s) 0) := hr.symm
        clear hr hs0 hg hg2 m73 m67
        go_wp2_with fail
        go_step3
        go_wp2_with fail
        refine (classSize_any s 0 _ hs hlt).mono ?_
        rintro e w2 ⟨rfl, hw2⟩
        have hw2 := hw2.symm
        subst hw2
        go_wp2
        simp only [Exit.jump]
        go_ret
        exact ⟨congrArg (fun (x : Nat) => Ending.returned (.int .i64 x)) (HR.out), rfl⟩
      have n76 : ((s[0].toNat : Int) == 76) = false := by simpa using c76
      have m76 := byte_ne (n := 76) n76
      clear c76
      by_cases c91 : ((s[0].toNat : Int) == 91) = true
      · have hg2 := hg
        rw [byte_eq (n := 91) c91] at hg2
        have hr := hs0.trans (tyr_arr (l := bl s) hg2 h4)
        clear hs0 hg hg2 m73 m67 m76
        go_wp2_with fail
        go_step3
        go_wp2_with fail
        go_step3
        refine ⟨rfl, rfl, ⟨0 + 1, _, _, _, _, _, _, _, _, _, _, _, _, _, _, _, _, _, _, _, _, _, _, _, _, _, rfl, by omega, by omega, hr⟩⟩
      have n91 : ((s[0].toNat : Int) == 91) = false := by simpa using c91
      have m91 := byte_ne (n := 91) n91
      clear c91
      have hr := tyr_no (l := bl s) hg h4 m73 m67 m76 m91
      rw [← hs0] at hr
      have HR : Hid (0 = tyn (bl s) 0) := hr.symm
      clear hr hs0 hg m73 m67 m76 m91
      go_wp2_with fail
      go_step3
      go_wp2_with fail
      simp only [Exit.jump]
      go_ret
      exact ⟨congrArg (fun (x : Nat) => Ending.returned (.int .i64 x)) (HR.out), rfl⟩
    · have hr := tyr_end (l := bl s) (k := 0) (by rw [bl_len]; omega)
      rw [← hs0] at hr
      have HR : Hid (0 = tyn (bl s) 0) := hr.symm
      have hsz : s.size = 0 := by omega
      clear hr hs0 hlt
      have hq : (((0 : Nat) : Int) == (s.size : Int)) = true := by simp; omega
      go_wp2_with fail
      go_step3
      go_wp2_with fail
      simp only [Exit.jump]
      go_ret
      exact ⟨congrArg (fun (x : Nat) => Ending.returned (.int .i64 x)) (HR.out), rfl⟩

  · rintro a' w' ⟨rfl, k, u4, u5, u6, u7, u8, u9, u10, u11, u12, u13, u14, u15, u16, u17, u18, u19, u20, u21, u22, u23, u24, u25, u26, u27, u28, rfl, hk5, hks, hs0⟩
    by_cases hlt : k < s.size
    · have hg := bl_get s k hlt
      by_cases h4n : 4 < k
      · have hr := tyr_deep (l := bl s) h4n
        have h4d : decide (4 < (k : Int)) = true := by simp; omega
        have hq : ((k : Int) == (s.size : Int)) = false := by simp; omega
        rw [← hs0] at hr
        have HR : Hid (0 = tyn (bl s) 0) := hr.symm
        clear hr hs0 hg
        go_wp2_with fail
        simp only [Exit.jump]
        go_ret
        exact ⟨congrArg (fun (x : Nat) => Ending.returned (.int .i64 x)) (HR.out), rfl⟩
      · have h4 : k ≤ 4 := by omega
        have h4d : decide (4 < (k : Int)) = false := by simp; omega
        have hq : ((k : Int) == (s.size : Int)) = false := by simp; omega
        clear h4n
        by_cases c73 : ((s[k].toNat : Int) == 73) = true
        · have hr := tyr_one (l := bl s) hg h4 (Or.inl (byte_eq (n := 73) c73))
          rw [← hs0] at hr
          have HR : Hid (k + 1 = tyn (bl s) 0) := hr.symm
          clear hr hs0 hg
          go_wp2_with fail
          simp only [Exit.jump]
          go_ret
          exact ⟨congrArg (fun (x : Nat) => Ending.returned (.int .i64 x)) (HR.out), rfl⟩
        have n73 : ((s[k].toNat : Int) == 73) = false := by simpa using c73
        have m73 := byte_ne (n := 73) n73
        clear c73
        by_cases c67 : ((s[k].toNat : Int) == 67) = true
        · have hr := tyr_one (l := bl s) hg h4 (Or.inr (byte_eq (n := 67) c67))
          rw [← hs0] at hr
          have HR : Hid (k + 1 = tyn (bl s) 0) := hr.symm
          clear hr hs0 hg
          go_wp2_with fail
          simp only [Exit.jump]
          go_ret
          exact ⟨congrArg (fun (x : Nat) => Ending.returned (.int .i64 x)) (HR.out), rfl⟩
        have n67 : ((s[k].toNat : Int) == 67) = false := by simpa using c67
        have m67 := byte_ne (n := 67) n67
        clear c67
        by_cases c76 : ((s[k].toNat : Int) == 76) = true
        · have hg2 := hg
          rw [byte_eq (n := 76) c76] at hg2
          have hr := tyr_cls (l := bl s) hg2 h4
          rw [← hs0] at hr
          have HR : Hid (clr (bl s) k = tyn (bl s) 0) := hr.symm
          clear hr hs0 hg hg2 m73 m67
          go_wp2_with fail
          refine (classSize_any s k _ hs hlt).mono ?_
          rintro e w2 ⟨rfl, hw2⟩
          have hw2 := hw2.symm
          subst hw2
          go_wp2
          simp only [Exit.jump]
          go_ret
          exact ⟨congrArg (fun (x : Nat) => Ending.returned (.int .i64 x)) (HR.out), rfl⟩
        have n76 : ((s[k].toNat : Int) == 76) = false := by simpa using c76
        have m76 := byte_ne (n := 76) n76
        clear c76
        by_cases c91 : ((s[k].toNat : Int) == 91) = true
        · have hg2 := hg
          rw [byte_eq (n := 91) c91] at hg2
          have hr := hs0.trans (tyr_arr (l := bl s) hg2 h4)
          clear hs0 hg hg2 m73 m67 m76
          go_wp2_with fail
          go_step3
          refine ⟨rfl, ⟨rfl, ⟨k + 1, _, _, _, _, _, _, _, _, _, _, _, _, _, _, _, _, _, _, _, _, _, _, _, _, _, rfl, by omega, by omega, hr⟩⟩, by simp [intOf]; omega⟩
        have n91 : ((s[k].toNat : Int) == 91) = false := by simpa using c91
        have m91 := byte_ne (n := 91) n91
        clear c91
        have hr := tyr_no (l := bl s) hg h4 m73 m67 m76 m91
        rw [← hs0] at hr
        have HR : Hid (0 = tyn (bl s) 0) := hr.symm
        clear hr hs0 hg m73 m67 m76 m91
        go_wp2_with fail
        simp only [Exit.jump]
        go_ret
        exact ⟨congrArg (fun (x : Nat) => Ending.returned (.int .i64 x)) (HR.out), rfl⟩
    · have hr := tyr_end (l := bl s) (k := k) (by rw [bl_len]; omega)
      rw [← hs0] at hr
      have HR : Hid (0 = tyn (bl s) 0) := hr.symm
      have hsz : s.size = k := by omega
      clear hr hs0 hlt
      have hq : ((k : Int) == (s.size : Int)) = true := by simp; omega
      go_wp2_with fail
      simp only [Exit.jump]
      go_ret
      exact ⟨congrArg (fun (x : Nat) => Ending.returned (.int .i64 x)) (HR.out), rfl⟩

end Go.Proofs.Ytddddikobooifaa
