/- The contracts of the program's and the document's types. -/
/- The contracts of the document's reader of a type, and of what is told of types. -/
/- Worlds of which nothing old has turned; a fresh copy of a text; what a text begins with. -/
import Derived.Test.YthmepecmeambmaaGreatKSpecB
import Derived.Lib.BufferWrite
import Derived.Lib.UnsafeStr
import Derived.Laws.MakeOwn
import Derived.Maps.AppendAt
import Derived.Laws.AppendOwnNone
import Derived.Lib.Bytealg
namespace Go.Proofs.YthmepecmeambmaaGreat
open Go.RowKit
set_option linter.unusedVariables false

/-- The place behind a class type whose L is at k; 0: none. -/
def clr (l : List UInt8) (k : Nat) : Nat := if cls (l.drop (k + 1)) = 0 then 0 else k + cls (l.drop (k + 1))
theorem clr_eq {l : List UInt8} {k n : Nat} (hn : nsz (l.drop (k + 1)) = n) : clr l k = if n = 0 then 0 else if l[k + 1 + n]? = some 59 then k + 1 + n + 1 else 0 := by
  unfold clr cls
  rw [hn, List.getElem?_drop]
  repeat' split
  all_goals first | omega | simp_all

set_option maxHeartbeats 1000000 in
theorem classSize_any (s : ByteArray) (k : Nat) (w : World) (hs : s.size ≤ 100000) (hk : k < s.size) : Calls Tryz.prog 262 #[.string s, .int .i64 (k : Int)] w fun e w' => e = .returned (.int .i64 (clr (bl s) k : Nat)) ∧ w' = w := by
  obtain ⟨n, hn⟩ : ∃ n, nsz ((bl s).drop (k + 1)) = n := ⟨_, rfl⟩
  have hle := nsz_le ((bl s).drop (k + 1))
  rw [hn, List.length_drop, bl_len] at hle
  have hc := clr_eq hn
  have HC : Hid (clr (bl s) k = if n = 0 then 0 else if (bl s)[k + 1 + n]? = some 59 then k + 1 + n + 1 else 0) := hc
  clear hc
  have hcall : ∀ w0, Calls Tryz.prog 268 #[.string (s.extract (k + 1) s.size)] w0 fun e w' => e = .returned (.int .i64 (n : Int)) ∧ w' = w0 := fun w0 => by
    have h := nameSize_any (s.extract (k + 1) s.size) w0 (by rw [← bl_len, bl_from, List.length_drop, bl_len]; omega)
    rw [bl_from, hn] at h
    exact h
  have ht : ((k : Int) + 1).toNat = k + 1 := by omega
  clear hn
  go_enter Tryz.func262, Tryz.ntmps262
  go_wp2_with fail
  refine (hcall _).mono ?_
  rintro e w2 ⟨rfl, hw2⟩
  have hw2 := hw2.symm
  subst hw2
  by_cases h0 : n = 0
  · subst h0
    have hr : 0 = clr (bl s) k := by rw [HC.out]; rfl
    have HR : Hid (0 = clr (bl s) k) := hr
    clear hr HC
    go_wp2
    go_ret
    exact ⟨congrArg (fun (x : Nat) => Ending.returned (.int .i64 x)) (HR.out), rfl⟩
  · have h0' : ((n : Int) == 0) = false := by simp; omega
    by_cases hend : k + 1 + n = s.size
    · have h1 : (((k : Int) + 1 + n) == (s.size : Int)) = true := by simp; omega
      have hno : (bl s)[k + 1 + n]? = none := List.getElem?_eq_none (by rw [bl_len]; omega)
      have hr : 0 = clr (bl s) k := by rw [HC.out, hno, if_neg h0]; rfl
      have HR : Hid (0 = clr (bl s) k) := hr
      clear hr HC hno
      go_wp2
      go_ret
      exact ⟨congrArg (fun (x : Nat) => Ending.returned (.int .i64 x)) (HR.out), rfl⟩
    · have h1 : (((k : Int) + 1 + n) == (s.size : Int)) = false := by simp; omega
      have hlt : k + 1 + n < s.size := by omega
      have hg := bl_get s (k + 1 + n) hlt
      have ht2 : ((k : Int) + 1 + n).toNat = k + 1 + n := by omega
      have hi0 : 0 ≤ (k : Int) + 1 + n ∧ (k : Int) + 1 + n < s.size := by omega
      by_cases hb : ((s[k + 1 + n].toNat : Int) == 59) = true
      · have hb2 : ((s[k + 1 + n].toNat : Int) != 59) = false := by rw [bne, hb]; rfl
        have hr : k + 1 + n + 1 = clr (bl s) k := by rw [HC.out, hg, byte_eq (n := 59) hb, if_neg h0, if_pos rfl]
        have HR : Hid (k + 1 + n + 1 = clr (bl s) k) := hr
        clear hr HC hg
        go_wp2
        go_ret
        exact ⟨congrArg (fun (x : Nat) => Ending.returned (.int .i64 x)) (HR.out), rfl⟩
      · have hb' : ((s[k + 1 + n].toNat : Int) == 59) = false := by simpa using hb
        have hb2 : ((s[k + 1 + n].toNat : Int) != 59) = true := by rw [bne, hb']; rfl
        have hr : 0 = clr (bl s) k := by rw [HC.out, hg, if_neg h0, if_neg (fun h => byte_ne (n := 59) hb' (by simpa using h))]
        have HR : Hid (0 = clr (bl s) k) := hr
        clear hr HC hg hb
        go_wp2
        go_ret
        exact ⟨congrArg (fun (x : Nat) => Ending.returned (.int .i64 x)) (HR.out), rfl⟩

set_option maxHeartbeats 4000000 in
theorem typeSize_any (s : ByteArray) (w : World) (hs : s.size ≤ 100000) : Calls Tryz.prog 188 #[.string s] w fun e w' => e = .returned (.int .i64 (tyn (bl s) 0 : Nat)) ∧ w' = w := by
  go_enter Tryz.func188, Tryz.ntmps188
  go_wp2_with fail
  refine wp_scope_jumps 0 (fun a' w' => w' = w ∧ ∃ (k : Nat) (u4 u5 u6 u7 u8 u9 u10 u11 u12 u13 u14 u15 u16 u17 u18 u19 u20 u21 u22 u23 u24 u25 u26 u27 u28 : Value), a' = { tmps := #[.string s, undef, .int .i64 0, .int .i64 (k : Int), u4, u5, u6, u7, u8, u9, u10, u11, u12, u13, u14, u15, u16, u17, u18, u19, u20, u21, u22, u23, u24, u25, u26, u27, u28], defers := [] } ∧ k ≤ 5 ∧ k ≤ s.size ∧ tyn (bl s) 0 = tyr (bl s) k) (fun a' _ => 5 - (intOf (a'.tmps.getD 3 undef)).toNat) rfl ?_ ?_
  · have hs0 : tyn (bl s) 0 = tyr (bl s) 0 := (tyr_zero _).symm
    by_cases hlt : 0 < s.size
    · have hg := bl_get s 0 hlt
      have h4 : 0 ≤ 4 := by omega
      have hq : (((0 : Nat) : Int) == (s.size : Int)) = false := by simp; omega
      by_cases c73 : ((s[0].toNat : Int) == 73) = true
      · have hr := tyr_one (l := bl s) hg h4 (Or.inl (byte_eq (n := 73) c73))
        rw [← hs0] at hr
        have HR : Hid (0 + 1 = tyn (bl s) 0) := hr.symm
        clear hr hs0 hg
        go_wp2_with fail
        go_step3
        go_wp2_with fail
        simp only [Exit.jump]
        go_ret
        exact ⟨congrArg (fun (x : Nat) => Ending.returned (.int .i64 x)) (HR.out), rfl⟩
      have n73 : ((s[0].toNat : Int) == 73) = false := by simpa using c73
      have m73 := byte_ne (n := 73) n73
      clear c73
      by_cases c67 : ((s[0].toNat : Int) == 67) = true
      · have hr := tyr_one (l := bl s) hg h4 (Or.inr (byte_eq (n := 67) c67))
        rw [← hs0] at hr
        have HR : Hid (0 + 1 = tyn (bl s) 0) := hr.symm
        clear hr hs0 hg
        go_wp2_with fail
        go_step3
        go_wp2_with fail
        simp only [Exit.jump]
        go_ret
        exact ⟨congrArg (fun (x : Nat) => Ending.returned (.int .i64 x)) (HR.out), rfl⟩
      have n67 : ((s[0].toNat : Int) == 67) = false := by simpa using c67
      have m67 := byte_ne (n := 67) n67
      clear c67
      by_cases c76 : ((s[0].toNat : Int) == 76) = true
      · have hg2 := hg
        rw [byte_eq (n := 76) c76] at hg2
        have hr := tyr_cls (l := bl s) hg2 h4
        rw [← hs0] at hr
        have HR : Hid (clr (bl s) 0 = tyn (bl s) 0) := hr.symm
        clear hr hs0 hg hg2 m73 m67
        go_wp2_with fail
        go_step3
        go_wp2_with fail
        refine (classSize_any s 0 _ hs hlt).mono ?_
        rintro e w2 ⟨rfl, hw2⟩
        have hw2 := hw2.symm
        subst hw2
        go_wp2
        simp only [Exit.jump]
        go_ret
        exact ⟨congrArg (fun (x : Nat) => Ending.returned (.int .i64 x)) (HR.out), rfl⟩
      have n76 : ((s[0].toNat : Int) == 76) = false := by simpa using c76
      have m76 := byte_ne (n := 76) n76
      clear c76
      by_cases c91 : ((s[0].toNat : Int) == 91) = true
      · have hg2 := hg
        rw [byte_eq (n := 91) c91] at hg2
        have hr := hs0.trans (tyr_arr (l := bl s) hg2 h4)
        clear hs0 hg hg2 m73 m67 m76
        go_wp2_with fail
        go_step3
        go_wp2_with fail
        go_step3
        refine ⟨rfl, rfl, ⟨0 + 1, _, _, _, _, _, _, _, _, _, _, _, _, _, _, _, _, _, _, _, _, _, _, _, _, _, rfl, by omega, by omega, hr⟩⟩
      have n91 : ((s[0].toNat : Int) == 91) = false := by simpa using c91
      have m91 := byte_ne (n := 91) n91
      clear c91
      have hr := tyr_no (l := bl s) hg h4 m73 m67 m76 m91
      rw [← hs0] at hr
      have HR : Hid (0 = tyn (bl s) 0) := hr.symm
      clear hr hs0 hg m73 m67 m76 m91
      go_wp2_with fail
      go_step3
      go_wp2_with fail
      simp only [Exit.jump]
      go_ret
      exact ⟨congrArg (fun (x : Nat) => Ending.returned (.int .i64 x)) (HR.out), rfl⟩
    · have hr := tyr_end (l := bl s) (k := 0) (by rw [bl_len]; omega)
      rw [← hs0] at hr
      have HR : Hid (0 = tyn (bl s) 0) := hr.symm
      have hsz : s.size = 0 := by omega
      clear hr hs0 hlt
      have hq : (((0 : Nat) : Int) == (s.size : Int)) = true := by simp; omega
      go_wp2_with fail
      go_step3
      go_wp2_with fail
      simp only [Exit.jump]
      go_ret
      exact ⟨congrArg (fun (x : Nat) => Ending.returned (.int .i64 x)) (HR.out), rfl⟩

  · rintro a' w' ⟨rfl, k, u4, u5, u6, u7, u8, u9, u10, u11, u12, u13, u14, u15, u16, u17, u18, u19, u20, u21, u22, u23, u24, u25, u26, u27, u28, rfl, hk5, hks, hs0⟩
    by_cases hlt : k < s.size
    · have hg := bl_get s k hlt
      by_cases h4n : 4 < k
      · have hr := tyr_deep (l := bl s) h4n
        have h4d : decide (4 < (k : Int)) = true := by simp; omega
        have hq : ((k : Int) == (s.size : Int)) = false := by simp; omega
        rw [← hs0] at hr
        have HR : Hid (0 = tyn (bl s) 0) := hr.symm
        clear hr hs0 hg
        go_wp2_with fail
        simp only [Exit.jump]
        go_ret
        exact ⟨congrArg (fun (x : Nat) => Ending.returned (.int .i64 x)) (HR.out), rfl⟩
      · have h4 : k ≤ 4 := by omega
        have h4d : decide (4 < (k : Int)) = false := by simp; omega
        have hq : ((k : Int) == (s.size : Int)) = false := by simp; omega
        clear h4n
        by_cases c73 : ((s[k].toNat : Int) == 73) = true
        · have hr := tyr_one (l := bl s) hg h4 (Or.inl (byte_eq (n := 73) c73))
          rw [← hs0] at hr
          have HR : Hid (k + 1 = tyn (bl s) 0) := hr.symm
          clear hr hs0 hg
          go_wp2_with fail
          simp only [Exit.jump]
          go_ret
          exact ⟨congrArg (fun (x : Nat) => Ending.returned (.int .i64 x)) (HR.out), rfl⟩
        have n73 : ((s[k].toNat : Int) == 73) = false := by simpa using c73
        have m73 := byte_ne (n := 73) n73
        clear c73
        by_cases c67 : ((s[k].toNat : Int) == 67) = true
        · have hr := tyr_one (l := bl s) hg h4 (Or.inr (byte_eq (n := 67) c67))
          rw [← hs0] at hr
          have HR : Hid (k + 1 = tyn (bl s) 0) := hr.symm
          clear hr hs0 hg
          go_wp2_with fail
          simp only [Exit.jump]
          go_ret
          exact ⟨congrArg (fun (x : Nat) => Ending.returned (.int .i64 x)) (HR.out), rfl⟩
        have n67 : ((s[k].toNat : Int) == 67) = false := by simpa using c67
        have m67 := byte_ne (n := 67) n67
        clear c67
        by_cases c76 : ((s[k].toNat : Int) == 76) = true
        · have hg2 := hg
          rw [byte_eq (n := 76) c76] at hg2
          have hr := tyr_cls (l := bl s) hg2 h4
          rw [← hs0] at hr
          have HR : Hid (clr (bl s) k = tyn (bl s) 0) := hr.symm
          clear hr hs0 hg hg2 m73 m67
          go_wp2_with fail
          refine (classSize_any s k _ hs hlt).mono ?_
          rintro e w2 ⟨rfl, hw2⟩
          have hw2 := hw2.symm
          subst hw2
          go_wp2
          simp only [Exit.jump]
          go_ret
          exact ⟨congrArg (fun (x : Nat) => Ending.returned (.int .i64 x)) (HR.out), rfl⟩
        have n76 : ((s[k].toNat : Int) == 76) = false := by simpa using c76
        have m76 := byte_ne (n := 76) n76
        clear c76
        by_cases c91 : ((s[k].toNat : Int) == 91) = true
        · have hg2 := hg
          rw [byte_eq (n := 91) c91] at hg2
          have hr := hs0.trans (tyr_arr (l := bl s) hg2 h4)
          clear hs0 hg hg2 m73 m67 m76
          go_wp2_with fail
          go_step3
          refine ⟨rfl, ⟨rfl, ⟨k + 1, _, _, _, _, _, _, _, _, _, _, _, _, _, _, _, _, _, _, _, _, _, _, _, _, _, rfl, by omega, by omega, hr⟩⟩, by simp [intOf]; omega⟩
        have n91 : ((s[k].toNat : Int) == 91) = false := by simpa using c91
        have m91 := byte_ne (n := 91) n91
        clear c91
        have hr := tyr_no (l := bl s) hg h4 m73 m67 m76 m91
        rw [← hs0] at hr
        have HR : Hid (0 = tyn (bl s) 0) := hr.symm
        clear hr hs0 hg m73 m67 m76 m91
        go_wp2_with fail
        simp only [Exit.jump]
        go_ret
        exact ⟨congrArg (fun (x : Nat) => Ending.returned (.int .i64 x)) (HR.out), rfl⟩
    · have hr := tyr_end (l := bl s) (k := k) (by rw [bl_len]; omega)
      rw [← hs0] at hr
      have HR : Hid (0 = tyn (bl s) 0) := hr.symm
      have hsz : s.size = k := by omega
      clear hr hs0 hlt
      have hq : ((k : Int) == (s.size : Int)) = true := by simp; omega
      go_wp2_with fail
      simp only [Exit.jump]
      go_ret
      exact ⟨congrArg (fun (x : Nat) => Ending.returned (.int .i64 x)) (HR.out), rfl⟩

end Go.Proofs.YthmepecmeambmaaGreat
namespace Go.Proofs.YthmepecmeambmaaGreat
open Go.RowKit
set_option linter.unusedVariables false

theorem front_deep {l : List UInt8} (h : 4 < lb l) : tyn l 0 = 0 := by rw [tyn_front, if_pos h]
theorem front_end {l : List UInt8} (h : l.length ≤ lb l) : tyn l 0 = 0 := by
  rw [tyn_front, List.getElem?_eq_none h]; simp
theorem front_at {l : List UInt8} {c : UInt8} (h4 : ¬ 4 < lb l) (h : l[lb l]? = some c) : tyn l 0 = if c = 73 ∨ c = 67 then lb l + 1 else if c = 76 then clr l (lb l) else 0 := by
  rw [tyn_front, if_neg h4, h]; rfl
theorem clr_sc {l : List UInt8} {k : Nat} (hk : k < l.length) : clr l k = if k + 1 + sc (l.drop (k + 1)) = l.length then 0 else if isName ((l.drop (k + 1)).take (sc (l.drop (k + 1)))) then k + 1 + sc (l.drop (k + 1)) + 1 else 0 := by
  unfold clr
  rw [cls_sc, List.length_drop]
  repeat' split
  all_goals first | omega | simp_all

theorem sc_go {l : List UInt8} {k j : Nat} {c : UInt8} (h : sc (l.drop k) = j + sc (l.drop (k + j))) (hg : l[k + j]? = some c) (hc : ¬ c = 59) : sc (l.drop k) = (j + 1) + sc (l.drop (k + (j + 1))) := by
  rw [h, sc_step hg, if_neg hc]; rw [Nat.add_assoc k j 1]; omega
theorem sc_hit {l : List UInt8} {k j : Nat} (h : sc (l.drop k) = j + sc (l.drop (k + j))) (hg : l[k + j]? = some 59) : sc (l.drop k) = j := by
  rw [h, sc_step hg, if_pos rfl]; rfl
theorem sc_out {l : List UInt8} {k j : Nat} (h : sc (l.drop k) = j + sc (l.drop (k + j))) (hg : l.length ≤ k + j) : sc (l.drop k) = j := by
  rw [h, List.drop_eq_nil_of_le hg]; rfl
theorem lb_go {l : List UInt8} {k : Nat} (h : lb l = k + lb (l.drop k)) (hg : l[k]? = some 91) : lb l = (k + 1) + lb (l.drop (k + 1)) := by
  rw [h, lb_step hg, if_pos rfl]; omega
theorem lb_hit {l : List UInt8} {k : Nat} {c : UInt8} (h : lb l = k + lb (l.drop k)) (hg : l[k]? = some c) (hc : ¬ c = 91) : lb l = k := by
  rw [h, lb_step hg, if_neg hc]; rfl
theorem lb_out {l : List UInt8} {k : Nat} (h : lb l = k + lb (l.drop k)) (hg : l.length ≤ k) : lb l = k := by
  rw [h, List.drop_eq_nil_of_le hg]; rfl

theorem type_any (s : ByteArray) (w : World) (hs : s.size ≤ 100000) : Calls Tryz.prog 119 #[.string s] w fun e w' => e = .returned (.bool (isType (bl s))) ∧ w' = w := by
  go_enter Tryz.func119, Tryz.ntmps119
  go_wp2_with (go_at_call 188; refine (typeSize_any _ _ hs).mono ?_; rintro e w2 ⟨rfl, hw2⟩; have hw2 := hw2.symm; subst hw2)
  all_goals
    go_ret
    refine ⟨congrArg (fun b => Ending.returned (.bool b)) ?_, rfl⟩
    unfold isType
    simp only [bl_toList] at *
  · simp_all
  · rw [beq_nil, nat_beq, bl_len]
def isRef (l : List UInt8) : Bool := isType l && !(l == [73]) && !(l == [67])
theorem zero_of_head {s : ByteArray} {c : UInt8} {r : List UInt8} (h : bl s = c :: r) : ∃ h : 0 < s.size, s[0] = c := by
  have h0 : 0 < s.size := by rw [← bl_len, h]; simp
  have := bl_get s 0 h0
  rw [h] at this
  exact ⟨h0, by simpa using this.symm⟩
theorem isRef_I : isRef [73] = false := by decide
theorem isRef_C : isRef [67] = false := by decide
theorem isRef_L {r : List UInt8} (h : isType (76 :: r) = true) : isRef (76 :: r) = true := by unfold isRef; rw [h]; simp
theorem isRef_A {r : List UInt8} (h : isType (91 :: r) = true) : isRef (91 :: r) = true := by unfold isRef; rw [h]; simp
set_option maxHeartbeats 1000000 in
theorem ref_any (s : ByteArray) (w : World) (hs : s.size ≤ 100000) : Calls Tryz.prog 189 #[.string s] w fun e w' => e = .returned (.bool (isRef (bl s))) ∧ w' = w := by
  obtain ⟨b, hb⟩ : ∃ b, isType (bl s) = b := ⟨_, rfl⟩
  have hcall : ∀ w0, Calls Tryz.prog 119 #[.string s] w0 fun e w' => e = .returned (.bool b) ∧ w' = w0 := fun w0 => by
    have h := type_any s w0 hs; rw [hb] at h; exact h
  cases b
  · have HR : Hid (false = isRef (bl s)) := by show _ = _; unfold isRef; rw [hb]; rfl
    clear hb
    go_enter Tryz.func189, Tryz.ntmps189
    go_wp2_with (go_at_call 119; refine (hcall _).mono ?_; rintro e w2 ⟨rfl, hw2⟩; have hw2 := hw2.symm; subst hw2)
    go_ret
    exact ⟨congrArg (fun b => Ending.returned (.bool b)) HR.out, rfl⟩
  · obtain ⟨c, hc, hR⟩ : ∃ (c : Int) (h : 0 < s.size), (s[0].toNat : Int) = c ∧ (c == 76 || c == 91) = isRef (bl s) := by
      rcases isType_head hb with h | h | ⟨r, h⟩ | ⟨r, h⟩
      · obtain ⟨h0, h1⟩ := zero_of_head h
        exact ⟨73, h0, by rw [h1]; rfl, by rw [h, isRef_I]; rfl⟩
      · obtain ⟨h0, h1⟩ := zero_of_head h
        exact ⟨67, h0, by rw [h1]; rfl, by rw [h, isRef_C]; rfl⟩
      · obtain ⟨h0, h1⟩ := zero_of_head h
        rw [h] at hb
        exact ⟨76, h0, by rw [h1]; rfl, by rw [h, isRef_L hb]; rfl⟩
      · obtain ⟨h0, h1⟩ := zero_of_head h
        rw [h] at hb
        exact ⟨91, h0, by rw [h1]; rfl, by rw [h, isRef_A hb]; rfl⟩
    obtain ⟨h1, h2⟩ := hR
    have HR : Hid ((c == 76 || c == 91) = isRef (bl s)) := h2
    clear hb h2
    go_enter Tryz.func189, Tryz.ntmps189
    go_wp2_with (go_at_call 119; refine (hcall _).mono ?_; rintro e w2 ⟨rfl, hw2⟩; have hw2 := hw2.symm; subst hw2)
    all_goals
      go_ret
      refine ⟨congrArg (fun b => Ending.returned (.bool b)) ?_, rfl⟩
      rw [← HR.out]
      try simp_all
end Go.Proofs.YthmepecmeambmaaGreat
namespace Go.Proofs.YthmepecmeambmaaGreat
open Go.RowKit
set_option linter.unusedVariables false

/-- Of what was there nothing has turned. -/
structure Ch (w w' : World) : Prop where
  os : w'.os = w.os
  tape : w'.tape = w.tape
  output : w'.output = w.output
  size : w.heap.size ≤ w'.heap.size
  block : ∀ k, k < w.heap.size → w'.heap[k]? = w.heap[k]?

theorem Ch.refl (w : World) : Ch w w := ⟨rfl, rfl, rfl, Nat.le_refl _, fun _ _ => rfl⟩
theorem Ch.trans {a b c : World} (h : Ch a b) (k : Ch b c) : Ch a c :=
  ⟨k.os.trans h.os, k.tape.trans h.tape, k.output.trans h.output, Nat.le_trans h.size k.size, fun i hi => (k.block i (Nat.lt_of_lt_of_le hi h.size)).trans (h.block i hi)⟩
theorem Ch.drewN {a b : World} (h : Ch a b) (n : Nat) : Ch a (b.drewN n) := ⟨h.os, h.tape, h.output, h.size, h.block⟩
theorem Ch.alloc {a b : World} (h : Ch a b) (o : Obj) : Ch a (b.alloc o) := by
  refine ⟨h.os, h.tape, h.output, ?_, fun k hk => ?_⟩
  · have := h.size; simp; omega
  · rw [Below.heap_alloc _ _ _ (Nat.lt_of_lt_of_le hk h.size)]
    exact h.block k hk
theorem Ch.grown {a b c : World} {row : Option Nat} (h : Ch a b) (hg : b.grownBy c row) (hr : ∀ k, row = some k → a.heap.size ≤ k) : Ch a c :=
  ⟨hg.os.trans h.os, hg.tape.trans h.tape, hg.output.trans h.output, Nat.le_trans h.size hg.size, fun k hk => (hg.block k (Nat.lt_of_lt_of_le hk h.size) (fun e => by have := hr k e.symm; omega)).trans (h.block k hk)⟩
theorem Ch.below {a b : World} (h : Ch a b) : Below a.heap.size a b :=
  ⟨h.os, h.tape, h.output, h.size, fun k hk => h.block k (by omega)⟩
theorem Ch.of_below {a b : World} (h : Below a.heap.size a b) : Ch a b := ⟨h.os, h.tape, h.output, h.size, fun k hk => h.block k hk⟩

theorem ownsRow_same {w w' : World} {base : Nat} {e : TypeId} {size : Nat} {v : Value} {n : Nat} {xs : List Value} (h : w.ownsRow base e size v n xs)
    (hb : ∀ g, v.ownBlock = some g → w'.heap[g]? = w.heap[g]?) : w'.ownsRow base e size v n xs := by
  obtain ⟨h1, h2⟩ := h
  refine ⟨h1, ?_⟩
  rcases h2 with h2 | ⟨g, cap, cur, hv, hg, hh, r⟩
  · exact Or.inl h2
  · exact Or.inr ⟨g, cap, cur, hv, hg, by rw [hb g (by rw [hv]; rfl)]; exact hh, r⟩
theorem ownsRow_keep {w w' : World} {base : Nat} {e : TypeId} {size : Nat} {v : Value} {n : Nat} {xs : List Value} (h : w.ownsRow base e size v n xs) (c : Ch w w') : w'.ownsRow base e size v n xs :=
  ownsRow_same h (fun g hg => c.block g (h.lt g hg).2)
theorem ownsRow_base {w : World} {b b' : Nat} {e : TypeId} {size : Nat} {v : Value} {n : Nat} {xs : List Value} (h : w.ownsRow b e size v n xs) (hb : b' ≤ b) : w.ownsRow b' e size v n xs := by
  obtain ⟨h1, h2⟩ := h
  refine ⟨h1, ?_⟩
  rcases h2 with h2 | ⟨g, cap, cur, hv, hg, r⟩
  · exact Or.inl h2
  · exact Or.inr ⟨g, cap, cur, hv, Nat.le_trans hb hg, r⟩
theorem own_form {w : World} {base : Nat} {e : TypeId} {size : Nat} {v : Value} {n : Nat} {xs : List Value} (h : w.ownsRow base e size v n xs) : ∃ ao c, v = .slice ao n c := by
  rcases h.2 with ⟨hv, h0⟩ | ⟨g, cap, cur, hv, _⟩
  · exact ⟨none, 0, by rw [hv, h0]⟩
  · exact ⟨_, _, hv⟩

/-- Bytes as a text. -/
def ms (l : List UInt8) : ByteArray := ⟨l.toArray⟩
theorem ms_bl (s : ByteArray) : ms (bl s) = s := mk_bl s
theorem bl_ms (l : List UInt8) : bl (ms l) = l := rfl
theorem ms_size (l : List UInt8) : (ms l).size = l.length := by rw [← bl_len, bl_ms]
theorem eq_ms {s : ByteArray} {l : List UInt8} (h : bl s = l) : s = ms l := by rw [← h, ms_bl]

theorem Tryz.info5 : (Tryz.prog.info? 5).map (fun i => (i.zero, i.size, i.bytes)) = some (some (.int .u8 0), 1, 1) := by kernel_rfl
theorem Tryz.info9 : (Tryz.prog.info? 9).map (fun i => (i.zero, i.size, i.bytes)) = some (some (.string ⟨#[]⟩), 1, 16) := by kernel_rfl

set_option maxHeartbeats 4000000 in
set_option maxRecDepth 100000 in
theorem lclone_any (s : ByteArray) (w : World) (hlim : s.size ≤ 100000) : Calls Tryz.prog 149 #[.string s] w fun e w' => e = .returned (.string s) ∧ Ch w w' := by
  by_cases h0 : s.size = 0
  · have hs : s = ⟨#[]⟩ := by
      apply ByteArray.ext
      exact Array.eq_empty_of_size_eq_zero h0
    subst hs
    go_enter Tryz.func149, Tryz.ntmps149
    go_wp2
    go_ret
    exact ⟨rfl, Ch.refl _⟩
  · obtain ⟨i0, hi, hz0, hz1, hz2⟩ := info_parts Tryz.info5
    have hinfo : (Tryz.prog.info? 5).map (·.size) = some 1 := by rw [hi]; simp [hz1]
    have hco : Tryz.prog.cellsOf 5 = 1 := by simp [Program.cellsOf, hi, hz1]
    obtain ⟨M, hM⟩ : ∃ M, M = madeCells (Value.int .u8 0).cells (((s.size : Nat) : Int).toNat * i0.size) := ⟨_, rfl⟩
    have hMs : M.size = s.size := by rw [hM, size_madeCells, hz1]; simp
    have hmk : ∀ W : World, (Instr.makeSlice 46 (.int .i64 (s.size : Int)) (.int .i64 (s.size : Int))).run Tryz.prog W = .ok (.slice (some ⟨W.heap.size, 0, none⟩) s.size s.size) (W.alloc (.cells M 5)) := fun W => by
      have h := run_make (P := Tryz.prog) W 46 5 i0 (.int .u8 0) Tryz.underlying46 hi hz0 .i64 .i64 (s.size : Int) (s.size : Int) (by omega) (by omega) (by rw [hz2]; omega) (by omega)
      rw [← hM] at h
      simpa using h
    clear hM
    have hcp := Lib.run_copy_row_string (P := Tryz.prog) (w.alloc (.cells M 5)) 46 9 3 5 w.heap.size 0 s.size s.size s M 5 Tryz.underlying46 hinfo (heap_alloc_new w _) (Nat.le_refl _) (by omega)
    obtain ⟨Y, hY⟩ : ∃ Y, Y = (M.toList.take 0 ++ Lib.byteCells s.data.toList ++ M.toList.drop (0 + s.size)).toArray := ⟨_, rfl⟩
    rw [← hY] at hcp
    have hYl : Y.toList = Lib.byteCells s.data.toList := by
      rw [hY, List.toList_toArray, List.take_zero, List.nil_append, List.drop_of_length_le (by rw [Array.length_toList]; omega), List.append_nil]
    have hYs : Y.size = s.size := by rw [← Array.length_toList, hYl, Lib.byteCells_length, ← Lib.size_eq]
    have hgY : ((w.alloc (.cells M 5)).setRow w.heap.size Y).heap[w.heap.size]? = some (.cells Y 5 (0, 0)) := setRow_heap _ _ M _ 5 (0, 0) (heap_alloc_new w _)
    have hne : s.data.toList ≠ [] := fun e => h0 (by rw [Lib.size_eq, e]; rfl)
    have hUS := Lib.run_unsafeString_row (P := Tryz.prog) ((w.alloc (.cells M 5)).setRow w.heap.size Y) 222 3 9 5 Tryz.underlying222 hco w.heap.size Y.size (by unfold World.shape?; rw [hgY]) s.data.toList hne (by rw [← Lib.size_eq]; omega) (by rw [← Lib.size_eq]; omega)
      (fun j x hx => Lib.cells_of_row hgY Y.size j _ (by rw [List.take_of_length_le (by rw [Array.length_toList]; exact Nat.le_refl _), hYl]; simp [Lib.byteCells, hx]))
    rw [← Lib.size_eq] at hUS
    clear hY
    go_enter Tryz.func149, Tryz.ntmps149
    go_wp2
    go_ret
    have hb1 : Below w.heap.size w (w.alloc (.cells M 5)) := (Below.refl _ w).alloc (Nat.le_refl _) _
    have hb2 : Below w.heap.size (w.alloc (.cells M 5)) ((w.alloc (.cells M 5)).setRow w.heap.size Y) := ⟨rfl, rfl, rfl, by simp, fun k hk => setRow_other _ _ _ _ (by omega)⟩
    exact ⟨rfl, Ch.of_below (Lib.below_freeze (hb1.trans hb2) (p := ⟨w.heap.size, 0, none⟩) (Nat.le_refl _) _)⟩

theorem clone_any (s : ByteArray) (w : World) (hlim : s.size ≤ 100000) : Calls Tryz.prog 79 #[.string s] w fun e w' => e = .returned (.string s) ∧ Ch w w' := by
  go_enter Tryz.func79, Tryz.ntmps79
  go_wp2_with fail
  refine (lclone_any s w hlim).mono ?_
  rintro e w2 ⟨rfl, hc⟩
  go_wp2
  go_ret
  exact ⟨rfl, hc⟩

/-- Does it begin so? -/
def hd (c : UInt8) : List UInt8 → Bool
  | [] => false
  | x :: _ => x == c
theorem hd_yes {c : UInt8} {l : List UInt8} (h : hd c l = true) : ∃ r, l = c :: r := by
  cases l with
  | nil => cases h
  | cons x r => exact ⟨r, by simp [hd] at h; rw [h]⟩
theorem first_one (s : ByteArray) (c : UInt8) (h : 0 < s.size) : ((s.extract 0 1).toList == [c]) = hd c (bl s) := by
  rw [bl_toList, bl_to]
  cases hb : bl s with
  | nil => have := bl_len s; rw [hb] at this; simp at this; omega
  | cons x r => simp [hd]
theorem hd_none (c : UInt8) (s : ByteArray) (h : ¬ 0 < s.size) : hd c (bl s) = false := by
  have := bl_len s
  rw [List.eq_nil_of_length_eq_zero (l := bl s) (by omega)]; rfl

theorem hasPrefix_any (c : UInt8) (s : ByteArray) (w : World) (hs : s.size ≤ 100000) : Calls Tryz.prog 193 #[.string s, .string ⟨#[c]⟩] w fun e w' => e = .returned (.bool (hd c (bl s))) ∧ w' = w := by
  by_cases h0 : 0 < s.size
  · have h1 := first_one s c h0
    go_enter Tryz.func193, Tryz.ntmps193
    go_wp2
    go_ret
    exact ⟨rfl, rfl⟩
  · have h1 := hd_none c s h0
    go_enter Tryz.func193, Tryz.ntmps193
    go_wp2
    go_ret
    exact ⟨rfl, rfl⟩

theorem cutPrefix_any (c : UInt8) (s : ByteArray) (w : World) (hs : s.size ≤ 100000) : Calls Tryz.prog 269 #[.string s, .string ⟨#[c]⟩] w fun e w' => e = .returned (.tuple #[.string (if hd c (bl s) then s.extract 1 s.size else s), .bool (hd c (bl s))]) ∧ w' = w := by
  obtain ⟨b, hb⟩ : ∃ b, hd c (bl s) = b := ⟨_, rfl⟩
  rw [hb]
  by_cases h0 : 0 < s.size
  · have h1 := first_one s c h0
    rw [hb] at h1
    clear hb
    cases b
    · go_enter Tryz.func269, Tryz.ntmps269
      go_wp2
      go_ret2
      exact ⟨rfl, rfl⟩
    · go_enter Tryz.func269, Tryz.ntmps269
      go_wp2
      go_ret2
      exact ⟨rfl, rfl⟩
  · have h1 := hd_none c s h0
    rw [hb] at h1
    subst h1
    clear hb
    go_enter Tryz.func269, Tryz.ntmps269
    go_wp2
    go_ret2
    exact ⟨rfl, rfl⟩

end Go.Proofs.YthmepecmeambmaaGreat
