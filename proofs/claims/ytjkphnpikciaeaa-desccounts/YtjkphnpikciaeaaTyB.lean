/- The contracts of the document's reader of a type, and of what is told of types. -/
import Derived.Test.YtjkphnpikciaeaaTy
namespace Go.Proofs.Ytjkphnpikciaeaa
open Go.RowKit
set_option linter.unusedVariables false

theorem front_deep {l : List UInt8} (h : 4 < lb l) : tyn l 0 = 0 := by rw [tyn_front, if_pos h]
theorem front_end {l : List UInt8} (h : l.length ≤ lb l) : tyn l 0 = 0 := by
  rw [tyn_front, List.getElem?_eq_none h]; simp
theorem front_at {l : List UInt8} {c : UInt8} (h4 : ¬ 4 < lb l) (h : l[lb l]? = some c) : tyn l 0 = if c = 73 ∨ c = 67 then lb l + 1 else if c = 76 then clr l (lb l) else 0 := by
  rw [tyn_front, if_neg h4, h]; rfl
theorem clr_sc {l : List UInt8} {k : Nat} (hk : k < l.length) : clr l k = if k + 1 + sc (l.drop (k + 1)) = l.length then 0 else if isName ((l.drop (k + 1)).take (sc (l.drop (k + 1)))) then k + 1 + sc (l.drop (k + 1)) + 1 else 0 := by
  unfold clr
  rw [cls_sc, List.length_drop]
  repeat' split
  all_goals first | omega | simp_all

theorem sc_go {l : List UInt8} {k j : Nat} {c : UInt8} (h : sc (l.drop k) = j + sc (l.drop (k + j))) (hg : l[k + j]? = some c) (hc : ¬ c = 59) : sc (l.drop k) = (j + 1) + sc (l.drop (k + (j + 1))) := by
  rw [h, sc_step hg, if_neg hc]; rw [Nat.add_assoc k j 1]; omega
theorem sc_hit {l : List UInt8} {k j : Nat} (h : sc (l.drop k) = j + sc (l.drop (k + j))) (hg : l[k + j]? = some 59) : sc (l.drop k) = j := by
  rw [h, sc_step hg, if_pos rfl]; rfl
theorem sc_out {l : List UInt8} {k j : Nat} (h : sc (l.drop k) = j + sc (l.drop (k + j))) (hg : l.length ≤ k + j) : sc (l.drop k) = j := by
  rw [h, List.drop_eq_nil_of_le hg]; rfl
theorem lb_go {l : List UInt8} {k : Nat} (h : lb l = k + lb (l.drop k)) (hg : l[k]? = some 91) : lb l = (k + 1) + lb (l.drop (k + 1)) := by
  rw [h, lb_step hg, if_pos rfl]; omega
theorem lb_hit {l : List UInt8} {k : Nat} {c : UInt8} (h : lb l = k + lb (l.drop k)) (hg : l[k]? = some c) (hc : ¬ c = 91) : lb l = k := by
  rw [h, lb_step hg, if_neg hc]; rfl
theorem lb_out {l : List UInt8} {k : Nat} (h : lb l = k + lb (l.drop k)) (hg : l.length ≤ k) : lb l = k := by
  rw [h, List.drop_eq_nil_of_le hg]; rfl

set_option maxHeartbeats 4000000 in
theorem front_any (s : ByteArray) (w : World) (hs : s.size ≤ 1000) : Calls Try.prog 38 #[.string s] w fun e w' => e = .returned (.int .i64 (tyn (bl s) 0 : Nat)) ∧ w' = w := by
  go_enter Try.func38, Try.ntmps38
  go_wp2
  go_loop [3] (fun i => ∃ k : Nat, k ≤ s.size ∧ i = .int .i64 k ∧ lb (bl s) = k + lb ((bl s).drop k)) (fun i => s.size - (intOf i).toNat)
  case atStart => exact ⟨0, by omega, rfl, by simp⟩
  case round =>
    obtain ⟨k, hk, rfl, hl⟩ := hrel
    by_cases hlt : k < s.size
    · have hg := bl_get s k hlt
      have hq : ((k : Int) == (s.size : Int)) = false := by simp; omega
      by_cases c91 : ((s[k].toNat : Int) == 91) = true
      · have hg2 := hg
        rw [byte_eq (n := 91) c91] at hg2
        have hl2 := lb_go hl hg2
        clear hl hg hg2
        go_wp2
        exact ⟨⟨k + 1, by omega, rfl, hl2⟩, by simp [intOf]; omega⟩
      · have n91 : ((s[k].toNat : Int) == 91) = false := by simpa using c91
        have hl2 := lb_hit hl hg (byte_ne (n := 91) n91)
        clear hl c91
        by_cases h4 : 4 < k
        · have hr := front_deep (l := bl s) (by omega)
          have HR : Hid (0 = tyn (bl s) 0) := hr.symm
          clear hr hg hl2
          go_wp2
          go_ret
          exact ⟨congrArg (fun (x : Nat) => Ending.returned (.int .i64 x)) (HR.out), rfl⟩
        · have hr := front_at (l := bl s) (c := s[k]) (by omega) (by rw [hl2]; exact hg)
          rw [hl2] at hr
          have h4d : decide (4 < (k : Int)) = false := by simp; omega
          by_cases c73 : ((s[k].toNat : Int) == 73) = true
          · rw [if_pos (Or.inl (byte_eq (n := 73) c73))] at hr
            have HR : Hid (k + 1 = tyn (bl s) 0) := hr.symm
            clear hr hg hl2
            go_wp2
            go_ret
            exact ⟨congrArg (fun (x : Nat) => Ending.returned (.int .i64 x)) (HR.out), rfl⟩
          · have n73 : ((s[k].toNat : Int) == 73) = false := by simpa using c73
            clear c73
            by_cases c67 : ((s[k].toNat : Int) == 67) = true
            · rw [if_pos (Or.inr (byte_eq (n := 67) c67))] at hr
              have HR : Hid (k + 1 = tyn (bl s) 0) := hr.symm
              clear hr hg hl2
              go_wp2
              go_ret
              exact ⟨congrArg (fun (x : Nat) => Ending.returned (.int .i64 x)) (HR.out), rfl⟩
            · have n67 : ((s[k].toNat : Int) == 67) = false := by simpa using c67
              clear c67
              rw [if_neg (fun h => h.elim (byte_ne (n := 73) n73) (byte_ne (n := 67) n67))] at hr
              by_cases c76 : ((s[k].toNat : Int) == 76) = true
              · have b76 : ((s[k].toNat : Int) != 76) = false := by rw [bne, c76]; rfl
                rw [if_pos (byte_eq (n := 76) c76), clr_sc (by rw [bl_len]; exact hlt), bl_len] at hr
                have HR : Hid (tyn (bl s) 0 = if k + 1 + sc ((bl s).drop (k + 1)) = s.size then 0 else if isName (((bl s).drop (k + 1)).take (sc ((bl s).drop (k + 1)))) then k + 1 + sc ((bl s).drop (k + 1)) + 1 else 0) := hr
                clear hr hg hl2
                go_wp2
                go_loop [4] (fun i => ∃ j : Nat, k + 1 + j ≤ s.size ∧ i = .int .i64 ((k + 1 + j : Nat) : Int) ∧ sc ((bl s).drop (k + 1)) = j + sc ((bl s).drop (k + 1 + j))) (fun i => s.size - (intOf i).toNat)
                case atStart => exact ⟨0, by omega, rfl, by simp⟩
                case round =>
                  obtain ⟨j, hj, rfl, hsc⟩ := hrel
                  by_cases hlt2 : k + 1 + j < s.size
                  · have hg := bl_get s (k + 1 + j) hlt2
                    have hq2 : (((k + 1 + j : Nat) : Int) == (s.size : Int)) = false := by simp; omega
                    by_cases c59 : ((s[k + 1 + j].toNat : Int) == 59) = true
                    · have b59 : ((s[k + 1 + j].toNat : Int) != 59) = false := by rw [bne, c59]; rfl
                      rw [byte_eq (n := 59) c59] at hg
                      have hh := sc_hit hsc hg
                      rw [hh, if_neg (by omega)] at HR
                      clear hsc hh hg
                      obtain ⟨b, hb⟩ : ∃ b, isName (((bl s).drop (k + 1)).take j) = b := ⟨_, rfl⟩
                      rw [hb] at HR
                      have hcall : ∀ w0, Calls Try.prog 12 #[.string (s.extract (k + 1) (k + 1 + j))] w0 fun e w' => e = .returned (.bool b) ∧ w' = w0 := fun w0 => by
                        have h := refName_any (s.extract (k + 1) (k + 1 + j)) w0 (by rw [← bl_len, bl_extract, List.length_take, List.length_drop, bl_len]; omega)
                        rw [bl_extract, show k + 1 + j - (k + 1) = j from by omega, hb] at h
                        exact h
                      have ht : ((k : Int) + 1).toNat = k + 1 := by omega
                      have ht2 : ((k : Int) + 1 + j).toNat = k + 1 + j := by omega
                      have hq3 : ((k : Int) + 1 + j == (s.size : Int)) = false := by simp; omega
                      clear hb
                      go_wp2_with fail
                      refine (hcall _).mono ?_
                      rintro e w2 ⟨rfl, hw2⟩
                      have hw2 := hw2.symm
                      subst hw2
                      cases b
                      · rw [if_neg (by simp)] at HR
                        go_wp2
                        go_ret
                        exact ⟨congrArg (fun (x : Nat) => Ending.returned (.int .i64 x)) (HR.out.symm), rfl⟩
                      · rw [if_pos rfl] at HR
                        go_wp2
                        go_ret
                        exact ⟨congrArg (fun (x : Nat) => Ending.returned (.int .i64 x)) (HR.out.symm), rfl⟩
                    · have n59 : ((s[k + 1 + j].toNat : Int) == 59) = false := by simpa using c59
                      have b59 : ((s[k + 1 + j].toNat : Int) != 59) = true := by rw [bne, n59]; rfl
                      have hh := sc_go hsc hg (byte_ne (n := 59) n59)
                      have HH : Hid (sc ((bl s).drop (k + 1)) = (j + 1) + sc ((bl s).drop (k + 1 + (j + 1)))) := hh
                      clear hsc hh hg HR c59
                      go_wp2
                      exact ⟨⟨j + 1, by omega, by rw [show ((k + 1 + (j + 1) : Nat) : Int) = (k : Int) + 1 + j + 1 from by omega], HH.out⟩, by simp [intOf]; omega⟩
                  · have hh := sc_out hsc (by rw [bl_len]; omega)
                    rw [hh, if_pos (by omega)] at HR
                    have hq2 : (((k + 1 + j : Nat) : Int) == (s.size : Int)) = true := by simp; omega
                    clear hsc hh
                    go_wp2
                    go_ret
                    exact ⟨congrArg (fun (x : Nat) => Ending.returned (.int .i64 x)) (HR.out.symm), rfl⟩
              · have n76 : ((s[k].toNat : Int) == 76) = false := by simpa using c76
                have b76 : ((s[k].toNat : Int) != 76) = true := by rw [bne, n76]; rfl
                clear c76
                rw [if_neg (byte_ne (n := 76) n76)] at hr
                have HR : Hid (0 = tyn (bl s) 0) := hr.symm
                clear hr hg hl2
                go_wp2
                go_ret
                exact ⟨congrArg (fun (x : Nat) => Ending.returned (.int .i64 x)) (HR.out), rfl⟩
    · have hr := front_end (l := bl s) (by rw [lb_out hl (by rw [bl_len]; omega), bl_len]; omega)
      have HR : Hid (0 = tyn (bl s) 0) := hr.symm
      have hq : ((k : Int) == (s.size : Int)) = true := by simp; omega
      clear hr hl
      go_wp2
      all_goals go_ret
      all_goals exact ⟨congrArg (fun (x : Nat) => Ending.returned (.int .i64 x)) (HR.out), rfl⟩

theorem type_any (s : ByteArray) (w : World) (hs : s.size ≤ 1000) : Calls Try.prog 15 #[.string s] w fun e w' => e = .returned (.bool (isType (bl s))) ∧ w' = w := by
  go_enter Try.func15, Try.ntmps15
  go_wp2_with (go_at_call 37; refine (typeSize_any _ _ hs).mono ?_; rintro e w2 ⟨rfl, hw2⟩; have hw2 := hw2.symm; subst hw2)
  all_goals
    go_ret
    refine ⟨congrArg (fun b => Ending.returned (.bool b)) ?_, rfl⟩
    unfold isType
    simp only [bl_toList] at *
  · simp_all
  · rw [beq_nil, nat_beq, bl_len]
theorem refType_any (s : ByteArray) (w : World) (hs : s.size ≤ 1000) : Calls Try.prog 16 #[.string s] w fun e w' => e = .returned (.bool (isType (bl s))) ∧ w' = w := by
  go_enter Try.func16, Try.ntmps16
  go_wp2_with (go_at_call 38; refine (front_any _ _ hs).mono ?_; rintro e w2 ⟨rfl, hw2⟩; have hw2 := hw2.symm; subst hw2)
  all_goals
    go_ret
    refine ⟨congrArg (fun b => Ending.returned (.bool b)) ?_, rfl⟩
    unfold isType
    simp only [bl_toList] at *
  · simp_all
  · rw [beq_nil, nat_beq, bl_len]
def isRef (l : List UInt8) : Bool := isType l && !(l == [73]) && !(l == [67])
set_option maxHeartbeats 1000000 in
theorem refRef_any (s : ByteArray) (w : World) (hs : s.size ≤ 1000) : Calls Try.prog 18 #[.string s] w fun e w' => e = .returned (.bool (isRef (bl s))) ∧ w' = w := by
  go_enter Try.func18, Try.ntmps18
  go_wp2_with (go_at_call 16; refine (refType_any _ _ hs).mono ?_; rintro e w2 ⟨rfl, hw2⟩; have hw2 := hw2.symm; subst hw2)
  all_goals
    go_ret
    refine ⟨congrArg (fun b => Ending.returned (.bool b)) ?_, rfl⟩
    unfold isRef
    (try simp only [bl_toList] at *)
    simp_all
theorem zero_of_head {s : ByteArray} {c : UInt8} {r : List UInt8} (h : bl s = c :: r) : ∃ h : 0 < s.size, s[0] = c := by
  have h0 : 0 < s.size := by rw [← bl_len, h]; simp
  have := bl_get s 0 h0
  rw [h] at this
  exact ⟨h0, by simpa using this.symm⟩
theorem isRef_I : isRef [73] = false := by decide
theorem isRef_C : isRef [67] = false := by decide
theorem isRef_L {r : List UInt8} (h : isType (76 :: r) = true) : isRef (76 :: r) = true := by unfold isRef; rw [h]; simp
theorem isRef_A {r : List UInt8} (h : isType (91 :: r) = true) : isRef (91 :: r) = true := by unfold isRef; rw [h]; simp
set_option maxHeartbeats 1000000 in
theorem ref_any (s : ByteArray) (w : World) (hs : s.size ≤ 1000) : Calls Try.prog 17 #[.string s] w fun e w' => e = .returned (.bool (isRef (bl s))) ∧ w' = w := by
  obtain ⟨b, hb⟩ : ∃ b, isType (bl s) = b := ⟨_, rfl⟩
  have hcall : ∀ w0, Calls Try.prog 15 #[.string s] w0 fun e w' => e = .returned (.bool b) ∧ w' = w0 := fun w0 => by
    have h := type_any s w0 hs; rw [hb] at h; exact h
  cases b
  · have HR : Hid (false = isRef (bl s)) := by show _ = _; unfold isRef; rw [hb]; rfl
    clear hb
    go_enter Try.func17, Try.ntmps17
    go_wp2_with (go_at_call 15; refine (hcall _).mono ?_; rintro e w2 ⟨rfl, hw2⟩; have hw2 := hw2.symm; subst hw2)
    go_ret
    exact ⟨congrArg (fun b => Ending.returned (.bool b)) HR.out, rfl⟩
  · obtain ⟨c, hc, hR⟩ : ∃ (c : Int) (h : 0 < s.size), (s[0].toNat : Int) = c ∧ (c == 76 || c == 91) = isRef (bl s) := by
      rcases isType_head hb with h | h | ⟨r, h⟩ | ⟨r, h⟩
      · obtain ⟨h0, h1⟩ := zero_of_head h
        exact ⟨73, h0, by rw [h1]; rfl, by rw [h, isRef_I]; rfl⟩
      · obtain ⟨h0, h1⟩ := zero_of_head h
        exact ⟨67, h0, by rw [h1]; rfl, by rw [h, isRef_C]; rfl⟩
      · obtain ⟨h0, h1⟩ := zero_of_head h
        rw [h] at hb
        exact ⟨76, h0, by rw [h1]; rfl, by rw [h, isRef_L hb]; rfl⟩
      · obtain ⟨h0, h1⟩ := zero_of_head h
        rw [h] at hb
        exact ⟨91, h0, by rw [h1]; rfl, by rw [h, isRef_A hb]; rfl⟩
    obtain ⟨h1, h2⟩ := hR
    have HR : Hid ((c == 76 || c == 91) = isRef (bl s)) := h2
    clear hb h2
    go_enter Try.func17, Try.ntmps17
    go_wp2_with (go_at_call 15; refine (hcall _).mono ?_; rintro e w2 ⟨rfl, hw2⟩; have hw2 := hw2.symm; subst hw2)
    all_goals
      go_ret
      refine ⟨congrArg (fun b => Ending.returned (.bool b)) ?_, rfl⟩
      rw [← HR.out]
      try simp_all
end Go.Proofs.Ytjkphnpikciaeaa
