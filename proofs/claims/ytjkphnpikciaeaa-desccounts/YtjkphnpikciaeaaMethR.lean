/- The contract of the document's reader of a method's type. -/
import Derived.Test.YtjkphnpikciaeaaMeth
namespace Go.Proofs.Ytjkphnpikciaeaa
open Go.RowKit
set_option linter.unusedVariables false

theorem front_as {s : ByteArray} {n : Nat} (hn : tyn (bl s) 0 = n) (hs : s.size ≤ 1000) (w0 : World) : Calls Try.prog 38 #[.string s] w0 fun e w' => e = .returned (.int .i64 (n : Int)) ∧ w' = w0 := by
  have h := front_any s w0 hs; rw [hn] at h; exact h
theorem empty_of {s : ByteArray} (h : s.size = 0) : s = ⟨#[]⟩ := by
  apply ByteArray.ext
  exact Array.eq_empty_of_size_eq_zero h
theorem nil_beq {s : ByteArray} (h : 0 < s.size) : (s.toList == []) = false := by
  rw [bl_toList, beq_nil]
  have := bl_len s
  cases hb : bl s with
  | nil => rw [hb] at this; simp at this; omega
  | cons x r => rfl
theorem Ch.drewN' {a b : World} (h : Ch a b) (n : Nat) : Ch a (b.drewN n) := h.drewN n

set_option maxHeartbeats 4000000 in
theorem refMethod_any (s : ByteArray) (w : World) (hs : s.size ≤ 1000) : Calls Try.prog 26 #[.string s] w (MPost (meth (bl s)) w) := by
  by_cases h0 : 0 < s.size
  · have hne := nil_beq h0
    obtain ⟨b, hb⟩ : ∃ b, hd 40 (bl s) = b := ⟨_, rfl⟩
    have hz40 := hd_ne 40 rfl h0 hb
    cases b
    · have hM : meth (bl s) = none := by unfold meth; rw [hb]; rfl
      have HM : Hid (meth (bl s) = none) := hM
      rw [Bool.not_false] at hz40
      clear hM hb
      go_enter Try.func26, Try.ntmps26
      go_wp2
      go_ret3
      exact MPost.no (Ch.refl _) HM.out
    · have hR : Rest (meth (bl s)) [] (bl (s.extract 1 s.size)) := ⟨by simp, by rw [bl_from]; unfold meth; rw [hb]; simp⟩
      have hz : (s.extract 1 s.size).size ≤ 1000 := by rw [← bl_len, bl_from, List.length_drop, bl_len]; omega
      rw [Bool.not_true] at hz40
      generalize meth (bl s) = M at *
      clear hb
      generalize hr0 : s.extract 1 s.size = r0 at *
      have hl1 : (1 : Int) ≤ s.size := by omega
      go_enter Try.func26, Try.ntmps26
      go_wp2_with fail
      go_loopw [0, 5] (fun rv pv wr => ∃ (ps : List (List UInt8)) (r : ByteArray), rv = .string r ∧ r.size ≤ 1000 ∧ wr.ownsRow w.heap.size 9 1 pv ps.length (ps.map strV) ∧ Ch w wr ∧ Hid (Rest M ps (bl r))) (fun rv _ _ => strSize rv)
      case atStart => exact ⟨[], r0, rfl, hz, World.ownsRow_nil _ _ _ _, Ch.refl _, hR⟩
      case round =>
        clear hne hz40 hr0 hl1
        obtain ⟨ps, r, rfl, hrs, ho, hc, hRr⟩ := hrel
        have hlen := own_len ho
        have hpl := hRr.out.1
        by_cases h0 : 0 < r.size
        · have hne := nil_beq h0
          have hl1 : (1 : Int) ≤ r.size := by omega
          obtain ⟨b, hb⟩ : ∃ b, hd 41 (bl r) = b := ⟨_, rfl⟩
          have hz41 := hd_ne 41 rfl h0 hb
          cases b
          · rw [Bool.not_false] at hz41
            obtain ⟨n, hn⟩ : ∃ n, tyn (bl r) 0 = n := ⟨_, rfl⟩
            have hle := tyn_le (bl r) 0
            rw [hn, bl_len] at hle
            have hty := fun w0 => front_as hn hrs w0
            by_cases h0 : n = 0
            · have hM := hRr.out.full hb (Or.inl (by rw [hn]; exact h0))
              have HM : Hid (M = none) := hM
              subst h0
              clear hM hRr hb hn hle hR
              go_wp2_with (first | (go_at_call 38; refine (hty _).mono ?_; rintro e w4 ⟨rfl, hw4⟩; have hw4 := hw4.symm; subst hw4))
              go_ret3
              exact MPost.no hc HM.out
            · have h0' : ((n : Int) == 0) = false := by simp; omega
              by_cases h8 : ps.length = 8
              · have hM := hRr.out.full hb (Or.inr h8)
                have HM : Hid (M = none) := hM
                have h8' : ((ps.length : Int) == 8) = true := by simp; omega
                clear hM hRr hb hn hle hR
                go_wp2_with (first | (go_at_call 38; refine (hty _).mono ?_; rintro e w4 ⟨rfl, hw4⟩; have hw4 := hw4.symm; subst hw4))
                go_ret3
                exact MPost.no hc HM.out
              · have h8' : ((ps.length : Int) == 8) = false := by simp; omega
                have hM := hRr.out.more hb (by rw [hn]; exact h0) (by omega)
                rw [hn, ← bl_to, ← bl_from] at hM
                have HM : Hid (Rest M (ps ++ [bl (r.extract 0 n)]) (bl (r.extract n r.size))) := hM
                have hsz2 : (r.extract n r.size).size = r.size - n := by rw [← bl_len, bl_from, List.length_drop, bl_len]
                have HZ : Hid ((r.extract n r.size).size = r.size - n) := hsz2
                have hlt : n ≤ r.size := hle
                clear hM hRr hb hn hle hR hsz2
                go_wp2_with (first | (go_at_call 38; refine (hty _).mono ?_; rintro e w4 ⟨rfl, hw4⟩; have hw4 := hw4.symm; subst hw4) | (at_builtin; refine wpList_append_text rfl (.tmp 32) (.tmp 36) rfl w.heap.size _ ps (r.extract 0 n) rfl (ownsRow_keep ho ((Ch.refl _).alloc _)) ⟨wr.heap.size, 0, none⟩ _ rfl (cell_new _ _ _) (by omega) (hc.alloc _).size ?_; intro v6 w6 ho6 hg6))
                go_roundw
                case rel => exact ⟨ps ++ [bl (r.extract 0 n)], r.extract n r.size, rfl, by rw [HZ.out]; omega, ho6, (hc.alloc _).grown hg6 (fun k hk => (ho.lt k hk).1), HM⟩
                case measure => simp only [strSize]; rw [HZ.out]; omega
          · rw [Bool.not_true] at hz41
            have hM := hRr.out.close hb
            rw [← bl_from] at hM
            have hqs : (r.extract 1 r.size).size ≤ 1000 := by rw [← bl_len, bl_from, List.length_drop, bl_len]; omega
            clear hRr hb hR
            generalize hq : r.extract 1 r.size = q at hM hqs
            obtain ⟨y, hy⟩ : ∃ y, isType (bl q) = y := ⟨_, rfl⟩
            have hty := fun w0 => refType_as hy hqs w0
            by_cases hV : bl q = [86]
            · rw [hV] at hM
              have hM : M = some (ps, bl q) := by rw [hM, hV]; rfl
              have HM : Hid (M = some (ps, bl q)) := hM
              have hVb : (q.toList == [86]) = true := by rw [bl_toList, hV]; rfl
              have hVc : q.toList = [86] := by rw [bl_toList, hV]
              clear hM hV hy hty
              go_wp2_with fail
              go_quiet (fail)
              go_wp2
              go_ret3
              exact MPost.yes (hc.drewN _) HM.out rfl ho
            · have hVb : (bl q == [86]) = false := by simpa using hV
              have hVc : (q.toList == [86]) = false := by rw [bl_toList]; exact hVb
              rw [hVb, hy] at hM
              cases y
              · have HM : Hid (M = none) := hM
                clear hM hV hy hVb
                go_wp2_with (first | (go_at_call 16; refine (hty _).mono ?_; rintro e w4 ⟨rfl, hw4⟩; have hw4 := hw4.symm; subst hw4))
                go_ret3
                exact MPost.no hc HM.out
              · have HM : Hid (M = some (ps, bl q)) := hM
                clear hM hV hy hVb
                go_wp2_with (first | (go_at_call 16; refine (hty _).mono ?_; rintro e w4 ⟨rfl, hw4⟩; have hw4 := hw4.symm; subst hw4))
                go_quiet (fail)
                go_wp2
                go_ret3
                exact MPost.yes (hc.drewN _) HM.out rfl ho
        · have hr : r = ⟨#[]⟩ := empty_of (by omega)
          have hM := hRr.out.full (by rw [hr]; rfl) (Or.inl (by rw [hr]; rfl))
          have HM : Hid (M = none) := hM
          subst hr
          clear hM hRr hR
          go_wp2
          go_ret3
          exact MPost.no hc HM.out
  · have hr : s = ⟨#[]⟩ := empty_of (by omega)
    subst hr
    go_enter Try.func26, Try.ntmps26
    go_wp2
    go_ret3
    exact MPost.no (Ch.refl _) rfl
end Go.Proofs.Ytjkphnpikciaeaa
