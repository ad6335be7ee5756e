/- The walks of the laws DescAsks and DescMethods. -/
import Derived.Test.YtjkphnpikciaeaaAwake
namespace Go.Proofs.Ytjkphnpikciaeaa
open Go.RowKit
set_option linter.unusedVariables false

theorem pars_len (k : Nat) : ∀ (r : List UInt8) (p : List (List UInt8) × List UInt8), pars k r = some p → p.1.length ≤ k := by
  induction k with
  | zero =>
    intro r p h
    simp only [pars] at h
    repeat' split at h
    all_goals first | (cases h; simp) | cases h
  | succ k ih =>
    intro r p h
    simp only [pars] at h
    repeat' split at h
    · cases h; simp
    · cases h
    · cases h
    · rw [Option.map_eq_some_iff] at h
      obtain ⟨q, hq, rfl⟩ := h
      have := ih _ q hq
      simp
      omega
theorem meth_len {l : List UInt8} {p : List (List UInt8) × List UInt8} (h : meth l = some p) : p.1.length ≤ 8 := by
  unfold meth at h
  split at h
  · exact pars_len 8 _ _ h
  · cases h

set_option maxHeartbeats 4000000 in
theorem descMethods_walk (s : ByteArray) (w : World) : Calls Try.prog 4 #[.string s] w fun e w' => e = .returned (.bool true) ∧ Ch w w' := by
  by_cases h300 : s.size ≤ 300
  · have hz : decide ((300 : Int) < (s.size : Int)) = false := by simp; omega
    cases hM : meth (bl s) with
    | none =>
      have hm := fun w0 => method_no hM (by omega) w0
      have hr := fun w0 => refMethod_no hM (by omega) w0
      clear hM
      go_enter Try.func4, Try.ntmps4
      go_wp2_with fail
      refine (hm _).mono ?_
      rintro e w2 ⟨rfl, hc⟩
      go_wp2_with fail
      refine (hr _).mono ?_
      rintro e w3 ⟨rfl, hc3⟩
      go_wp2_with fail
      refine (texts_same _ _ [] 0 0 _ (World.ownsRow_nil _ _ _ _) (World.ownsRow_nil _ _ _ _) (by simp)).mono ?_
      rintro e w4 ⟨rfl, m, rfl⟩
      go_wp2_with (first | (go_at_call 28; refine (words_any _ [] 0 _ (World.ownsRow_nil _ _ _ _)).mono ?_; rintro e w5 ⟨rfl, hw5⟩; have hw5 := hw5.symm; subst hw5) | (go_at_call 8; refine (awake_any _).mono ?_; rintro e w6 ⟨rfl, hc6⟩))
      go_ret
      exact ⟨rfl, ((hc.trans hc3).drewN m).trans hc6⟩
    | some p =>
      have hm := fun w0 => method_yes hM (by omega) w0
      have hr := fun w0 => refMethod_yes hM (by omega) w0
      have hpl : p.1.length ≤ 1000 := by have := meth_len hM; omega
      clear hM
      go_enter Try.func4, Try.ntmps4
      go_wp2_with fail
      refine (hm _).mono ?_
      rintro e w2 ⟨v, rfl, ho, hc⟩
      go_wp2_with fail
      refine (hr _).mono ?_
      rintro e w3 ⟨v3, rfl, ho3, hc3⟩
      have ho2 := ownsRow_keep ho hc3
      have hl3 := own_len ho3
      go_wp2_with fail
      refine (texts_same _ _ p.1 _ _ _ ho2 ho3 hpl).mono ?_
      rintro e w4 ⟨rfl, m, rfl⟩
      have ho4 : (w3.drewN m).ownsRow w.heap.size 9 1 v p.1.length (p.1.map strV) := ho2
      go_wp2_with (first | (go_at_call 28; refine (words_any _ p.1 w.heap.size _ ho4).mono ?_; rintro e w5 ⟨rfl, hw5⟩; have hw5 := hw5.symm; subst hw5) | (go_at_call 8; refine (awake_any _).mono ?_; rintro e w6 ⟨rfl, hc6⟩))
      go_ret
      exact ⟨rfl, ((hc.trans hc3).drewN m).trans hc6⟩
  · have hz : decide ((300 : Int) < (s.size : Int)) = true := by simp; omega
    go_enter Try.func4, Try.ntmps4
    go_wp2_with (first | (go_at_call 8; refine (awake_any _).mono ?_; rintro e w6 ⟨rfl, hc6⟩))
    go_ret
    exact ⟨rfl, hc6⟩

set_option maxHeartbeats 8000000 in
theorem descAsks_walk (s : ByteArray) (w : World) : Calls Try.prog 3 #[.string s] w fun e w' => e = .returned (.bool true) ∧ Ch w w' := by
  by_cases h300 : s.size ≤ 300
  · have hz : decide ((300 : Int) < (s.size : Int)) = false := by simp; omega
    have hs1 : s.size ≤ 900 := by omega
    have hs2 : s.size ≤ 1000 := by omega
    go_enter Try.func3, Try.ntmps3
    go_wp2_with fail
    refine (elem_any s _ hs2).mono ?_
    rintro e w2 ⟨rfl, hc2⟩
    go_wp2_with fail
    refine (refElem_any s _ hs2).mono ?_
    rintro e w3 ⟨rfl, hc3⟩
    have hc := hc2.trans hc3
    clear hc2 hc3
    generalize elemB (bl s) = eb
    go_wp2_with (first
      | (go_at_call 11; refine (name_any _ _ hs2).mono ?_; rintro e x1 ⟨rfl, hx⟩; have hx := hx.symm; subst hx; clear hx)
      | (go_at_call 12; refine (refName_any _ _ hs2).mono ?_; rintro e x1 ⟨rfl, hx⟩; have hx := hx.symm; subst hx; clear hx)
      | (go_at_call 13; refine (mname_any _ _ hs2).mono ?_; rintro e x1 ⟨rfl, hx⟩; have hx := hx.symm; subst hx; clear hx)
      | (go_at_call 14; refine (refMname_any _ _ hs2).mono ?_; rintro e x1 ⟨rfl, hx⟩; have hx := hx.symm; subst hx; clear hx)
      | (go_at_call 15; refine (type_any _ _ hs2).mono ?_; rintro e x1 ⟨rfl, hx⟩; have hx := hx.symm; subst hx; clear hx)
      | (go_at_call 16; refine (refType_any _ _ hs2).mono ?_; rintro e x1 ⟨rfl, hx⟩; have hx := hx.symm; subst hx; clear hx)
      | (go_at_call 17; refine (ref_any _ _ hs2).mono ?_; rintro e x1 ⟨rfl, hx⟩; have hx := hx.symm; subst hx; clear hx)
      | (go_at_call 18; refine (refRef_any _ _ hs2).mono ?_; rintro e x1 ⟨rfl, hx⟩; have hx := hx.symm; subst hx; clear hx)
      | (go_at_call 19; refine (class_any _ _ hs2).mono ?_; rintro e w4 ⟨rfl, hc4⟩)
      | (go_at_call 20; refine (refClass_any _ _ hs2).mono ?_; rintro e w5 ⟨rfl, hc5⟩)
      | (go_at_call 21; refine (arr_any _ _ hs1).mono ?_; rintro e x1 ⟨rfl, hx⟩; have hx := hx.symm; subst hx; clear hx)
      | (go_at_call 22; refine (refArr_any _ _ hs1).mono ?_; rintro e x1 ⟨rfl, hx⟩; have hx := hx.symm; subst hx; clear hx)
      | (go_at_call 23; refine (of_any _ _ hs1).mono ?_; rintro e x1 ⟨rfl, hx⟩; have hx := hx.symm; subst hx; clear hx)
      | (go_at_call 24; refine (refOf_any _ _ hs1).mono ?_; rintro e x1 ⟨rfl, hx⟩; have hx := hx.symm; subst hx; clear hx)
      | (go_at_call 8; refine (awake_any _).mono ?_; rintro e w6 ⟨rfl, hc6⟩))
    go_ret
    exact ⟨rfl, ((hc.trans hc4).trans hc5).trans hc6⟩
  · have hz : decide ((300 : Int) < (s.size : Int)) = true := by simp; omega
    go_enter Try.func3, Try.ntmps3
    go_wp2_with (first | (go_at_call 8; refine (awake_any _).mono ?_; rintro e w6 ⟨rfl, hc6⟩))
    go_ret
    exact ⟨rfl, hc6⟩
end Go.Proofs.Ytjkphnpikciaeaa
