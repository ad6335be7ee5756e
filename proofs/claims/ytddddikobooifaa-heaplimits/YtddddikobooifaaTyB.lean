/- The contracts of the document's reader of a type, and of what is told of types. -/
import Derived.Test.YtddddikobooifaaTy
namespace Go.Proofs.Ytddddikobooifaa
open Go.RowKit
set_option linter.unusedVariables false

theorem front_deep {l : List UInt8} (h : 4 < lb l) : tyn l 0 = 0 := by rw [tyn_front, if_pos h]
theorem front_end {l : List UInt8} (h : l.length ≤ lb l) : tyn l 0 = 0 := by
  rw [tyn_front, List.getElem?_eq_none h]; simp
theorem front_at {l : List UInt8} {c : UInt8} (h4 : ¬ 4 < lb l) (h : l[lb l]? = some c) : tyn l 0 = if c = 73 ∨ c = 67 then lb l + 1 else if c = 76 then clr l (lb l) else 0 := by
  rw [tyn_front, if_neg h4, h]; rfl
theorem clr_sc {l : List UInt8} {k : Nat} (hk : k < l.length) : clr l k = if k + 1 + sc (l.drop (k + 1)) = l.length then 0 else if isName ((l.drop (k + 1)).take (sc (l.drop (k + 1)))) then k + 1 + sc (l.drop (k + 1)) + 1 else 0 := by
  unfold clr
  rw [cls_sc, List.length_drop]
  repeat' split
  all_goals first | omega | simp_all

theorem sc_go {l : List UInt8} {k j : Nat} {c : UInt8} (h : sc (l.drop k) = j + sc (l.drop (k + j))) (hg : l[k + j]? = some c) (hc : ¬ c = 59) : sc (l.drop k) = (j + 1) + sc (l.drop (k + (j + 1))) := by
  rw [h, sc_step hg, if_neg hc]; rw [Nat.add_assoc k j 1]; omega
theorem sc_hit {l : List UInt8} {k j : Nat} (h : sc (l.drop k) = j + sc (l.drop (k + j))) (hg : l[k + j]? = some 59) : sc (l.drop k) = j := by
  rw [h, sc_step hg, if_pos rfl]; rfl
theorem sc_out {l : List UInt8} {k j : Nat} (h : sc (l.drop k) = j + sc (l.drop (k + j))) (hg : l.length ≤ k + j) : sc (l.drop k) = j := by
  rw [h, List.drop_eq_nil_of_le hg]; rfl
theorem lb_go {l : List UInt8} {k : Nat} (h : lb l = k + lb (l.drop k)) (hg : l[k]? = some 91) : lb l = (k + 1) + lb (l.drop (k + 1)) := by
  rw [h, lb_step hg, if_pos rfl]; omega
theorem lb_hit {l : List UInt8} {k : Nat} {c : UInt8} (h : lb l = k + lb (l.drop k)) (hg : l[k]? = some c) (hc : ¬ c = 91) : lb l = k := by
  rw [h, lb_step hg, if_neg hc]; rfl
theorem lb_out {l : List UInt8} {k : Nat} (h : lb l = k + lb (l.drop k)) (hg : l.length ≤ k) : lb l = k := by
  rw [h, List.drop_eq_nil_of_le hg]; rfl

theorem type_any (s : ByteArray) (w : World) (hs : s.size ≤ 100000) : Calls Try.prog 22 #[.string s] w fun e w' => e = .returned (.bool (isType (bl s))) ∧ w' = w := by
  go_enter Try.func22, Try.ntmps22
  go_wp2_with (go_at_call 29; refine (typeSize_any _ _ hs).mono ?_; rintro e w2 ⟨rfl, hw2⟩; have hw2 := hw2.symm; subst hw2)
  all_goals
    go_ret
    refine ⟨congrArg (fun b => Ending.returned (.bool b)) ?_, rfl⟩
    unfold isType
    simp only [bl_toList] at *
  · simp_all
  · rw [beq_nil, nat_beq, bl_len]
def isRef (l : List UInt8) : Bool := isType l && !(l == [73]) && !(l == [67])
theorem zero_of_head {s : ByteArray} {c : UInt8} {r : List UInt8} (h : bl s = c :: r) : ∃ h : 0 < s.size, s[0] = c := by
  have h0 : 0 < s.size := by rw [← bl_len, h]; simp
  have := bl_get s 0 h0
  rw [h] at this
  exact ⟨h0, by simpa using this.symm⟩
theorem isRef_I : isRef [73] = false := by decide
theorem isRef_C : isRef [67] = false := by decide
theorem isRef_L {r : List UInt8} (h : isType (76 :: r) = true) : isRef (76 :: r) = true := by unfold isRef; rw [h]; simp
theorem isRef_A {r : List UInt8} (h : isType (91 :: r) = true) : isRef (91 :: r) = true := by unfold isRef; rw [h]; simp
end Go.Proofs.Ytddddikobooifaa
