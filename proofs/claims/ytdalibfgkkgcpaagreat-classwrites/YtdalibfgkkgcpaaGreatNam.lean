/- Whether the names and types of an instruction may be. -/
import Derived.Test.YtdalibfgkkgcpaaGreatEff
namespace Go.Proofs.YtdalibfgkkgcpaaGreat
open Go.RowKit
set_option linter.unusedVariables false

/-- May an operation call a method of that name? -/
def clb (n : List UInt8) (op : Int) : Bool := isName n || (n == initL && op == 33)
/-- May the names and types be, by the kind? -/
def nam (k op : Int) (c n d : List UInt8) : Bool :=
  if k = 6 then isName c else if k = 9 then isName c && isName n && isType d else if k = 10 then isName c && clb n op && (meth d).isSome
  else if k = 7 then !(arrL d == []) else if k = 8 then isRef d else true

theorem callable_any (n : ByteArray) (op : Int) (w : World) (hs : n.size ≤ 100000) : Calls Tryz.prog 138 #[.string n, .int .i64 op] w fun e w' => e = .returned (.bool (clb (bl n) op)) ∧ w' = w := by
  obtain ⟨bn, hbn⟩ : ∃ b, isName (bl n) = b := ⟨_, rfl⟩
  have hn := fun w0 => name_as hbn hs w0
  obtain ⟨bi, hbi⟩ : ∃ b, (n.toList == initL) = b := ⟨_, rfl⟩
  have hbj : (bl n == initL) = bi := by rw [← bl_toList]; exact hbi
  obtain ⟨bo, hbo⟩ : ∃ b, (op == 33) = b := ⟨_, rfl⟩
  have hR : clb (bl n) op = (bn || (bi && bo)) := by unfold clb; rw [hbn, hbj, hbo]
  rw [hR]
  unfold initL at hbi
  clear hR hbj hbn
  cases bn <;> cases bi <;> cases bo
  all_goals
    go_enter Tryz.func138, Tryz.ntmps138
    go_wp2_with (go_at_call 67; (with_reducible refine (hn _).mono ?_); rintro e w2 ⟨rfl, hx⟩; have hx := hx.symm; subst hx)
    go_ret
    exact ⟨rfl, rfl⟩
theorem methodType_any (d : ByteArray) (w : World) (hs : d.size ≤ 100000) : Calls Tryz.prog 139 #[.string d] w fun e w' => e = .returned (.bool (meth (bl d)).isSome) ∧ Ch w w' := by
  cases hM : meth (bl d) with
  | none =>
    have hm := fun w0 => method_no hM hs w0
    go_enter Tryz.func139, Tryz.ntmps139
    go_wp2_with (go_at_call 72; (with_reducible refine (hm _).mono ?_); rintro e w3 ⟨rfl, hc3⟩)
    go_ret
    exact ⟨rfl, hc3⟩
  | some p =>
    have hm := fun w0 => method_yes hM hs w0
    go_enter Tryz.func139, Tryz.ntmps139
    go_wp2_with (go_at_call 72; (with_reducible refine (hm _).mono ?_); rintro e w3 ⟨v, rfl, ho, hc3⟩)
    go_ret
    exact ⟨rfl, hc3⟩

set_option maxHeartbeats 4000000 in
theorem named_any (op a b k : Int) (c n d : ByteArray) (w : World) (hk : 0 ≤ k ∧ k ≤ 10) (sc : c.size ≤ 90000) (sn : n.size ≤ 90000) (sd : d.size ≤ 90000) :
    Calls Tryz.prog 136 #[.agg #[.int .i64 op, .int .i64 a, .int .i64 b, .string c, .string n, .string d], .int .i64 k] w fun e w' => e = .returned (.bool (nam k op (bl c) (bl n) (bl d))) ∧ Ch w w' := by
  have hc := fun w0 => name_any c w0 (by omega)
  have hn := fun w0 => name_any n w0 (by omega)
  have hcl := fun w0 => callable_any n op w0 (by omega)
  have hm := fun w0 => methodType_any d w0 (by omega)
  have ht := fun w0 => type_any d w0 (by omega)
  have ha := fun w0 => arr_any d w0 (by omega)
  have hr := fun w0 => ref_any d w0 (by omega)
  have hae : ((ms (arrL (bl d))).toList == []) = (arrL (bl d) == []) := by rw [ms_toList]
  unfold nam
  generalize isName (bl c) = bc at *
  generalize isName (bl n) = bn at *
  generalize clb (bl n) op = bq at *
  generalize (meth (bl d)).isSome = bm at *
  generalize isType (bl d) = bt at *
  generalize isRef (bl d) = br at *
  generalize hL : (arrL (bl d) == []) = be at *
  generalize ms (arrL (bl d)) = AL at *
  clear hL
  have hae2 : AL.toList.isEmpty = be := by rw [← beq_nil]; exact hae
  have hkk : k = 0 ∨ k = 1 ∨ k = 2 ∨ k = 3 ∨ k = 4 ∨ k = 5 ∨ k = 6 ∨ k = 7 ∨ k = 8 ∨ k = 9 ∨ k = 10 := by omega
  clear hk sc sn sd hae
  rcases hkk with rfl | rfl | rfl | rfl | rfl | rfl | rfl | rfl | rfl | rfl | rfl
  all_goals simp only [Int.reduceEq, if_true, if_false]
  case inr.inr.inr.inr.inr.inr.inr.inr.inr.inl =>
    cases bc <;> cases bn
    all_goals
      go_enter Tryz.func136, Tryz.ntmps136
      go_wp2_with (first
        | (go_at_call 67; (with_reducible refine (hc _).mono ?_); rintro e w2 ⟨rfl, hx⟩; have hx := hx.symm; subst hx)
        | (go_at_call 67; (with_reducible refine (hn _).mono ?_); rintro e w2 ⟨rfl, hx⟩; have hx := hx.symm; subst hx)
        | (go_at_call 71; (with_reducible refine (ht _).mono ?_); rintro e w2 ⟨rfl, hx⟩; have hx := hx.symm; subst hx))
      go_ret
      exact ⟨rfl, (Ch.refl w).alloc _⟩
  case inr.inr.inr.inr.inr.inr.inr.inr.inr.inr =>
    cases bc <;> cases bq
    all_goals
      go_enter Tryz.func136, Tryz.ntmps136
      go_wp2_with (first
        | (go_at_call 67; (with_reducible refine (hc _).mono ?_); rintro e w2 ⟨rfl, hx⟩; have hx := hx.symm; subst hx)
        | (go_at_call 138; (with_reducible refine (hcl _).mono ?_); rintro e w2 ⟨rfl, hx⟩; have hx := hx.symm; subst hx)
        | (go_at_call 139; (with_reducible refine (hm _).mono ?_); rintro e w4 ⟨rfl, hc4⟩))
      go_ret
      first
        | exact ⟨rfl, (Ch.refl w).alloc _⟩
        | exact ⟨rfl, ((Ch.refl w).alloc _).trans hc4⟩
  all_goals
    go_enter Tryz.func136, Tryz.ntmps136
    go_wp2_with (first
      | (go_at_call 67; (with_reducible refine (hc _).mono ?_); rintro e w2 ⟨rfl, hx⟩; have hx := hx.symm; subst hx)
      | (go_at_call 140; (with_reducible refine (ha _).mono ?_); rintro e w2 ⟨rfl, hx⟩; have hx := hx.symm; subst hx)
      | (go_at_call 141; (with_reducible refine (hr _).mono ?_); rintro e w2 ⟨rfl, hx⟩; have hx := hx.symm; subst hx))
    go_ret
    exact ⟨rfl, (Ch.refl w).alloc _⟩
end Go.Proofs.YtdalibfgkkgcpaaGreat
