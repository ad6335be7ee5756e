/- Whether a method may be. -/
import Derived.Test.YtdalibfgkkgcpaaGreatKChkB
namespace Go.Proofs.YtdalibfgkkgcpaaGreat
open Go.RowKit
set_option linter.unusedVariables false

def isInitL (l : List UInt8) : Bool := l == [60, 105, 110, 105, 116, 62]
def isClinL (l : List UInt8) : Bool := l == [60, 99, 108, 105, 110, 105, 116, 62]
def mNm (s : ByteArray) : Bool := isName (bl s) || (s.toList == [60, 105, 110, 105, 116, 62]) || (s.toList == [60, 99, 108, 105, 110, 105, 116, 62])
def mayN (m : Mth) (r : ByteArray) : Bool :=
  if m.n.toList == [60, 99, 108, 105, 110, 105, 116, 62] then m.st && (m.d.toList == [40, 41, 86])
  else if m.n.toList == [60, 105, 110, 105, 116, 62] then !m.st && (!m.ab && (r.toList == [86])) else mNm m.n
def witM (m : Mth) : Bool := decide (0 ≤ m.sk) && (decide (m.sk ≤ 20) && (decide (0 ≤ m.lo) && (decide (m.lo ≤ 20) && (decide ((m.code.length : Int) ≤ 200) && decide ((m.hs.length : Int) ≤ 20)))))
def barM (m : Mth) : Bool := !m.st && ((m.sk == 0) && ((m.lo == 0) && (((m.code.length : Int) == 0) && ((m.hs.length : Int) == 0))))
def argM (m : Mth) (n : Nat) : Int := if m.st then (n : Int) else (n : Int) + 1
def codE (m : Mth) : Int := orL [firstF (insE m.code.length m.lo) m.code, firstF (hndE m.code.length) m.hs]
def mthE (m : Mth) : Int :=
  match meth (bl m.d) with
  | none => 6
  | some p => if !mayN m (ms p.2) then 6 else if !witM m then 5 else if m.ab && !barM m then 7 else if !m.ab && ((m.code.length : Int) == 0) then 7 else if m.ab then 0 else if m.lo < argM m p.1.length then 4 else codE m

set_option maxHeartbeats 2000000 in
theorem mname_any (s : ByteArray) (w : World) (hs : s.size ≤ 100000) : Calls Tryz.prog 108 #[.string s] w fun e w' => e = .returned (.bool (mNm s)) ∧ w' = w := by
  have hn := fun w0 => name_any s w0 hs
  unfold mNm
  generalize isName (bl s) = b at *
  obtain ⟨q1, h1⟩ : ∃ q, (s.toList == [60, 105, 110, 105, 116, 62]) = q := ⟨_, rfl⟩
  obtain ⟨q2, h2⟩ : ∃ q, (s.toList == [60, 99, 108, 105, 110, 105, 116, 62]) = q := ⟨_, rfl⟩
  rw [h1, h2]
  cases q1 <;> cases q2 <;> cases b
  all_goals
    go_enter Tryz.func108, Tryz.ntmps108
    go_wp2_with (first
      | (go_at_call 67; (with_reducible refine (hn _).mono ?_); rintro e w2 ⟨rfl, hw⟩; have hw := hw.symm; subst hw))
    go_ret
    exact ⟨rfl, rfl⟩

set_option maxHeartbeats 4000000 in
theorem mayBe_any (m : Mth) (r : ByteArray) (vc vh : Value) (w : World) (hs : m.n.size ≤ 100000) (h1 : Sl 6 RI w vc m.code) (h2 : Sl 4 RH w vh m.hs) :
    Calls Tryz.prog 73 #[.agg #[.string m.n, .string m.d, .bool m.st, .bool m.ab, .int .i64 m.sk, .int .i64 m.lo, vc, vh], .string r] w fun e w' => e = .returned (.bool (mayN m r)) ∧ Ch w w' := by
  have hn := fun w0 => mname_any m.n w0 hs
  obtain ⟨ac, cc, rfl, _, _⟩ := h1.form
  obtain ⟨ah, ch, rfl, _, _⟩ := h2.form
  clear h1 h2
  unfold mayN
  generalize mNm m.n = b at *
  generalize m.code.length = l1
  generalize m.hs.length = l2
  obtain ⟨q1, e1⟩ : ∃ q, (m.n.toList == [60, 99, 108, 105, 110, 105, 116, 62]) = q := ⟨_, rfl⟩
  obtain ⟨q2, e2⟩ : ∃ q, (m.n.toList == [60, 105, 110, 105, 116, 62]) = q := ⟨_, rfl⟩
  obtain ⟨q3, e3⟩ : ∃ q, (m.d.toList == [40, 41, 86]) = q := ⟨_, rfl⟩
  obtain ⟨q4, e4⟩ : ∃ q, (r.toList == [86]) = q := ⟨_, rfl⟩
  obtain ⟨q5, e5⟩ : ∃ q, m.st = q := ⟨_, rfl⟩
  obtain ⟨q6, e6⟩ : ∃ q, m.ab = q := ⟨_, rfl⟩
  rw [e1, e2, e3, e4, e5, e6]
  cases q1
  · cases q2
    · go_enter Tryz.func73, Tryz.ntmps73
      go_wp2_with (first
        | (go_at_call 108; (with_reducible refine (hn _).mono ?_); rintro e w2 ⟨rfl, hw⟩; have hw := hw.symm; subst hw))
      go_ret
      exact ⟨rfl, (Ch.refl w).alloc _⟩
    · cases q5 <;> cases q6
      all_goals
        go_enter Tryz.func73, Tryz.ntmps73
        go_wp2
        go_ret
        exact ⟨rfl, (Ch.refl w).alloc _⟩
  · cases q5
    all_goals
      go_enter Tryz.func73, Tryz.ntmps73
      go_wp2
      go_ret
      exact ⟨rfl, (Ch.refl w).alloc _⟩

set_option maxHeartbeats 4000000 in
theorem within36_any (m : Mth) (vc vh : Value) (w : World) (h1 : Sl 6 RI w vc m.code) (h2 : Sl 4 RH w vh m.hs) :
    Calls Tryz.prog 74 #[.agg #[.string m.n, .string m.d, .bool m.st, .bool m.ab, .int .i64 m.sk, .int .i64 m.lo, vc, vh]] w fun e w' => e = .returned (.bool (witM m)) ∧ Ch w w' := by
  obtain ⟨ac, cc, rfl, _, _⟩ := h1.form
  obtain ⟨ah, ch, rfl, _, _⟩ := h2.form
  clear h1 h2
  obtain ⟨r, hr⟩ : ∃ r, witM m = r := ⟨_, rfl⟩
  rw [hr]
  unfold witM at hr
  generalize m.code.length = l1 at *
  generalize m.hs.length = l2 at *
  have HR : Hid (_ = r) := hr
  clear hr
  go_enter Tryz.func74, Tryz.ntmps74
  go_wp2
  all_goals go_ret
  all_goals
    refine ⟨congrArg (fun b => Ending.returned (.bool b)) ?_, (Ch.refl w).alloc _⟩
    rw [← HR.out]
    clear HR
    first | (simp_all; done) | (simp_all; omega)

set_option maxHeartbeats 4000000 in
theorem bare_any (m : Mth) (vc vh : Value) (w : World) (h1 : Sl 6 RI w vc m.code) (h2 : Sl 4 RH w vh m.hs) :
    Calls Tryz.prog 75 #[.agg #[.string m.n, .string m.d, .bool m.st, .bool m.ab, .int .i64 m.sk, .int .i64 m.lo, vc, vh]] w fun e w' => e = .returned (.bool (barM m)) ∧ Ch w w' := by
  obtain ⟨ac, cc, rfl, _, _⟩ := h1.form
  obtain ⟨ah, ch, rfl, _, _⟩ := h2.form
  clear h1 h2
  obtain ⟨r, hr⟩ : ∃ r, barM m = r := ⟨_, rfl⟩
  rw [hr]
  unfold barM at hr
  generalize m.code.length = l1 at *
  generalize m.hs.length = l2 at *
  obtain ⟨q1, e1⟩ : ∃ q, (m.sk == 0) = q := ⟨_, rfl⟩
  obtain ⟨q2, e2⟩ : ∃ q, (m.lo == 0) = q := ⟨_, rfl⟩
  obtain ⟨q3, e3⟩ : ∃ q, ((l1 : Int) == 0) = q := ⟨_, rfl⟩
  obtain ⟨q4, e4⟩ : ∃ q, ((l2 : Int) == 0) = q := ⟨_, rfl⟩
  rw [e1, e2, e3, e4] at hr
  have HR : Hid (_ = r) := hr
  clear hr
  go_enter Tryz.func75, Tryz.ntmps75
  go_wp2
  all_goals go_ret
  all_goals
    refine ⟨congrArg (fun b => Ending.returned (.bool b)) ?_, (Ch.refl w).alloc _⟩
    rw [← HR.out]
    clear HR
    first | (simp_all; done) | (simp_all; omega)

set_option maxHeartbeats 2000000 in
theorem args_any (m : Mth) (vc vh v : Value) (ps : List (List UInt8)) (base : Nat) (w : World) (h1 : Sl 6 RI w vc m.code) (h2 : Sl 4 RH w vh m.hs) (hv : w.ownsRow base 9 1 v ps.length (ps.map strV)) (hp : ps.length ≤ 8) :
    Calls Tryz.prog 76 #[.agg #[.string m.n, .string m.d, .bool m.st, .bool m.ab, .int .i64 m.sk, .int .i64 m.lo, vc, vh], v] w fun e w' => e = .returned (.int .i64 (argM m ps.length)) ∧ Ch w w' := by
  obtain ⟨ac, cc, rfl, _, _⟩ := h1.form
  obtain ⟨ah, ch, rfl, _, _⟩ := h2.form
  clear h1 h2
  have hw : ∀ w0, Ch w w0 → Calls Tryz.prog 109 #[v] w0 fun e w' => e = .returned (.int .i64 (ps.length : Int)) ∧ w' = w0 := fun w0 c => words_any v ps base w0 (ownsRow_keep hv c)
  unfold argM
  generalize m.code.length = l1
  generalize m.hs.length = l2
  generalize ps.length = n at *
  clear hv
  obtain ⟨q5, e5⟩ : ∃ q, m.st = q := ⟨_, rfl⟩
  rw [e5]
  have hwr : IntKind.i64.wrap ((n : Int) + 1) = (n : Int) + 1 := by rw [IntKind.wrap_i64]; omega
  cases q5
  all_goals
    go_enter Tryz.func76, Tryz.ntmps76
    go_wp2_with (first
      | (go_at_call 109; (with_reducible refine (hw _ ((Ch.refl w).alloc _)).mono ?_); rintro e w2 ⟨rfl, hw2⟩; have hw2 := hw2.symm; subst hw2))
    go_ret
    exact ⟨rfl, (Ch.refl w).alloc _⟩
end Go.Proofs.YtdalibfgkkgcpaaGreat
