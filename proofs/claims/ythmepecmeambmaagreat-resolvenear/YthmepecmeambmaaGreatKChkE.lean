/- Whether a method may be. -/
/- Whether a method's code may be; whether a method may be. -/
/- Whether a method may be; whether a class may be. -/
import Derived.Test.YthmepecmeambmaaGreatKChkB
namespace Go.Proofs.YthmepecmeambmaaGreat
open Go.RowKit
set_option linter.unusedVariables false

def isInitL (l : List UInt8) : Bool := l == [60, 105, 110, 105, 116, 62]
def isClinL (l : List UInt8) : Bool := l == [60, 99, 108, 105, 110, 105, 116, 62]
def mNm (s : ByteArray) : Bool := isName (bl s) || (s.toList == [60, 105, 110, 105, 116, 62]) || (s.toList == [60, 99, 108, 105, 110, 105, 116, 62])
def mayN (m : Mth) (r : ByteArray) : Bool :=
  if m.n.toList == [60, 99, 108, 105, 110, 105, 116, 62] then m.st && (m.d.toList == [40, 41, 86])
  else if m.n.toList == [60, 105, 110, 105, 116, 62] then !m.st && (!m.ab && (r.toList == [86])) else mNm m.n
def witM (m : Mth) : Bool := decide (0 ≤ m.sk) && (decide (m.sk ≤ 20) && (decide (0 ≤ m.lo) && (decide (m.lo ≤ 20) && (decide ((m.code.length : Int) ≤ 200) && decide ((m.hs.length : Int) ≤ 20)))))
def barM (m : Mth) : Bool := !m.st && ((m.sk == 0) && ((m.lo == 0) && (((m.code.length : Int) == 0) && ((m.hs.length : Int) == 0))))
def argM (m : Mth) (n : Nat) : Int := if m.st then (n : Int) else (n : Int) + 1
def codE (m : Mth) : Int := orL [firstF (insE m.code.length m.lo) m.code, firstF (hndE m.code.length) m.hs]
def mthE (m : Mth) : Int :=
  match meth (bl m.d) with
  | none => 6
  | some p => if !mayN m (ms p.2) then 6 else if !witM m then 5 else if m.ab && !barM m then 7 else if !m.ab && ((m.code.length : Int) == 0) then 7 else if m.ab then 0 else if m.lo < argM m p.1.length then 4 else codE m

set_option maxHeartbeats 2000000 in
theorem mname_any (s : ByteArray) (w : World) (hs : s.size ≤ 100000) : Calls Tryz.prog 270 #[.string s] w fun e w' => e = .returned (.bool (mNm s)) ∧ w' = w := by
  have hn := fun w0 => name_any s w0 hs
  unfold mNm
  generalize isName (bl s) = b at *
  obtain ⟨q1, h1⟩ : ∃ q, (s.toList == [60, 105, 110, 105, 116, 62]) = q := ⟨_, rfl⟩
  obtain ⟨q2, h2⟩ : ∃ q, (s.toList == [60, 99, 108, 105, 110, 105, 116, 62]) = q := ⟨_, rfl⟩
  rw [h1, h2]
  cases q1 <;> cases q2 <;> cases b
  all_goals
    go_enter Tryz.func270, Tryz.ntmps270
    go_wp2_with (first
      | (go_at_call 203; (with_reducible refine (hn _).mono ?_); rintro e w2 ⟨rfl, hw⟩; have hw := hw.symm; subst hw))
    go_ret
    exact ⟨rfl, rfl⟩

set_option maxHeartbeats 4000000 in
theorem mayBe_any (m : Mth) (r : ByteArray) (vc vh : Value) (w : World) (hs : m.n.size ≤ 100000) (h1 : Sl 6 RI w vc m.code) (h2 : Sl 4 RH w vh m.hs) :
    Calls Tryz.prog 208 #[.agg #[.string m.n, .string m.d, .bool m.st, .bool m.ab, .int .i64 m.sk, .int .i64 m.lo, vc, vh], .string r] w fun e w' => e = .returned (.bool (mayN m r)) ∧ Ch w w' := by
  have hn := fun w0 => mname_any m.n w0 hs
  obtain ⟨ac, cc, rfl, _, _⟩ := h1.form
  obtain ⟨ah, ch, rfl, _, _⟩ := h2.form
  clear h1 h2
  unfold mayN
  generalize mNm m.n = b at *
  generalize m.code.length = l1
  generalize m.hs.length = l2
  obtain ⟨q1, e1⟩ : ∃ q, (m.n.toList == [60, 99, 108, 105, 110, 105, 116, 62]) = q := ⟨_, rfl⟩
  obtain ⟨q2, e2⟩ : ∃ q, (m.n.toList == [60, 105, 110, 105, 116, 62]) = q := ⟨_, rfl⟩
  obtain ⟨q3, e3⟩ : ∃ q, (m.d.toList == [40, 41, 86]) = q := ⟨_, rfl⟩
  obtain ⟨q4, e4⟩ : ∃ q, (r.toList == [86]) = q := ⟨_, rfl⟩
  obtain ⟨q5, e5⟩ : ∃ q, m.st = q := ⟨_, rfl⟩
  obtain ⟨q6, e6⟩ : ∃ q, m.ab = q := ⟨_, rfl⟩
  rw [e1, e2, e3, e4, e5, e6]
  cases q1
  · cases q2
    · go_enter Tryz.func208, Tryz.ntmps208
      go_wp2_with (first
        | (go_at_call 270; (with_reducible refine (hn _).mono ?_); rintro e w2 ⟨rfl, hw⟩; have hw := hw.symm; subst hw))
      go_ret
      exact ⟨rfl, (Ch.refl w).alloc _⟩
    · cases q5 <;> cases q6
      all_goals
        go_enter Tryz.func208, Tryz.ntmps208
        go_wp2
        go_ret
        exact ⟨rfl, (Ch.refl w).alloc _⟩
  · cases q5
    all_goals
      go_enter Tryz.func208, Tryz.ntmps208
      go_wp2
      go_ret
      exact ⟨rfl, (Ch.refl w).alloc _⟩

set_option maxHeartbeats 4000000 in
theorem within36_any (m : Mth) (vc vh : Value) (w : World) (h1 : Sl 6 RI w vc m.code) (h2 : Sl 4 RH w vh m.hs) :
    Calls Tryz.prog 209 #[.agg #[.string m.n, .string m.d, .bool m.st, .bool m.ab, .int .i64 m.sk, .int .i64 m.lo, vc, vh]] w fun e w' => e = .returned (.bool (witM m)) ∧ Ch w w' := by
  obtain ⟨ac, cc, rfl, _, _⟩ := h1.form
  obtain ⟨ah, ch, rfl, _, _⟩ := h2.form
  clear h1 h2
  obtain ⟨r, hr⟩ : ∃ r, witM m = r := ⟨_, rfl⟩
  rw [hr]
  unfold witM at hr
  generalize m.code.length = l1 at *
  generalize m.hs.length = l2 at *
  have HR : Hid (_ = r) := hr
  clear hr
  go_enter Tryz.func209, Tryz.ntmps209
  go_wp2
  all_goals go_ret
  all_goals
    refine ⟨congrArg (fun b => Ending.returned (.bool b)) ?_, (Ch.refl w).alloc _⟩
    rw [← HR.out]
    clear HR
    first | (simp_all; done) | (simp_all; omega)

set_option maxHeartbeats 4000000 in
theorem bare_any (m : Mth) (vc vh : Value) (w : World) (h1 : Sl 6 RI w vc m.code) (h2 : Sl 4 RH w vh m.hs) :
    Calls Tryz.prog 210 #[.agg #[.string m.n, .string m.d, .bool m.st, .bool m.ab, .int .i64 m.sk, .int .i64 m.lo, vc, vh]] w fun e w' => e = .returned (.bool (barM m)) ∧ Ch w w' := by
  obtain ⟨ac, cc, rfl, _, _⟩ := h1.form
  obtain ⟨ah, ch, rfl, _, _⟩ := h2.form
  clear h1 h2
  obtain ⟨r, hr⟩ : ∃ r, barM m = r := ⟨_, rfl⟩
  rw [hr]
  unfold barM at hr
  generalize m.code.length = l1 at *
  generalize m.hs.length = l2 at *
  obtain ⟨q1, e1⟩ : ∃ q, (m.sk == 0) = q := ⟨_, rfl⟩
  obtain ⟨q2, e2⟩ : ∃ q, (m.lo == 0) = q := ⟨_, rfl⟩
  obtain ⟨q3, e3⟩ : ∃ q, ((l1 : Int) == 0) = q := ⟨_, rfl⟩
  obtain ⟨q4, e4⟩ : ∃ q, ((l2 : Int) == 0) = q := ⟨_, rfl⟩
  rw [e1, e2, e3, e4] at hr
  have HR : Hid (_ = r) := hr
  clear hr
  go_enter Tryz.func210, Tryz.ntmps210
  go_wp2
  all_goals go_ret
  all_goals
    refine ⟨congrArg (fun b => Ending.returned (.bool b)) ?_, (Ch.refl w).alloc _⟩
    rw [← HR.out]
    clear HR
    first | (simp_all; done) | (simp_all; omega)

set_option maxHeartbeats 2000000 in
theorem args_any (m : Mth) (vc vh v : Value) (ps : List (List UInt8)) (base : Nat) (w : World) (h1 : Sl 6 RI w vc m.code) (h2 : Sl 4 RH w vh m.hs) (hv : w.ownsRow base 9 1 v ps.length (ps.map strV)) (hp : ps.length ≤ 8) :
    Calls Tryz.prog 211 #[.agg #[.string m.n, .string m.d, .bool m.st, .bool m.ab, .int .i64 m.sk, .int .i64 m.lo, vc, vh], v] w fun e w' => e = .returned (.int .i64 (argM m ps.length)) ∧ Ch w w' := by
  obtain ⟨ac, cc, rfl, _, _⟩ := h1.form
  obtain ⟨ah, ch, rfl, _, _⟩ := h2.form
  clear h1 h2
  have hw : ∀ w0, Ch w w0 → Calls Tryz.prog 261 #[v] w0 fun e w' => e = .returned (.int .i64 (ps.length : Int)) ∧ w' = w0 := fun w0 c => words_any v ps base w0 (ownsRow_keep hv c)
  unfold argM
  generalize m.code.length = l1
  generalize m.hs.length = l2
  generalize ps.length = n at *
  clear hv
  obtain ⟨q5, e5⟩ : ∃ q, m.st = q := ⟨_, rfl⟩
  rw [e5]
  have hwr : IntKind.i64.wrap ((n : Int) + 1) = (n : Int) + 1 := by rw [IntKind.wrap_i64]; omega
  cases q5
  all_goals
    go_enter Tryz.func211, Tryz.ntmps211
    go_wp2_with (first
      | (go_at_call 261; (with_reducible refine (hw _ ((Ch.refl w).alloc _)).mono ?_); rintro e w2 ⟨rfl, hw2⟩; have hw2 := hw2.symm; subst hw2))
    go_ret
    exact ⟨rfl, (Ch.refl w).alloc _⟩
end Go.Proofs.YthmepecmeambmaaGreat
namespace Go.Proofs.YthmepecmeambmaaGreat
open Go.RowKit
set_option linter.unusedVariables false

theorem or2 (a b : Int) (g : Nat) (w : World) (hg : w.heap[g]? = some (.cells #[.int .i64 a, .int .i64 b] 26)) :
    Calls Tryz.prog 142 #[.slice (some ⟨g, 0, none⟩) 2 2] w fun e w' => e = .returned (.int .i64 (orL [a, b])) ∧ w' = w := or_any [a, b] g 2 w hg rfl (by omega)
theorem or4 (a b c d : Int) (g : Nat) (w : World) (hg : w.heap[g]? = some (.cells #[.int .i64 a, .int .i64 b, .int .i64 c, .int .i64 d] 26)) :
    Calls Tryz.prog 142 #[.slice (some ⟨g, 0, none⟩) 4 4] w fun e w' => e = .returned (.int .i64 (orL [a, b, c, d])) ∧ w' = w := or_any [a, b, c, d] g 4 w hg rfl (by omega)

set_option maxHeartbeats 8000000 in
theorem checkCode_any (m : Mth) (vc vh : Value) (w : World) (hM : MFine m) (h1 : Sl 6 RI w vc m.code) (h2 : Sl 4 RH w vh m.hs) :
    Calls Tryz.prog 212 #[.agg #[.string m.n, .string m.d, .bool m.st, .bool m.ab, .int .i64 m.sk, .int .i64 m.lo, vc, vh]] w fun e w' => e = .returned (.int .i64 (codE m)) ∧ Ch w w' := by
  have hb1 : ((w.alloc (.cells (mthC m vc vh) 66)).alloc (.cells #[.int .i64 (m.code.length : Int)] 3)).heap[w.heap.size]? = some (.cells (mthC m vc vh) 66) := heap_alloc2_old _ _ _
  have hb2 : ((w.alloc (.cells (mthC m vc vh) 66)).alloc (.cells #[.int .i64 (m.code.length : Int)] 3)).heap[w.heap.size + 1]? = some (.cells #[.int .i64 (m.code.length : Int)] 3) := heap_alloc2_new _ _ _
  have hcW : Ch w ((w.alloc (.cells (mthC m vc vh) 66)).alloc (.cells #[.int .i64 (m.code.length : Int)] 3)) := ((Ch.refl w).alloc _).alloc _
  have hI : ∀ w0, Ch ((w.alloc (.cells (mthC m vc vh) 66)).alloc (.cells #[.int .i64 (m.code.length : Int)] 3)) w0 → Calls Tryz.prog 271 #[vc, .func (.func 272) #[] #[.pointer (some ⟨w.heap.size + 1, 0, none⟩), .pointer (some ⟨w.heap.size, 0, none⟩)]] w0 fun e w' => e = .returned (.int .i64 (firstF (insE m.code.length m.lo) m.code)) ∧ Ch w0 w' := fun w0 c =>
    firstI_any m.code vc w0 (h1.keepI (hcW.trans c)) m.code.length m.lo _ _ (by simp [World.cell?, kept_at c hb2]) (mthC_at (kept_at c hb1)).2.2.2.2.2.1 hM.code
  have hH : ∀ w0, Ch ((w.alloc (.cells (mthC m vc vh) 66)).alloc (.cells #[.int .i64 (m.code.length : Int)] 3)) w0 → Calls Tryz.prog 274 #[vh, .func (.func 275) #[] #[.pointer (some ⟨w.heap.size + 1, 0, none⟩)]] w0 fun e w' => e = .returned (.int .i64 (firstF (hndE m.code.length) m.hs)) ∧ Ch w0 w' := fun w0 c =>
    firstH_any m.hs vh w0 (h2.keepH (hcW.trans c)) m.code.length _ (by simp [World.cell?, kept_at c hb2]) hM.hs
  have HT : Hid (∀ w', Ch ((w.alloc (.cells (mthC m vc vh) 66)).alloc (.cells #[.int .i64 (m.code.length : Int)] 3)) w' → w'.cell? ⟨w.heap.size, 6, none⟩ = some vc ∧ w'.cell? ⟨w.heap.size, 7, none⟩ = some vh) := fun w' c => ⟨(mthC_at (kept_at c hb1)).2.2.2.2.2.2.1, (mthC_at (kept_at c hb1)).2.2.2.2.2.2.2⟩
  clear hb1 hb2
  unfold codE
  generalize firstF (insE m.code.length m.lo) m.code = r1 at *
  generalize firstF (hndE m.code.length) m.hs = r2 at *
  obtain ⟨ac, cc, rfl, _, _⟩ := h1.form
  obtain ⟨ah, ch, rfl, _, _⟩ := h2.form
  clear h1 h2 hM
  generalize m.code.length = l1 at *
  generalize m.hs.length = l2 at *
  unfold mthC at *
  go_enter Tryz.func212, Tryz.ntmps212
  go_wp2_with fail
  generalize (w.alloc (.cells #[.string m.n, .string m.d, .bool m.st, .bool m.ab, .int .i64 m.sk, .int .i64 m.lo, .slice ac l1 cc, .slice ah l2 ch] 66)).alloc (.cells #[.int .i64 (l1 : Int)] 3) = w1 at *
  go_region_held (fun w' => w'.cell? ⟨w.heap.size, 6, none⟩ = some (.slice ac l1 cc) ∧ w'.cell? ⟨w.heap.size, 7, none⟩ = some (.slice ah l2 ch))
    ((refine HT.out _ ?_; repeat (first | exact Ch.refl _ | refine Ch.drew ?_ | refine Ch.alloc ?_ _ | refine Ch.trans ?_ (by assumption)))) (first
      | (go_at_call 271; (with_reducible refine (hI _ (by repeat (first | exact Ch.refl _ | refine Ch.drew ?_ | refine Ch.alloc ?_ _ | refine Ch.trans ?_ (by assumption)))).mono ?_); rintro e w3 ⟨rfl, hc3⟩)
      | (go_at_call 274; (with_reducible refine (hH _ (by repeat (first | exact Ch.refl _ | refine Ch.drew ?_ | refine Ch.alloc ?_ _ | refine Ch.trans ?_ (by assumption)))).mono ?_); rintro e w4 ⟨rfl, hc4⟩)
      | (go_at_call 142; (with_reducible refine (or2 _ _ _ _ (by first | exact alloc_at _ _ _ (by simp) | exact alloc_at' _ _ _ (by simp))).mono ?_); rintro e w5 ⟨rfl, hx⟩; subst hx))
  all_goals
    go_wp2
    go_ret
    refine ⟨rfl, hcW.trans ?_⟩
    repeat (first | exact Ch.refl _ | refine Ch.drew ?_ | refine Ch.alloc ?_ _ | refine Ch.trans ?_ (by assumption))
end Go.Proofs.YthmepecmeambmaaGreat
namespace Go.Proofs.YthmepecmeambmaaGreat
open Go.RowKit
set_option linter.unusedVariables false

theorem meth_le {l : List UInt8} {p : List (List UInt8) × List UInt8} (h : meth l = some p) : p.1.length ≤ 8 := meth_len h

set_option maxHeartbeats 8000000 in
theorem checkMethod_any (m : Mth) (vc vh : Value) (w : World) (hM : MFine m) (h1 : Sl 6 RI w vc m.code) (h2 : Sl 4 RH w vh m.hs) :
    Calls Tryz.prog 147 #[.agg #[.string m.n, .string m.d, .bool m.st, .bool m.ab, .int .i64 m.sk, .int .i64 m.lo, vc, vh]] w fun e w' => e = .returned (.int .i64 (mthE m)) ∧ Ch w w' := by
  have HK : Hid (∀ w', Ch (w.alloc (.cells (mthC m vc vh) 66)) w' → _) := fun w' c => mthC_at (kept_at c (heap_alloc_new _ _))
  have hcW : Ch w (w.alloc (.cells (mthC m vc vh) 66)) := (Ch.refl w).alloc _
  have hma : ∀ r w0, Ch w w0 → Calls Tryz.prog 208 #[.agg #[.string m.n, .string m.d, .bool m.st, .bool m.ab, .int .i64 m.sk, .int .i64 m.lo, vc, vh], .string r] w0 fun e w' => e = .returned (.bool (mayN m r)) ∧ Ch w0 w' := fun r w0 c => mayBe_any m r vc vh w0 hM.n (h1.keepI c) (h2.keepH c)
  have hwi : ∀ w0, Ch w w0 → Calls Tryz.prog 209 #[.agg #[.string m.n, .string m.d, .bool m.st, .bool m.ab, .int .i64 m.sk, .int .i64 m.lo, vc, vh]] w0 fun e w' => e = .returned (.bool (witM m)) ∧ Ch w0 w' := fun w0 c => within36_any m vc vh w0 (h1.keepI c) (h2.keepH c)
  have hba : ∀ w0, Ch w w0 → Calls Tryz.prog 210 #[.agg #[.string m.n, .string m.d, .bool m.st, .bool m.ab, .int .i64 m.sk, .int .i64 m.lo, vc, vh]] w0 fun e w' => e = .returned (.bool (barM m)) ∧ Ch w0 w' := fun w0 c => bare_any m vc vh w0 (h1.keepI c) (h2.keepH c)
  have hco : ∀ w0, Ch w w0 → Calls Tryz.prog 212 #[.agg #[.string m.n, .string m.d, .bool m.st, .bool m.ab, .int .i64 m.sk, .int .i64 m.lo, vc, vh]] w0 fun e w' => e = .returned (.int .i64 (codE m)) ∧ Ch w0 w' := fun w0 c => checkCode_any m vc vh w0 hM (h1.keepI c) (h2.keepH c)
  have har : ∀ (v : Value) (ps : List (List UInt8)) (base : Nat) w0, Ch w w0 → w0.ownsRow base 9 1 v ps.length (ps.map strV) → ps.length ≤ 8 → Calls Tryz.prog 211 #[.agg #[.string m.n, .string m.d, .bool m.st, .bool m.ab, .int .i64 m.sk, .int .i64 m.lo, vc, vh], v] w0 fun e w' => e = .returned (.int .i64 (argM m ps.length)) ∧ Ch w0 w' := fun v ps base w0 c hv hp => args_any m vc vh v ps base w0 (h1.keepI c) (h2.keepH c) hv hp
  have hds : m.d.size ≤ 100000 := Nat.le_trans hM.d (by omega)
  obtain ⟨ac, cc, rfl, _, _⟩ := h1.form
  obtain ⟨ah, ch, rfl, _, _⟩ := h2.form
  unfold mthE
  cases hme : meth (bl m.d) with
  | none =>
    have hmet := fun w0 => method_no hme hds w0
    clear hme hM h1 h2 hma hwi hba hco har
    go_enter Tryz.func147, Tryz.ntmps147
    go_wp2_with (first
      | (go_at_call 207; (with_reducible refine (hmet _).mono ?_); rintro e w3 ⟨rfl, hc3⟩))
    go_ret
    exact ⟨rfl, hcW.trans hc3⟩
  | some p =>
    have hmet := fun w0 => method_yes hme hds w0
    have hp8 := meth_le hme
    simp only
    have hma' := hma (ms p.2)
    clear hme hM h1 h2 hma
    generalize mayN m (ms p.2) = b1 at *
    generalize witM m = b2 at *
    generalize barM m = b3 at *
    generalize codE m = rc at *
    generalize ms p.2 = res at *
    generalize m.hs.length = l2 at *
    obtain ⟨q0, e0⟩ : ∃ q, ((m.code.length : Int) == 0) = q := ⟨_, rfl⟩
    rw [e0]
    generalize m.code.length = l1 at *
    obtain ⟨qa, ea⟩ : ∃ q, m.ab = q := ⟨_, rfl⟩
    unfold mthC at HK hcW
    simp only [ea] at HK hcW hma' hwi hba hco har ⊢
    cases b1
    · clear hwi hba hco har
      go_enter Tryz.func147, Tryz.ntmps147
      go_wp2_with (first
        | (go_at_call 207; (with_reducible refine (hmet _).mono ?_); rintro e w3 ⟨v3, rfl, ho3, hc3⟩; obtain ⟨z0, z1, z2, z3, z4, z5, z6, z7⟩ := HK.out _ hc3)
        | (go_at_call 208; (with_reducible refine (hma' _ (hcW.trans hc3)).mono ?_); rintro e w4 ⟨rfl, hc4⟩; have hd4 := hc3.trans hc4; obtain ⟨y0, y1, y2, y3, y4, y5, y6, y7⟩ := HK.out _ hd4))
      go_ret
      exact ⟨rfl, hcW.trans hd4⟩
    cases b2
    · clear hba hco har
      go_enter Tryz.func147, Tryz.ntmps147
      go_wp2_with (first
        | (go_at_call 207; (with_reducible refine (hmet _).mono ?_); rintro e w3 ⟨v3, rfl, ho3, hc3⟩; obtain ⟨z0, z1, z2, z3, z4, z5, z6, z7⟩ := HK.out _ hc3)
        | (go_at_call 208; (with_reducible refine (hma' _ (hcW.trans hc3)).mono ?_); rintro e w4 ⟨rfl, hc4⟩; have hd4 := hc3.trans hc4; obtain ⟨y0, y1, y2, y3, y4, y5, y6, y7⟩ := HK.out _ hd4)
        | (go_at_call 209; (with_reducible refine (hwi _ (hcW.trans hd4)).mono ?_); rintro e w5 ⟨rfl, hc5⟩; have hd5 := hd4.trans hc5; obtain ⟨x0, x1, x2, x3, x4, x5, x6, x7⟩ := HK.out _ hd5))
      go_ret
      exact ⟨rfl, hcW.trans hd5⟩
    cases qa
    · cases q0
      · clear hba
        obtain ⟨fin, hfin⟩ : ∃ f, (if m.lo < argM m p.1.length then 4 else rc) = f := ⟨_, rfl⟩
        show Calls _ _ _ _ (fun e w' => e = .returned (.int .i64 (if m.lo < argM m p.1.length then 4 else rc)) ∧ Ch w w')
        rw [hfin]
        have HF : Hid ((if m.lo < argM m p.1.length then 4 else rc) = fin) := hfin
        clear hfin
        go_enter Tryz.func147, Tryz.ntmps147
        go_wp2_with (first
          | (go_at_call 207; (with_reducible refine (hmet _).mono ?_); rintro e w3 ⟨v3, rfl, ho3, hc3⟩; obtain ⟨z0, z1, z2, z3, z4, z5, z6, z7⟩ := HK.out _ hc3)
          | (go_at_call 208; (with_reducible refine (hma' _ (hcW.trans hc3)).mono ?_); rintro e w4 ⟨rfl, hc4⟩; have hd4 := hc3.trans hc4; obtain ⟨y0, y1, y2, y3, y4, y5, y6, y7⟩ := HK.out _ hd4)
          | (go_at_call 209; (with_reducible refine (hwi _ (hcW.trans hd4)).mono ?_); rintro e w5 ⟨rfl, hc5⟩; have hd5 := hd4.trans hc5; obtain ⟨x0, x1, x2, x3, x4, x5, x6, x7⟩ := HK.out _ hd5))
        have HT : Hid (∀ w', Ch w5 w' → w'.cell? ⟨w.heap.size, 0, none⟩ = some (.string m.n) ∧ w'.cell? ⟨w.heap.size, 1, none⟩ = some (.string m.d) ∧ w'.cell? ⟨w.heap.size, 2, none⟩ = some (.bool m.st) ∧ w'.cell? ⟨w.heap.size, 3, none⟩ = some (.bool false) ∧ w'.cell? ⟨w.heap.size, 4, none⟩ = some (.int .i64 m.sk) ∧ w'.cell? ⟨w.heap.size, 5, none⟩ = some (.int .i64 m.lo) ∧ w'.cell? ⟨w.heap.size, 6, none⟩ = some (.slice ac l1 cc) ∧ w'.cell? ⟨w.heap.size, 7, none⟩ = some (.slice ah l2 ch)) := fun w' c => HK.out _ (hd5.trans c)
        have har' : ∀ w0, Ch w5 w0 → _ := fun w0 c => har v3 p.1 _ w0 (hcW.trans (hd5.trans c)) (ownsRow_keep ho3 ((hc4.trans hc5).trans c)) hp8
        have hd5' := hcW.trans hd5
        clear har z0 z1 z2 z3 z4 z5 z6 z7 y0 y1 y2 y3 y4 y5 y6 y7 hmet hma' hwi
        go_region_held (fun w' => w'.cell? ⟨w.heap.size, 0, none⟩ = some (.string m.n) ∧ w'.cell? ⟨w.heap.size, 1, none⟩ = some (.string m.d) ∧ w'.cell? ⟨w.heap.size, 2, none⟩ = some (.bool m.st) ∧ w'.cell? ⟨w.heap.size, 3, none⟩ = some (.bool false) ∧ w'.cell? ⟨w.heap.size, 4, none⟩ = some (.int .i64 m.sk) ∧ w'.cell? ⟨w.heap.size, 5, none⟩ = some (.int .i64 m.lo) ∧ w'.cell? ⟨w.heap.size, 6, none⟩ = some (.slice ac l1 cc) ∧ w'.cell? ⟨w.heap.size, 7, none⟩ = some (.slice ah l2 ch))
          ((refine HT.out _ ?_; repeat (first | exact Ch.refl _ | refine Ch.drew ?_ | refine Ch.alloc ?_ _ | refine Ch.trans ?_ (by assumption)))) (first
            | (go_at_call 211; (with_reducible refine (har' _ (by repeat (first | exact Ch.refl _ | refine Ch.drew ?_ | refine Ch.alloc ?_ _ | refine Ch.trans ?_ (by assumption)))).mono ?_); rintro e w6 ⟨rfl, hc6⟩))
        all_goals
          have hc6' : Ch w5 w6 := (Ch.refl w5).drew.trans hc6
          by_cases hlo : m.lo < argM m p.1.length
          · have t1 : decide (m.lo < argM m p.1.length) = true := by simpa using hlo
            have e := HF.out
            rw [if_pos hlo] at e
            clear HF
            subst e
            go_wp2
            go_ret
            exact ⟨rfl, hd5'.trans hc6'⟩
          · have t1 : decide (m.lo < argM m p.1.length) = false := by simpa using hlo
            have e := HF.out
            rw [if_neg hlo] at e
            clear HF
            subst e
            obtain ⟨u0, u1, u2, u3, u4, u5, u6, u7⟩ := HT.out _ hc6'
            go_wp2_with (first
              | (go_at_call 212; (with_reducible refine (hco _ (hd5'.trans hc6')).mono ?_); rintro e w7 ⟨rfl, hc7⟩))
            go_ret
            exact ⟨rfl, (hd5'.trans hc6').trans hc7⟩
      · clear hba hco har
        go_enter Tryz.func147, Tryz.ntmps147
        go_wp2_with (first
          | (go_at_call 207; (with_reducible refine (hmet _).mono ?_); rintro e w3 ⟨v3, rfl, ho3, hc3⟩; obtain ⟨z0, z1, z2, z3, z4, z5, z6, z7⟩ := HK.out _ hc3)
          | (go_at_call 208; (with_reducible refine (hma' _ (hcW.trans hc3)).mono ?_); rintro e w4 ⟨rfl, hc4⟩; have hd4 := hc3.trans hc4; obtain ⟨y0, y1, y2, y3, y4, y5, y6, y7⟩ := HK.out _ hd4)
          | (go_at_call 209; (with_reducible refine (hwi _ (hcW.trans hd4)).mono ?_); rintro e w5 ⟨rfl, hc5⟩; have hd5 := hd4.trans hc5; obtain ⟨x0, x1, x2, x3, x4, x5, x6, x7⟩ := HK.out _ hd5))
        go_ret
        exact ⟨rfl, hcW.trans hd5⟩
    · cases b3
      · clear hco har
        go_enter Tryz.func147, Tryz.ntmps147
        go_wp2_with (first
          | (go_at_call 207; (with_reducible refine (hmet _).mono ?_); rintro e w3 ⟨v3, rfl, ho3, hc3⟩; obtain ⟨z0, z1, z2, z3, z4, z5, z6, z7⟩ := HK.out _ hc3)
          | (go_at_call 208; (with_reducible refine (hma' _ (hcW.trans hc3)).mono ?_); rintro e w4 ⟨rfl, hc4⟩; have hd4 := hc3.trans hc4; obtain ⟨y0, y1, y2, y3, y4, y5, y6, y7⟩ := HK.out _ hd4)
          | (go_at_call 209; (with_reducible refine (hwi _ (hcW.trans hd4)).mono ?_); rintro e w5 ⟨rfl, hc5⟩; have hd5 := hd4.trans hc5; obtain ⟨x0, x1, x2, x3, x4, x5, x6, x7⟩ := HK.out _ hd5)
          | (go_at_call 210; (with_reducible refine (hba _ (hcW.trans hd5)).mono ?_); rintro e w6 ⟨rfl, hc6⟩; have hd6 := hd5.trans hc6; obtain ⟨u0, u1, u2, u3, u4, u5, u6, u7⟩ := HK.out _ hd6))
        go_ret
        exact ⟨rfl, hcW.trans hd6⟩
      · clear hco har
        go_enter Tryz.func147, Tryz.ntmps147
        go_wp2_with (first
          | (go_at_call 207; (with_reducible refine (hmet _).mono ?_); rintro e w3 ⟨v3, rfl, ho3, hc3⟩; obtain ⟨z0, z1, z2, z3, z4, z5, z6, z7⟩ := HK.out _ hc3)
          | (go_at_call 208; (with_reducible refine (hma' _ (hcW.trans hc3)).mono ?_); rintro e w4 ⟨rfl, hc4⟩; have hd4 := hc3.trans hc4; obtain ⟨y0, y1, y2, y3, y4, y5, y6, y7⟩ := HK.out _ hd4)
          | (go_at_call 209; (with_reducible refine (hwi _ (hcW.trans hd4)).mono ?_); rintro e w5 ⟨rfl, hc5⟩; have hd5 := hd4.trans hc5; obtain ⟨x0, x1, x2, x3, x4, x5, x6, x7⟩ := HK.out _ hd5)
          | (go_at_call 210; (with_reducible refine (hba _ (hcW.trans hd5)).mono ?_); rintro e w6 ⟨rfl, hc6⟩; have hd6 := hd5.trans hc6; obtain ⟨u0, u1, u2, u3, u4, u5, u6, u7⟩ := HK.out _ hd6))
        go_ret
        exact ⟨rfl, hcW.trans hd6⟩
end Go.Proofs.YthmepecmeambmaaGreat
