/- The document's own check of an instruction. -/
import Derived.Test.YtdalibfgkkgcpaaGreatKRefA
import Derived.Test.YtdalibfgkkgcpaaGreatKKp
import Derived.Test.YtdalibfgkkgcpaaGreatKPoolB
import Derived.Test.YtdalibfgkkgcpaaGreatKChkB
namespace Go.Proofs.YtdalibfgkkgcpaaGreat
open Go.RowKit
set_option linter.unusedVariables false

theorem int32_any (n : Int) (w : World) : Calls Tryz.prog 116 #[.int .i64 n] w fun e w' => e = .returned (.bool (isI n)) ∧ w' = w := by
  have e : isI n = (decide (-2147483648 ≤ n) && decide (n < 2147483648)) := by
    unfold isI
    congr 1
    rw [decide_eq_decide]; omega
  rw [e]
  obtain ⟨a, ha⟩ : ∃ a, decide (-2147483648 ≤ n) = a := ⟨_, rfl⟩
  obtain ⟨b, hb⟩ : ∃ b, decide (n < 2147483648) = b := ⟨_, rfl⟩
  rw [ha, hb]
  cases a
  all_goals
    go_enter Tryz.func116, Tryz.ntmps116
    go_wp2
    go_ret
    exact ⟨rfl, rfl⟩
def fldO (op : Int) : Bool := decide (22 ≤ op) && decide (op ≤ 25)
def calO (op : Int) : Bool := decide (32 ≤ op) && decide (op ≤ 35)
def jmpO (op : Int) : Bool := (op == 17) || ((op == 18) || ((op == 19) || (op == 20)))
theorem isField_any (op : Int) (w : World) : Calls Tryz.prog 117 #[.int .i64 op] w fun e w' => e = .returned (.bool (fldO op)) ∧ w' = w := by
  unfold fldO
  obtain ⟨a, ha⟩ : ∃ a, decide (22 ≤ op) = a := ⟨_, rfl⟩
  obtain ⟨b, hb⟩ : ∃ b, decide (op ≤ 25) = b := ⟨_, rfl⟩
  rw [ha, hb]
  cases a
  all_goals
    go_enter Tryz.func117, Tryz.ntmps117
    go_wp2
    go_ret
    exact ⟨rfl, rfl⟩
theorem isCall_any (op : Int) (w : World) : Calls Tryz.prog 118 #[.int .i64 op] w fun e w' => e = .returned (.bool (calO op)) ∧ w' = w := by
  unfold calO
  obtain ⟨a, ha⟩ : ∃ a, decide (32 ≤ op) = a := ⟨_, rfl⟩
  obtain ⟨b, hb⟩ : ∃ b, decide (op ≤ 35) = b := ⟨_, rfl⟩
  rw [ha, hb]
  cases a
  all_goals
    go_enter Tryz.func118, Tryz.ntmps118
    go_wp2
    go_ret
    exact ⟨rfl, rfl⟩
theorem jumps_any (op : Int) (w : World) : Calls Tryz.prog 121 #[.int .i64 op] w fun e w' => e = .returned (.bool (jmpO op)) ∧ w' = w := by
  unfold jmpO
  obtain ⟨a, ha⟩ : ∃ a, (op == 17) = a := ⟨_, rfl⟩
  obtain ⟨b, hb⟩ : ∃ b, (op == 18) = b := ⟨_, rfl⟩
  obtain ⟨c, hc⟩ : ∃ b, (op == 19) = b := ⟨_, rfl⟩
  obtain ⟨d, hd⟩ : ∃ b, (op == 20) = b := ⟨_, rfl⟩
  rw [ha, hb, hc, hd]
  cases a <;> cases b <;> cases c
  all_goals
    go_enter Tryz.func121, Tryz.ntmps121
    go_wp2
    go_ret
    exact ⟨rfl, rfl⟩

def PtC (kn s1 s2 s3 s4 s5 fl ca ju q26 q30 q31 q5 q6 : Bool) : Prop := (kn = false ∧ s1 = false ∧ s2 = false ∧ s3 = false ∧ s4 = false ∧ s5 = false ∧ fl = false ∧ ca = false ∧ ju = false ∧ q26 = false ∧ q30 = false ∧ q31 = false ∧ q5 = false ∧ q6 = false) ∨ (kn = true ∧ s1 = false ∧ s2 = false ∧ s3 = false ∧ s4 = false ∧ s5 = false ∧ fl = false ∧ ca = false ∧ ju = false ∧ q26 = false ∧ q30 = false ∧ q31 = false ∧ q5 = false ∧ q6 = false) ∨ (kn = true ∧ s1 = true ∧ s2 = false ∧ s3 = false ∧ s4 = false ∧ s5 = false ∧ fl = false ∧ ca = false ∧ ju = false ∧ q26 = false ∧ q30 = false ∧ q31 = false ∧ q5 = false ∧ q6 = false) ∨ (kn = true ∧ s1 = true ∧ s2 = true ∧ s3 = false ∧ s4 = false ∧ s5 = false ∧ fl = false ∧ ca = false ∧ ju = false ∧ q26 = false ∧ q30 = false ∧ q31 = false ∧ q5 = false ∧ q6 = false) ∨ (kn = true ∧ s1 = true ∧ s2 = false ∧ s3 = false ∧ s4 = false ∧ s5 = false ∧ fl = false ∧ ca = false ∧ ju = false ∧ q26 = false ∧ q30 = false ∧ q31 = false ∧ q5 = true ∧ q6 = false) ∨ (kn = true ∧ s1 = true ∧ s2 = false ∧ s3 = false ∧ s4 = false ∧ s5 = false ∧ fl = false ∧ ca = false ∧ ju = false ∧ q26 = false ∧ q30 = false ∧ q31 = false ∧ q5 = false ∧ q6 = true) ∨ (kn = true ∧ s1 = true ∧ s2 = false ∧ s3 = false ∧ s4 = false ∧ s5 = false ∧ fl = false ∧ ca = false ∧ ju = true ∧ q26 = false ∧ q30 = false ∧ q31 = false ∧ q5 = false ∧ q6 = false) ∨ (kn = true ∧ s1 = false ∧ s2 = false ∧ s3 = true ∧ s4 = false ∧ s5 = false ∧ fl = false ∧ ca = false ∧ ju = false ∧ q26 = false ∧ q30 = false ∧ q31 = false ∧ q5 = false ∧ q6 = false) ∨ (kn = true ∧ s1 = false ∧ s2 = false ∧ s3 = false ∧ s4 = false ∧ s5 = true ∧ fl = false ∧ ca = false ∧ ju = false ∧ q26 = true ∧ q30 = false ∧ q31 = false ∧ q5 = false ∧ q6 = false) ∨ (kn = true ∧ s1 = false ∧ s2 = false ∧ s3 = false ∧ s4 = false ∧ s5 = true ∧ fl = false ∧ ca = false ∧ ju = false ∧ q26 = false ∧ q30 = true ∧ q31 = false ∧ q5 = false ∧ q6 = false) ∨ (kn = true ∧ s1 = false ∧ s2 = false ∧ s3 = false ∧ s4 = false ∧ s5 = true ∧ fl = false ∧ ca = false ∧ ju = false ∧ q26 = false ∧ q30 = false ∧ q31 = true ∧ q5 = false ∧ q6 = false) ∨ (kn = true ∧ s1 = false ∧ s2 = false ∧ s3 = true ∧ s4 = true ∧ s5 = true ∧ fl = true ∧ ca = false ∧ ju = false ∧ q26 = false ∧ q30 = false ∧ q31 = false ∧ q5 = false ∧ q6 = false) ∨ (kn = true ∧ s1 = false ∧ s2 = false ∧ s3 = true ∧ s4 = true ∧ s5 = true ∧ fl = false ∧ ca = true ∧ ju = false ∧ q26 = false ∧ q30 = false ∧ q31 = false ∧ q5 = false ∧ q6 = false)
def resC (kn s1 s2 s3 fl ca ju q26 q30 q31 q5 q6 ia ib nc nn ty mn cl ii o33 bm ae rf l0 gl gs : Bool) : Int :=
  if !kn then 3 else if s1 && !ia || s2 && !ib then 5 else if s3 && !nc then 6 else if fl && (!nn || !ty) then 6 else if ca && (!mn || cl || ii && o33 || bm) then 6 else if q26 && (!ty || ae) then 6 else if (q30 || q31) && !rf then 6
  else if (q5 || q6) && (l0 || gl) then 4 else if ju && (l0 || gs) then 4 else 0

set_option maxRecDepth 100000 in
set_option maxHeartbeats 16000000 in
theorem refCheck_at (op a b len loc ec : Int) (c n d ar : ByteArray) (w : World) (kn s1 s2 s3 s4 s5 fl ca ju q26 q30 q31 q5 q6 ia ib nc nn ty mn cl ii o33 bm ae rf l0 gl gs : Bool) (hp : PtC kn s1 s2 s3 s4 s5 fl ca ju q26 q30 q31 q5 q6)
    (hs : ∀ w0, Calls Tryz.prog 33 #[.int .i64 op] w0 fun e w' => e = .returned (.tuple #[.agg #[.bool s1, .bool s2, .bool s3, .bool s4, .bool s5], .bool kn]) ∧ Ch w0 w')
    (ha : ∀ w0, Calls Tryz.prog 116 #[.int .i64 a] w0 fun e w' => e = .returned (.bool ia) ∧ w' = w0)
    (hb : ∀ w0, Calls Tryz.prog 116 #[.int .i64 b] w0 fun e w' => e = .returned (.bool ib) ∧ w' = w0)
    (hm : ∀ w0, Calls Tryz.prog 79 #[.string d] w0 fun e w' => ∃ v r, e = .returned (.tuple #[v, .string r, .int .i64 ec]) ∧ Ch w0 w') (hec : (ec != 0) = bm)
    (hnc : ∀ w0, Calls Tryz.prog 41 #[.string c] w0 fun e w' => e = .returned (.bool nc) ∧ w' = w0)
    (hnn : ∀ w0, Calls Tryz.prog 41 #[.string n] w0 fun e w' => e = .returned (.bool nn) ∧ w' = w0)
    (hty : ∀ w0, Calls Tryz.prog 42 #[.string d] w0 fun e w' => e = .returned (.bool ty) ∧ w' = w0)
    (hmn : ∀ w0, Calls Tryz.prog 80 #[.string n] w0 fun e w' => e = .returned (.bool mn) ∧ w' = w0)
    (hfl : ∀ w0, Calls Tryz.prog 117 #[.int .i64 op] w0 fun e w' => e = .returned (.bool fl) ∧ w' = w0)
    (hca : ∀ w0, Calls Tryz.prog 118 #[.int .i64 op] w0 fun e w' => e = .returned (.bool ca) ∧ w' = w0)
    (hju : ∀ w0, Calls Tryz.prog 121 #[.int .i64 op] w0 fun e w' => e = .returned (.bool ju) ∧ w' = w0)
    (har : ∀ w0, Calls Tryz.prog 119 #[.string d] w0 fun e w' => e = .returned (.string ar) ∧ w' = w0) (hae : (ar.toList == []) = ae)
    (hrf : ∀ w0, Calls Tryz.prog 120 #[.string d] w0 fun e w' => e = .returned (.bool rf) ∧ w' = w0)
    (hcl : (n.toList == [60, 99, 108, 105, 110, 105, 116, 62]) = cl) (hii : (n.toList == [60, 105, 110, 105, 116, 62]) = ii) (h33 : (op != 33) = o33)
    (e26 : (op == 26) = q26) (e30 : (op == 30) = q30) (e31 : (op == 31) = q31) (e5 : (op == 5) = q5) (e6 : (op == 6) = q6)
    (hl0 : decide (a < 0) = l0) (hgl : decide (loc ≤ a) = gl) (hgs : decide (len ≤ a) = gs) :
    Calls Tryz.prog 81 #[.agg #[.int .i64 op, .int .i64 a, .int .i64 b, .string c, .string n, .string d], .int .i64 len, .int .i64 loc] w fun e w' => e = .returned (.int .i64 (resC kn s1 s2 s3 fl ca ju q26 q30 q31 q5 q6 ia ib nc nn ty mn cl ii o33 bm ae rf l0 gl gs)) ∧ Ch w w' := by
  obtain ⟨x, hx⟩ : ∃ x, x = resC kn s1 s2 s3 fl ca ju q26 q30 q31 q5 q6 ia ib nc nn ty mn cl ii o33 bm ae rf l0 gl gs := ⟨_, rfl⟩
  rw [← hx]
  have HX : Hid (x = resC kn s1 s2 s3 fl ca ju q26 q30 q31 q5 q6 ia ib nc nn ty mn cl ii o33 bm ae rf l0 gl gs) := hx
  clear hx
  rcases hp with ⟨rfl, rfl, rfl, rfl, rfl, rfl, rfl, rfl, rfl, rfl, rfl, rfl, rfl, rfl⟩ | ⟨rfl, rfl, rfl, rfl, rfl, rfl, rfl, rfl, rfl, rfl, rfl, rfl, rfl, rfl⟩ | ⟨rfl, rfl, rfl, rfl, rfl, rfl, rfl, rfl, rfl, rfl, rfl, rfl, rfl, rfl⟩ | ⟨rfl, rfl, rfl, rfl, rfl, rfl, rfl, rfl, rfl, rfl, rfl, rfl, rfl, rfl⟩ | ⟨rfl, rfl, rfl, rfl, rfl, rfl, rfl, rfl, rfl, rfl, rfl, rfl, rfl, rfl⟩ | ⟨rfl, rfl, rfl, rfl, rfl, rfl, rfl, rfl, rfl, rfl, rfl, rfl, rfl, rfl⟩ | ⟨rfl, rfl, rfl, rfl, rfl, rfl, rfl, rfl, rfl, rfl, rfl, rfl, rfl, rfl⟩ | ⟨rfl, rfl, rfl, rfl, rfl, rfl, rfl, rfl, rfl, rfl, rfl, rfl, rfl, rfl⟩ | ⟨rfl, rfl, rfl, rfl, rfl, rfl, rfl, rfl, rfl, rfl, rfl, rfl, rfl, rfl⟩ | ⟨rfl, rfl, rfl, rfl, rfl, rfl, rfl, rfl, rfl, rfl, rfl, rfl, rfl, rfl⟩ | ⟨rfl, rfl, rfl, rfl, rfl, rfl, rfl, rfl, rfl, rfl, rfl, rfl, rfl, rfl⟩ | ⟨rfl, rfl, rfl, rfl, rfl, rfl, rfl, rfl, rfl, rfl, rfl, rfl, rfl, rfl⟩ | ⟨rfl, rfl, rfl, rfl, rfl, rfl, rfl, rfl, rfl, rfl, rfl, rfl, rfl, rfl⟩
  all_goals
    go_enter Tryz.func81, Tryz.ntmps81
    go_wp2_with (first
      | (go_at_call 33; (with_reducible refine (hs _).mono ?_); rintro e w3 ⟨rfl, hc3⟩; obtain ⟨r0, r1, r2, r3, r4, r5⟩ := insC_at (ins_kept hc3); have hlt := Ch.past hc3)
      | (go_at_call 116; (with_reducible refine (ha _).mono ?_); rintro e w' ⟨rfl, hx⟩; have hx := hx.symm; subst hx)
      | (go_at_call 116; (with_reducible refine (hb _).mono ?_); rintro e w' ⟨rfl, hx⟩; have hx := hx.symm; subst hx)
      | (go_at_call 79; (with_reducible refine (hm _).mono ?_); rintro e w5 ⟨v5, t5, rfl, hc5⟩; have hc5w := Ch.trans ((Ch.trans ((Ch.refl w).alloc _) hc3).alloc _) hc5; obtain ⟨y0, y1, y2, y3, y4⟩ := shC_at (kept_at hc5 (heap_alloc_new _ _)); obtain ⟨z0, z1, z2, z3, z4, z5⟩ := insC_at (kept_at hc5 (kept_at ((Ch.refl w3).alloc _) (ins_kept hc3))))
      | (go_at_call 41; (with_reducible refine (hnc _).mono ?_); rintro e w' ⟨rfl, hx⟩; have hx := hx.symm; subst hx)
      | (go_at_call 41; (with_reducible refine (hnn _).mono ?_); rintro e w' ⟨rfl, hx⟩; have hx := hx.symm; subst hx)
      | (go_at_call 42; (with_reducible refine (hty _).mono ?_); rintro e w' ⟨rfl, hx⟩; have hx := hx.symm; subst hx)
      | (go_at_call 80; (with_reducible refine (hmn _).mono ?_); rintro e w' ⟨rfl, hx⟩; have hx := hx.symm; subst hx)
      | (go_at_call 117; (with_reducible refine (hfl _).mono ?_); rintro e w' ⟨rfl, hx⟩; have hx := hx.symm; subst hx)
      | (go_at_call 118; (with_reducible refine (hca _).mono ?_); rintro e w' ⟨rfl, hx⟩; have hx := hx.symm; subst hx)
      | (go_at_call 121; (with_reducible refine (hju _).mono ?_); rintro e w' ⟨rfl, hx⟩; have hx := hx.symm; subst hx)
      | (go_at_call 119; (with_reducible refine (har _).mono ?_); rintro e w' ⟨rfl, hx⟩; have hx := hx.symm; subst hx)
      | (go_at_call 120; (with_reducible refine (hrf _).mono ?_); rintro e w' ⟨rfl, hx⟩; have hx := hx.symm; subst hx))
  all_goals go_ret
  all_goals
    refine ⟨?_, ?_⟩
    · rw [HX.out]
      clear hs ha hb hm hnc hnn hty hmn hfl hca hju har hrf HX
      simp_all [resC]
    · first
        | exact hc5w
        | exact (((Ch.refl w).alloc _).trans hc3).alloc _
end Go.Proofs.YtdalibfgkkgcpaaGreat
