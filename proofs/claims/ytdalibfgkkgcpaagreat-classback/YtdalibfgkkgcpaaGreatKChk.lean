/- Whether an instruction may be. -/
import Derived.Test.YtdalibfgkkgcpaaGreatKNam
namespace Go.Proofs.YtdalibfgkkgcpaaGreat
open Go.RowKit
set_option linter.unusedVariables false

def isI (n : Int) : Bool := decide (-2147483648 ≤ n) && decide (n ≤ 2147483647)
def wi (n s : Int) : Bool := decide (0 ≤ n) && decide (n < s)
/-- The first fault of an instruction, by the kind of its Op; 0: none. -/
def chk (k op a b : Int) (c n d : List UInt8) (len loc : Int) : Int :=
  if k = 0 then 3 else if sA k && !isI a || sB k && !isI b then 5 else if !nam k op c n d then 6 else if k == 4 && !wi a loc || k == 5 && !wi a len then 4 else 0

theorem isInt_as {n : Int} {b : Bool} (h : isI n = b) (w : World) : Calls Tryz.prog 135 #[.int .i64 n] w fun e w' => e = .returned (.bool b) ∧ w' = w := by
  subst h; exact isInt_any n w
theorem within_as {n s : Int} {b : Bool} (h : wi n s = b) (w : World) : Calls Tryz.prog 137 #[.int .i64 n, .int .i64 s] w fun e w' => e = .returned (.bool b) ∧ w' = w := by
  subst h; exact within_any n s w

/-- The walk, where the kind and all that is asked are told. -/
theorem check_at (op a b k n2 n3 len loc : Int) (wb c n d : ByteArray) (w : World) (s1 s2 s3 s4 s5 ia ib nb wl wj : Bool) (x : Int)
    (hr : ∀ w0, Calls Tryz.prog 129 #[.int .i64 op] w0 fun e w' => e = .returned (.agg #[.string wb, .int .i64 k, .int .i64 n2, .int .i64 n3]) ∧ Ch w0 w')
    (hs : ∀ w0, Calls Tryz.prog 130 #[.int .i64 k] w0 fun e w' => e = .returned (.agg #[.bool s1, .bool s2, .bool s3, .bool s4, .bool s5]) ∧ Ch w0 w')
    (hn : ∀ w0, Calls Tryz.prog 136 #[.agg #[.int .i64 op, .int .i64 a, .int .i64 b, .string c, .string n, .string d], .int .i64 k] w0 fun e w' => e = .returned (.bool nb) ∧ Ch w0 w')
    (ha : ∀ w0, Calls Tryz.prog 135 #[.int .i64 a] w0 fun e w' => e = .returned (.bool ia) ∧ w' = w0)
    (hb : ∀ w0, Calls Tryz.prog 135 #[.int .i64 b] w0 fun e w' => e = .returned (.bool ib) ∧ w' = w0)
    (hl : ∀ w0, Calls Tryz.prog 137 #[.int .i64 a, .int .i64 loc] w0 fun e w' => e = .returned (.bool wl) ∧ w' = w0)
    (hj : ∀ w0, Calls Tryz.prog 137 #[.int .i64 a, .int .i64 len] w0 fun e w' => e = .returned (.bool wj) ∧ w' = w0)
    (k0 k4 k5 : Bool) (e0 : (k == 0) = k0) (e4 : (k == 4) = k4) (e5 : (k == 5) = k5)
    (hx : x = if k0 then 3 else if s1 && !ia || s2 && !ib then 5 else if !nb then 6 else if k4 && !wl || k5 && !wj then 4 else 0) :
    Calls Tryz.prog 112 #[.agg #[.int .i64 op, .int .i64 a, .int .i64 b, .string c, .string n, .string d], .int .i64 len, .int .i64 loc] w fun e w' => e = .returned (.int .i64 x) ∧ Ch w w' := by
  have HX : Hid (x = if k0 then 3 else if s1 && !ia || s2 && !ib then 5 else if !nb then 6 else if k4 && !wl || k5 && !wj then 4 else 0) := hx
  clear hx
  have hf := fld1 wb k n2 n3
  go_enter Tryz.func112, Tryz.ntmps112
  go_wp2_with (first
    | (go_at_call 129; (with_reducible refine (hr _).mono ?_); rintro e w3 ⟨rfl, hc3⟩)
    | (go_at_call 130; (with_reducible refine (hs _).mono ?_); rintro e w4 ⟨rfl, hc4⟩; have hcc := hc3.trans hc4; obtain ⟨q0, q1, q2, q3, q4, q5⟩ := insC_at (ins_kept hcc); have hlt := Ch.past hcc)
    | (go_at_call 135; (with_reducible refine (ha _).mono ?_); rintro e w5 ⟨rfl, hx⟩; have hx := hx.symm; subst hx)
    | (go_at_call 135; (with_reducible refine (hb _).mono ?_); rintro e w5 ⟨rfl, hx⟩; have hx := hx.symm; subst hx)
    | (go_at_call 136; (with_reducible refine (hn _).mono ?_); rintro e w6 ⟨rfl, hc6⟩; have hcd := (hcc.alloc _).trans hc6; obtain ⟨r0, r1, r2, r3, r4, r5⟩ := insC_at (ins_kept hcd))
    | (go_at_call 137; (with_reducible refine (hl _).mono ?_); rintro e w7 ⟨rfl, hx⟩; have hx := hx.symm; subst hx)
    | (go_at_call 137; (with_reducible refine (hj _).mono ?_); rintro e w7 ⟨rfl, hx⟩; have hx := hx.symm; subst hx))
  all_goals go_ret
  all_goals
    refine ⟨?_, ?_⟩
    · rw [HX.out]
      clear hr hs hn ha hb hl hj hf HX
      simp_all
    · first
        | exact ((Ch.refl w).alloc _).trans hcd
        | exact ((Ch.refl w).alloc _).trans (hcc.alloc _)

set_option maxHeartbeats 1000000 in
theorem check_any (op a b len loc : Int) (c n d : ByteArray) (w : World) (sc : c.size ≤ 90000) (sn : n.size ≤ 90000) (sd : d.size ≤ 90000) :
    Calls Tryz.prog 112 #[.agg #[.int .i64 op, .int .i64 a, .int .i64 b, .string c, .string n, .string d], .int .i64 len, .int .i64 loc] w
      fun e w' => e = .returned (.int .i64 (chk (kd (ix op)) op a b (bl c) (bl n) (bl d) len loc)) ∧ Ch w w' := by
  refine check_at op a b (kd (ix op)) (pp (ix op)) (ph (ix op)) len loc (wB (ix op)) c n d w (sA (kd (ix op))) (sB (kd (ix op))) (sC (kd (ix op))) (sN (kd (ix op))) (sD (kd (ix op))) (isI a) (isI b) (nam (kd (ix op)) op (bl c) (bl n) (bl d)) (wi a loc) (wi a len) _
    (fun w0 => rowOf_any op w0) (fun w0 => shape_any _ w0) (fun w0 => named_any op a b _ c n d w0 (kd_range _) sc sn sd) (fun w0 => isInt_as rfl w0) (fun w0 => isInt_as rfl w0) (fun w0 => within_as rfl w0) (fun w0 => within_as rfl w0)
    _ _ _ rfl rfl rfl ?_
  unfold chk
  simp only [beq_iff_eq]
end Go.Proofs.YtdalibfgkkgcpaaGreat
