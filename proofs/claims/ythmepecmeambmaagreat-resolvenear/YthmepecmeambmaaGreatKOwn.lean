/- Whether an instruction may be. -/
/- An instruction with the fields of its Op alone: the program's and the document's. -/
import Derived.Test.YthmepecmeambmaaGreatKNam
namespace Go.Proofs.YthmepecmeambmaaGreat
open Go.RowKit
set_option linter.unusedVariables false

def isI (n : Int) : Bool := decide (-2147483648 ≤ n) && decide (n ≤ 2147483647)
def wi (n s : Int) : Bool := decide (0 ≤ n) && decide (n < s)
/-- The first fault of an instruction, by the kind of its Op; 0: none. -/
def chk (k op a b : Int) (c n d : List UInt8) (len loc : Int) : Int :=
  if k = 0 then 3 else if sA k && !isI a || sB k && !isI b then 5 else if !nam k op c n d then 6 else if k == 4 && !wi a loc || k == 5 && !wi a len then 4 else 0

theorem isInt_as {n : Int} {b : Bool} (h : isI n = b) (w : World) : Calls Tryz.prog 317 #[.int .i64 n] w fun e w' => e = .returned (.bool b) ∧ w' = w := by
  subst h; exact isInt_any n w
theorem within_as {n s : Int} {b : Bool} (h : wi n s = b) (w : World) : Calls Tryz.prog 319 #[.int .i64 n, .int .i64 s] w fun e w' => e = .returned (.bool b) ∧ w' = w := by
  subst h; exact within_any n s w

/-- The walk, where the kind and all that is asked are told. -/
theorem check_at (op a b k n2 n3 len loc : Int) (wb c n d : ByteArray) (w : World) (s1 s2 s3 s4 s5 ia ib nb wl wj : Bool) (x : Int)
    (hr : ∀ w0, Calls Tryz.prog 315 #[.int .i64 op] w0 fun e w' => e = .returned (.agg #[.string wb, .int .i64 k, .int .i64 n2, .int .i64 n3]) ∧ Ch w0 w')
    (hs : ∀ w0, Calls Tryz.prog 316 #[.int .i64 k] w0 fun e w' => e = .returned (.agg #[.bool s1, .bool s2, .bool s3, .bool s4, .bool s5]) ∧ Ch w0 w')
    (hn : ∀ w0, Calls Tryz.prog 318 #[.agg #[.int .i64 op, .int .i64 a, .int .i64 b, .string c, .string n, .string d], .int .i64 k] w0 fun e w' => e = .returned (.bool nb) ∧ Ch w0 w')
    (ha : ∀ w0, Calls Tryz.prog 317 #[.int .i64 a] w0 fun e w' => e = .returned (.bool ia) ∧ w' = w0)
    (hb : ∀ w0, Calls Tryz.prog 317 #[.int .i64 b] w0 fun e w' => e = .returned (.bool ib) ∧ w' = w0)
    (hl : ∀ w0, Calls Tryz.prog 319 #[.int .i64 a, .int .i64 loc] w0 fun e w' => e = .returned (.bool wl) ∧ w' = w0)
    (hj : ∀ w0, Calls Tryz.prog 319 #[.int .i64 a, .int .i64 len] w0 fun e w' => e = .returned (.bool wj) ∧ w' = w0)
    (k0 k4 k5 : Bool) (e0 : (k == 0) = k0) (e4 : (k == 4) = k4) (e5 : (k == 5) = k5)
    (hx : x = if k0 then 3 else if s1 && !ia || s2 && !ib then 5 else if !nb then 6 else if k4 && !wl || k5 && !wj then 4 else 0) :
    Calls Tryz.prog 273 #[.agg #[.int .i64 op, .int .i64 a, .int .i64 b, .string c, .string n, .string d], .int .i64 len, .int .i64 loc] w fun e w' => e = .returned (.int .i64 x) ∧ Ch w w' := by
  have HX : Hid (x = if k0 then 3 else if s1 && !ia || s2 && !ib then 5 else if !nb then 6 else if k4 && !wl || k5 && !wj then 4 else 0) := hx
  clear hx
  have hf := fld1 wb k n2 n3
  go_enter Tryz.func273, Tryz.ntmps273
  go_wp2_with (first
    | (go_at_call 315; (with_reducible refine (hr _).mono ?_); rintro e w3 ⟨rfl, hc3⟩)
    | (go_at_call 316; (with_reducible refine (hs _).mono ?_); rintro e w4 ⟨rfl, hc4⟩; have hcc := hc3.trans hc4; obtain ⟨q0, q1, q2, q3, q4, q5⟩ := insC_at (ins_kept hcc); have hlt := Ch.past hcc)
    | (go_at_call 317; (with_reducible refine (ha _).mono ?_); rintro e w5 ⟨rfl, hx⟩; have hx := hx.symm; subst hx)
    | (go_at_call 317; (with_reducible refine (hb _).mono ?_); rintro e w5 ⟨rfl, hx⟩; have hx := hx.symm; subst hx)
    | (go_at_call 318; (with_reducible refine (hn _).mono ?_); rintro e w6 ⟨rfl, hc6⟩; have hcd := (hcc.alloc _).trans hc6; obtain ⟨r0, r1, r2, r3, r4, r5⟩ := insC_at (ins_kept hcd))
    | (go_at_call 319; (with_reducible refine (hl _).mono ?_); rintro e w7 ⟨rfl, hx⟩; have hx := hx.symm; subst hx)
    | (go_at_call 319; (with_reducible refine (hj _).mono ?_); rintro e w7 ⟨rfl, hx⟩; have hx := hx.symm; subst hx))
  all_goals go_ret
  all_goals
    refine ⟨?_, ?_⟩
    · rw [HX.out]
      clear hr hs hn ha hb hl hj hf HX
      simp_all
    · first
        | exact ((Ch.refl w).alloc _).trans hcd
        | exact ((Ch.refl w).alloc _).trans (hcc.alloc _)

set_option maxHeartbeats 1000000 in
theorem check_any (op a b len loc : Int) (c n d : ByteArray) (w : World) (sc : c.size ≤ 90000) (sn : n.size ≤ 90000) (sd : d.size ≤ 90000) :
    Calls Tryz.prog 273 #[.agg #[.int .i64 op, .int .i64 a, .int .i64 b, .string c, .string n, .string d], .int .i64 len, .int .i64 loc] w
      fun e w' => e = .returned (.int .i64 (chk (kd (ix op)) op a b (bl c) (bl n) (bl d) len loc)) ∧ Ch w w' := by
  refine check_at op a b (kd (ix op)) (pp (ix op)) (ph (ix op)) len loc (wB (ix op)) c n d w (sA (kd (ix op))) (sB (kd (ix op))) (sC (kd (ix op))) (sN (kd (ix op))) (sD (kd (ix op))) (isI a) (isI b) (nam (kd (ix op)) op (bl c) (bl n) (bl d)) (wi a loc) (wi a len) _
    (fun w0 => rowOf_any op w0) (fun w0 => shape_any _ w0) (fun w0 => named_any op a b _ c n d w0 (kd_range _) sc sn sd) (fun w0 => isInt_as rfl w0) (fun w0 => isInt_as rfl w0) (fun w0 => within_as rfl w0) (fun w0 => within_as rfl w0)
    _ _ _ rfl rfl rfl ?_
  unfold chk
  simp only [beq_iff_eq]
end Go.Proofs.YthmepecmeambmaaGreat
namespace Go.Proofs.YthmepecmeambmaaGreat
open Go.RowKit
set_option linter.unusedVariables false

/-- The six shapes that there are. -/
def Pat (s1 s2 s3 s4 s5 : Bool) : Prop :=
  (s1 = false ∧ s2 = false ∧ s3 = false ∧ s4 = false ∧ s5 = false) ∨ (s1 = true ∧ s2 = false ∧ s3 = false ∧ s4 = false ∧ s5 = false) ∨ (s1 = true ∧ s2 = true ∧ s3 = false ∧ s4 = false ∧ s5 = false) ∨
  (s1 = false ∧ s2 = false ∧ s3 = true ∧ s4 = false ∧ s5 = false) ∨ (s1 = false ∧ s2 = false ∧ s3 = false ∧ s4 = false ∧ s5 = true) ∨ (s1 = false ∧ s2 = false ∧ s3 = true ∧ s4 = true ∧ s5 = true)
theorem pat_kind {k : Int} (h : 0 ≤ k ∧ k ≤ 10) : Pat (sA k) (sB k) (sC k) (sN k) (sD k) := by
  have hk : k = 0 ∨ k = 1 ∨ k = 2 ∨ k = 3 ∨ k = 4 ∨ k = 5 ∨ k = 6 ∨ k = 7 ∨ k = 8 ∨ k = 9 ∨ k = 10 := by omega
  unfold Pat
  rcases hk with rfl | rfl | rfl | rfl | rfl | rfl | rfl | rfl | rfl | rfl | rfl <;> decide
/-- Only the fields that there are. -/
def ownA (s1 s2 s3 s4 s5 : Bool) (op a b : Int) (c n d : ByteArray) : Array Value :=
  #[.int .i64 op, .int .i64 (if s1 then a else 0), .int .i64 (if s2 then b else 0), .string (if s3 then c else ⟨#[]⟩), .string (if s4 then n else ⟨#[]⟩), .string (if s5 then d else ⟨#[]⟩)]
theorem info62 : (Tryz.prog.info? 62).map (·.size) = some 6 := by kernel_rfl
theorem one6 (a b c : Int) (d e f : ByteArray) : (#[Value.int .i64 a, .int .i64 b, .int .i64 c, .string d, .string e, .string f].all (·.oneCell')) = true := by kernel_rfl
theorem kept2 {w w' : World} {o : Obj} {c0 : Array Value} {t : TypeId} (h : Ch ((w.alloc o).alloc (.cells c0 t)) w') (A B : Obj) : ((w'.alloc A).alloc B).heap[w.heap.size + 1]? = some (.cells c0 t (0, 0)) :=
  (((h.alloc A).alloc B).block (w.heap.size + 1) (by simp)).trans (heap_alloc2_new _ _ _)
theorem ins_kept0 {w w' : World} {o : Obj} {op a b : Int} {c n d : ByteArray} (h : Ch ((w.alloc (.cells #[.int .i64 op, .int .i64 a, .int .i64 b, .string c, .string n, .string d] 62)).alloc o) w') : w'.heap[w.heap.size]? = some (.cells (insC op a b c n d) 62) :=
  (h.block w.heap.size (by simp; omega)).trans (heap_alloc2_old _ _ _)
theorem Ch.past2 {w w' : World} {o o2 : Obj} (h : Ch ((w.alloc o).alloc o2) w') : w.heap.size + 1 < w'.heap.size := by have := h.size; simp at this; omega

end Go.Proofs.YthmepecmeambmaaGreat
