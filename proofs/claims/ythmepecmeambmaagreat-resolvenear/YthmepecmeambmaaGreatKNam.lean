/- Which fields an Op has, its word; what an int and a place may be. -/
/- What an instruction takes and lays; whether it may be. -/
/- Whether the names and types of an instruction may be. -/
import Derived.Test.YthmepecmeambmaaGreatKRow
namespace Go.Proofs.YthmepecmeambmaaGreat
open Go.RowKit
set_option linter.unusedVariables false

/-- Which fields those of a kind have: A, B, Class, Name, Desc. -/
def sA (k : Int) : Bool := k == 2 || k == 3 || k == 4 || k == 5
def sB (k : Int) : Bool := k == 3
def sC (k : Int) : Bool := k == 6 || k == 9 || k == 10
def sN (k : Int) : Bool := k == 9 || k == 10
def sD (k : Int) : Bool := k == 7 || k == 8 || k == 9 || k == 10
def sh (k : Int) : Value := .agg #[.bool (sA k), .bool (sB k), .bool (sC k), .bool (sN k), .bool (sD k)]
theorem info112 : (Tryz.prog.info? 319).map (·.size) = some 5 := by kernel_rfl
theorem one5 (a b c d e : Bool) : (#[Value.bool a, .bool b, .bool c, .bool d, .bool e].all (·.oneCell')) = true := by kernel_rfl

set_option maxHeartbeats 2000000 in
theorem shape_any (k : Int) (w : World) : Calls Tryz.prog 316 #[.int .i64 k] w fun e w' => e = .returned (sh k) ∧ Ch w w' := by
  go_enter Tryz.func316, Tryz.ntmps316
  go_wp2
  all_goals
    refine bodyPost_ret (results_cell_row rfl _ _ w.heap.size 319 _ (0, 0) _ rfl (heap_alloc_new _ _) Tryz.underlying319 rfl info112) rfl ?_
    refine ⟨congrArg Ending.returned ?_, (Ch.refl w).alloc _⟩
    unfold sh sA sB sC sN sD
    simp_all

theorem fld0 (a : ByteArray) (b c d : Int) (W : World) : (Instr.field 316 (.agg #[.string a, .int .i64 b, .int .i64 c, .int .i64 d]) 0).run Tryz.prog W = .ok (.string a) W := by kernel_rfl
theorem fld1 (a : ByteArray) (b c d : Int) (W : World) : (Instr.field 316 (.agg #[.string a, .int .i64 b, .int .i64 c, .int .i64 d]) 1).run Tryz.prog W = .ok (.int .i64 b) W := by kernel_rfl
theorem isInt_any (n : Int) (w : World) : Calls Tryz.prog 317 #[.int .i64 n] w fun e w' => e = .returned (.bool (decide (-2147483648 ≤ n) && decide (n ≤ 2147483647))) ∧ w' = w := by
  go_enter Tryz.func317, Tryz.ntmps317
  go_wp2
  all_goals
    go_ret
    refine ⟨congrArg (fun b => Ending.returned (.bool b)) ?_, rfl⟩
    first | (simp_all; done) | (simp_all; omega)
theorem within_any (n s : Int) (w : World) : Calls Tryz.prog 319 #[.int .i64 n, .int .i64 s] w fun e w' => e = .returned (.bool (decide (0 ≤ n) && decide (n < s))) ∧ w' = w := by
  go_enter Tryz.func319, Tryz.ntmps319
  go_wp2
  all_goals
    go_ret
    refine ⟨congrArg (fun b => Ending.returned (.bool b)) ?_, rfl⟩
    first | (simp_all; done) | (simp_all; omega)

set_option maxHeartbeats 2000000 in
theorem of_any (op : Int) (w : World) : Calls Tryz.prog 328 #[.int .i64 op] w fun e w' => e = .returned (.tuple #[sh (kd (ix op)), .bool (kd (ix op) != 0)]) ∧ Ch w w' := by
  have hr := fun w0 => rowOf_any op w0
  simp only [rV] at hr
  generalize wB (ix op) = b at *
  generalize kd (ix op) = k at *
  generalize pp (ix op) = n2 at *
  generalize ph (ix op) = n3 at *
  have hs := fun w0 => shape_any k w0
  simp only [sh] at hs ⊢
  generalize sA k = b1 at *
  generalize sB k = b2 at *
  generalize sC k = b3 at *
  generalize sN k = b4 at *
  generalize sD k = b5 at *
  obtain ⟨c0, hc0, h5⟩ : ∃ c0 : Array Value, #[.bool false, .bool false, .bool false, .bool false, .bool false] = c0 ∧ c0.size = 5 := ⟨_, rfl, rfl⟩
  have hf := fld1 b k n2 n3
  go_enter Tryz.func328, Tryz.ntmps328
  go_wp2_with (first
    | (go_at_call 315; (with_reducible refine (hr _).mono ?_); rintro e w3 ⟨rfl, hc3⟩)
    | (go_at_call 316; (with_reducible refine (hs _).mono ?_); rintro e w4 ⟨rfl, hc4⟩; have hcc := hc3.trans hc4; have H0 : Hid (w4.heap[w.heap.size]? = some (.cells c0 319 (0, 0))) := (hcc.block w.heap.size (by simp)).trans (heap_alloc_new _ _))
    | (refine wpList_store_row rfl 319 (.tmp 2) (.tmp 9) rfl w.heap.size #[.bool b1, .bool b2, .bool b3, .bool b4, .bool b5] rfl rfl 319 c0 H0.out info112 h5 (one5 _ _ _ _ _) ?_))
  refine bodyPost_ret (v := .tuple #[.agg #[.bool b1, .bool b2, .bool b3, .bool b4, .bool b5], .bool (k != 0)]) ?_ rfl ?_
  · rw [results_cell_tmp rfl]
    simp [asAddr, run_loadVar_row _ _ _ _ #[.bool b1, .bool b2, .bool b3, .bool b4, .bool b5] _ _ (setRow_heap _ _ _ _ _ _ H0.out) Tryz.underlying319 rfl info112]
  · exact ⟨rfl, (((Ch.refl w).alloc _).trans hcc).setRow _ _ (Nat.le_refl _)⟩
end Go.Proofs.YthmepecmeambmaaGreat
namespace Go.Proofs.YthmepecmeambmaaGreat
open Go.RowKit
set_option linter.unusedVariables false

theorem pars_len : ∀ (k : Nat) (r : List UInt8) (p : List (List UInt8) × List UInt8), pars k r = some p → p.1.length ≤ k
  | 0, r, p, h => by
    unfold pars at h
    repeat' split at h
    all_goals cases h
    exact Nat.le_refl _
  | k + 1, r, p, h => by
    rw [pars] at h
    repeat' split at h
    · cases h; exact Nat.zero_le _
    · cases h
    · cases h
    · cases hq : pars k (r.drop (tyn r 0)) with
      | none => rw [hq] at h; cases h
      | some q =>
        rw [hq] at h
        have h2 := pars_len k _ q hq
        cases h
        simp
        omega
theorem meth_len {l : List UInt8} {p : List (List UInt8) × List UInt8} (h : meth l = some p) : p.1.length ≤ 8 := by
  unfold meth at h
  split at h
  · exact pars_len 8 _ p h
  · cases h

/-- What a call takes and lays, by its method's type. -/
def effM (M : Option (List (List UInt8) × List UInt8)) (n : Int) : Value :=
  match M with
  | none => .tuple #[.int .i64 0, .int .i64 0, .int .i64 6]
  | some p => .tuple #[.int .i64 (n + (p.1.length : Int)), .int .i64 (if p.2 == [86] then 0 else 1), .int .i64 0]

theorem ms_toList (l : List UInt8) : (ms l).toList = l := by rw [bl_toList, bl_ms]

/-- An instruction as a value, and where it lies. -/
def insC (op a b : Int) (c n d : ByteArray) : Array Value := #[.int .i64 op, .int .i64 a, .int .i64 b, .string c, .string n, .string d]
theorem insC_at {w : World} {g : Nat} {op a b : Int} {c n d : ByteArray} (h : w.heap[g]? = some (.cells (insC op a b c n d) 62)) :
    w.cell? ⟨g, 0, none⟩ = some (.int .i64 op) ∧ w.cell? ⟨g, 1, none⟩ = some (.int .i64 a) ∧ w.cell? ⟨g, 2, none⟩ = some (.int .i64 b) ∧
    w.cell? ⟨g, 3, none⟩ = some (.string c) ∧ w.cell? ⟨g, 4, none⟩ = some (.string n) ∧ w.cell? ⟨g, 5, none⟩ = some (.string d) :=
  ⟨by rw [cell_of_row _ _ _ _ _ _ h]; rfl, by rw [cell_of_row _ _ _ _ _ _ h]; rfl, by rw [cell_of_row _ _ _ _ _ _ h]; rfl, by rw [cell_of_row _ _ _ _ _ _ h]; rfl, by rw [cell_of_row _ _ _ _ _ _ h]; rfl, by rw [cell_of_row _ _ _ _ _ _ h]; rfl⟩
theorem ins_kept {w w' : World} {op a b : Int} {c n d : ByteArray} (h : Ch (w.alloc (.cells #[.int .i64 op, .int .i64 a, .int .i64 b, .string c, .string n, .string d] 62)) w') : w'.heap[w.heap.size]? = some (.cells (insC op a b c n d) 62) :=
  (h.block w.heap.size (by simp)).trans (heap_alloc_new _ _)

theorem Ch.past {w w' : World} {o : Obj} (h : Ch (w.alloc o) w') : w.heap.size < w'.heap.size := by have := h.size; simp at this; omega
theorem kd_range (k : Nat) : 0 ≤ kd k ∧ kd k ≤ 10 := by
  unfold kd
  by_cases h : k < 39
  · have := on_range (f := fun k => decide (0 ≤ kindsL.getD k 0 ∧ kindsL.getD k 0 ≤ 10)) (g := fun _ => true) (n := 39) (by kernel_rfl) h
    simpa using this
  · rw [List.getD_eq_getElem?_getD, List.getElem?_eq_none (by show 39 ≤ k; omega)]; decide
theorem pp_call (k : Nat) (h : kd k = 10) : 0 ≤ pp k ∧ pp k ≤ 1 := by
  unfold kd at h
  unfold pp
  by_cases hk : k < 39
  · have := on_range (f := fun k => decide (kindsL.getD k 0 = 10 → 0 ≤ popsL.getD k 0 ∧ popsL.getD k 0 ≤ 1)) (g := fun _ => true) (n := 39) (by kernel_rfl) hk
    simp only [decide_eq_true_eq] at this
    exact this h
  · rw [List.getD_eq_getElem?_getD, List.getElem?_eq_none (by show 39 ≤ k; omega)]; decide

/-- What an instruction of that place in the table takes and lays. -/
def eff (k : Nat) (M : Option (List (List UInt8) × List UInt8)) : Value :=
  if kd k = 0 then .tuple #[.int .i64 0, .int .i64 0, .int .i64 3] else if kd k = 10 then effM M (pp k) else .tuple #[.int .i64 (pp k), .int .i64 (ph k), .int .i64 0]

end Go.Proofs.YthmepecmeambmaaGreat
namespace Go.Proofs.YthmepecmeambmaaGreat
open Go.RowKit
set_option linter.unusedVariables false

/-- May an operation call a method of that name? -/
def clb (n : List UInt8) (op : Int) : Bool := isName n || (n == initL && op == 33)
/-- May the names and types be, by the kind? -/
def nam (k op : Int) (c n d : List UInt8) : Bool :=
  if k = 6 then isName c else if k = 9 then isName c && isName n && isType d else if k = 10 then isName c && clb n op && (meth d).isSome
  else if k = 7 then !(arrL d == []) else if k = 8 then isRef d else true

theorem callable_any (n : ByteArray) (op : Int) (w : World) (hs : n.size ≤ 100000) : Calls Tryz.prog 334 #[.string n, .int .i64 op] w fun e w' => e = .returned (.bool (clb (bl n) op)) ∧ w' = w := by
  obtain ⟨bn, hbn⟩ : ∃ b, isName (bl n) = b := ⟨_, rfl⟩
  have hn := fun w0 => name_as hbn hs w0
  obtain ⟨bi, hbi⟩ : ∃ b, (n.toList == initL) = b := ⟨_, rfl⟩
  have hbj : (bl n == initL) = bi := by rw [← bl_toList]; exact hbi
  obtain ⟨bo, hbo⟩ : ∃ b, (op == 33) = b := ⟨_, rfl⟩
  have hR : clb (bl n) op = (bn || (bi && bo)) := by unfold clb; rw [hbn, hbj, hbo]
  rw [hR]
  unfold initL at hbi
  clear hR hbj hbn
  cases bn <;> cases bi <;> cases bo
  all_goals
    go_enter Tryz.func334, Tryz.ntmps334
    go_wp2_with (go_at_call 203; (with_reducible refine (hn _).mono ?_); rintro e w2 ⟨rfl, hx⟩; have hx := hx.symm; subst hx)
    go_ret
    exact ⟨rfl, rfl⟩
theorem methodType_any (d : ByteArray) (w : World) (hs : d.size ≤ 100000) : Calls Tryz.prog 335 #[.string d] w fun e w' => e = .returned (.bool (meth (bl d)).isSome) ∧ Ch w w' := by
  cases hM : meth (bl d) with
  | none =>
    have hm := fun w0 => method_no hM hs w0
    go_enter Tryz.func335, Tryz.ntmps335
    go_wp2_with (go_at_call 207; (with_reducible refine (hm _).mono ?_); rintro e w3 ⟨rfl, hc3⟩)
    go_ret
    exact ⟨rfl, hc3⟩
  | some p =>
    have hm := fun w0 => method_yes hM hs w0
    go_enter Tryz.func335, Tryz.ntmps335
    go_wp2_with (go_at_call 207; (with_reducible refine (hm _).mono ?_); rintro e w3 ⟨v, rfl, ho, hc3⟩)
    go_ret
    exact ⟨rfl, hc3⟩

set_option maxHeartbeats 4000000 in
theorem named_any (op a b k : Int) (c n d : ByteArray) (w : World) (hk : 0 ≤ k ∧ k ≤ 10) (sc : c.size ≤ 90000) (sn : n.size ≤ 90000) (sd : d.size ≤ 90000) :
    Calls Tryz.prog 318 #[.agg #[.int .i64 op, .int .i64 a, .int .i64 b, .string c, .string n, .string d], .int .i64 k] w fun e w' => e = .returned (.bool (nam k op (bl c) (bl n) (bl d))) ∧ Ch w w' := by
  have hc := fun w0 => name_any c w0 (by omega)
  have hn := fun w0 => name_any n w0 (by omega)
  have hcl := fun w0 => callable_any n op w0 (by omega)
  have hm := fun w0 => methodType_any d w0 (by omega)
  have ht := fun w0 => type_any d w0 (by omega)
  have ha := fun w0 => arr_any d w0 (by omega)
  have hr := fun w0 => ref_any d w0 (by omega)
  have hae : ((ms (arrL (bl d))).toList == []) = (arrL (bl d) == []) := by rw [ms_toList]
  unfold nam
  generalize isName (bl c) = bc at *
  generalize isName (bl n) = bn at *
  generalize clb (bl n) op = bq at *
  generalize (meth (bl d)).isSome = bm at *
  generalize isType (bl d) = bt at *
  generalize isRef (bl d) = br at *
  generalize hL : (arrL (bl d) == []) = be at *
  generalize ms (arrL (bl d)) = AL at *
  clear hL
  have hae2 : AL.toList.isEmpty = be := by rw [← beq_nil]; exact hae
  have hkk : k = 0 ∨ k = 1 ∨ k = 2 ∨ k = 3 ∨ k = 4 ∨ k = 5 ∨ k = 6 ∨ k = 7 ∨ k = 8 ∨ k = 9 ∨ k = 10 := by omega
  clear hk sc sn sd hae
  rcases hkk with rfl | rfl | rfl | rfl | rfl | rfl | rfl | rfl | rfl | rfl | rfl
  all_goals simp only [Int.reduceEq, if_true, if_false]
  case inr.inr.inr.inr.inr.inr.inr.inr.inr.inl =>
    cases bc <;> cases bn
    all_goals
      go_enter Tryz.func318, Tryz.ntmps318
      go_wp2_with (first
        | (go_at_call 203; (with_reducible refine (hc _).mono ?_); rintro e w2 ⟨rfl, hx⟩; have hx := hx.symm; subst hx)
        | (go_at_call 203; (with_reducible refine (hn _).mono ?_); rintro e w2 ⟨rfl, hx⟩; have hx := hx.symm; subst hx)
        | (go_at_call 119; (with_reducible refine (ht _).mono ?_); rintro e w2 ⟨rfl, hx⟩; have hx := hx.symm; subst hx))
      go_ret
      exact ⟨rfl, (Ch.refl w).alloc _⟩
  case inr.inr.inr.inr.inr.inr.inr.inr.inr.inr =>
    cases bc <;> cases bq
    all_goals
      go_enter Tryz.func318, Tryz.ntmps318
      go_wp2_with (first
        | (go_at_call 203; (with_reducible refine (hc _).mono ?_); rintro e w2 ⟨rfl, hx⟩; have hx := hx.symm; subst hx)
        | (go_at_call 334; (with_reducible refine (hcl _).mono ?_); rintro e w2 ⟨rfl, hx⟩; have hx := hx.symm; subst hx)
        | (go_at_call 335; (with_reducible refine (hm _).mono ?_); rintro e w4 ⟨rfl, hc4⟩))
      go_ret
      first
        | exact ⟨rfl, (Ch.refl w).alloc _⟩
        | exact ⟨rfl, ((Ch.refl w).alloc _).trans hc4⟩
  all_goals
    go_enter Tryz.func318, Tryz.ntmps318
    go_wp2_with (first
      | (go_at_call 203; (with_reducible refine (hc _).mono ?_); rintro e w2 ⟨rfl, hx⟩; have hx := hx.symm; subst hx)
      | (go_at_call 336; (with_reducible refine (ha _).mono ?_); rintro e w2 ⟨rfl, hx⟩; have hx := hx.symm; subst hx)
      | (go_at_call 189; (with_reducible refine (hr _).mono ?_); rintro e w2 ⟨rfl, hx⟩; have hx := hx.symm; subst hx))
    go_ret
    exact ⟨rfl, (Ch.refl w).alloc _⟩
end Go.Proofs.YthmepecmeambmaaGreat
