/- Texts of so many parameters; a number within a limit; what a call of such a text takes and lays. -/
import Derived.Test.YtedcnfoipjchnaaWords
namespace Go.Proofs.Ytedcnfoipjchnaa
open Go.RowKit
set_option linter.unusedVariables false

/-- The two types, the three results. -/
def T (b : Bool) : List UInt8 := if b then [73] else [91, 76, 65, 59]
def R : Nat → List UInt8
  | 0 => [86]
  | 1 => [73]
  | _ => [76, 65, 59]
theorem T_len (b : Bool) : 1 ≤ (T b).length ∧ (T b).length ≤ 4 := by cases b <;> decide
theorem R_len (j : Nat) : (R j).length ≤ 3 := by
  match j with
  | 0 => decide
  | 1 => decide
  | j + 2 => exact (by decide : ([76, 65, 59] : List UInt8).length ≤ 3)
theorem T_tyn (b : Bool) (r : List UInt8) : tyn (T b ++ r) 0 = (T b).length := by cases b <;> rfl
theorem T_hd (b : Bool) (r : List UInt8) : hd 41 (T b ++ r) = false := by cases b <;> rfl
def fl (js : List Bool) : List UInt8 := (js.map T).flatten
theorem fl_cons (j : Bool) (js : List Bool) : fl (j :: js) = T j ++ fl js := by simp [fl]
theorem fl_snoc (js : List Bool) (j : Bool) : fl (js ++ [j]) = fl js ++ T j := by simp [fl]
theorem fl_len (js : List Bool) : (fl js).length ≤ 4 * js.length := by
  induction js with
  | nil => simp [fl]
  | cons j js ih => rw [fl_cons]; have := (T_len j).2; simp; omega
def good (q : List UInt8) : Bool := q == [86] || isType q
theorem pars_close (js : List Bool) : ∀ (k : Nat) (q : List UInt8), pars k (fl js ++ 41 :: q) = if js.length ≤ k ∧ good q = true then some (js.map T, q) else none := by
  induction js with
  | nil =>
    intro k q
    have e : fl [] ++ 41 :: q = 41 :: q := rfl
    rw [e]
    cases k <;> simp only [pars, hd, List.drop_succ_cons, List.drop_zero, good] <;> simp
  | cons j js ih =>
    intro k q
    rw [fl_cons, List.append_assoc]
    have hh := T_hd j (fl js ++ 41 :: q)
    have ht := T_tyn j (fl js ++ 41 :: q)
    have hl := (T_len j).1
    cases k with
    | zero => simp [pars, hh]
    | succ k =>
      rw [pars, hh, if_neg (by simp), ht, if_neg (by omega), List.drop_left, List.take_left, ih k q]
      simp only [List.length_cons, Nat.add_le_add_iff_right]
      split <;> simp
theorem good_R (i : Nat) : good (R i) = true := by
  match i with
  | 0 => decide
  | 1 => decide
  | i + 2 => exact (by decide : good [76, 65, 59] = true)
theorem meth_few (js : List Bool) (i : Nat) (h : js.length ≤ 8) : meth (40 :: fl js ++ 41 :: R i) = some (js.map T, R i) := by
  have e : meth (40 :: fl js ++ 41 :: R i) = pars 8 (fl js ++ 41 :: R i) := rfl
  rw [e, pars_close, if_pos ⟨h, good_R i⟩]
theorem meth_many (js : List Bool) (i : Nat) (h : 8 < js.length) : meth (40 :: fl js ++ 41 :: R i) = none := by
  have e : meth (40 :: fl js ++ 41 :: R i) = pars 8 (fl js ++ 41 :: R i) := rfl
  rw [e, pars_close, if_neg (by omega)]

/-- A number from 0 to ahead of n. -/
def rnd (k n : Int) : Int := k % n
theorem tmod_emod (k n : Int) : k % n = (k.tmod n) % n := by
  have h := Int.tmod_add_mul_tdiv k n
  have e : k % n = (k.tmod n + n * k.tdiv n) % n := by rw [h]
  rw [e, Int.add_mul_emod_self_left]
theorem rnd_lo (k n : Int) (hn : 0 < n) (h : k.tmod n < 0) : k.tmod n + n = rnd k n := by
  have h3 := Int.lt_tmod_of_pos k hn
  rw [rnd, tmod_emod, ← Int.add_emod_right, Int.emod_eq_of_lt (by omega) (by omega)]
theorem rnd_hi (k n : Int) (hn : 0 < n) (h : 0 ≤ k.tmod n) : k.tmod n = rnd k n := by
  have h3 := Int.tmod_lt_of_pos k hn
  rw [rnd, tmod_emod, Int.emod_eq_of_lt (by omega) (by omega)]
theorem round_any (k n : Int) (w : World) (hn : 0 < n) (hn2 : n ≤ 140737488355329) :
    Calls Try.prog 16 #[.int .i64 k, .int .i64 n] w fun e w' => e = .returned (.int .i64 (rnd k n)) ∧ w' = w := by
  have hn0 : (n == 0) = false := by simp; omega
  have h1 := Int.tmod_lt_of_pos k hn
  have h3 := Int.lt_tmod_of_pos k hn
  go_enter Try.func16, Try.ntmps16
  go_wp2
  · go_ret
    exact ⟨congrArg (fun x => Ending.returned (.int .i64 x)) (rnd_lo k n hn ‹_›), rfl⟩
  · go_ret
    exact ⟨congrArg (fun x => Ending.returned (.int .i64 x)) (rnd_hi k n hn ‹_›), rfl⟩
/-- The same, as a place. -/
def pl (k : Int) (n : Nat) : Nat := (rnd k n).toNat
theorem pl_lt (k : Int) (n : Nat) (hn : 0 < n) : pl k n < n := by
  have h1 := Int.emod_nonneg k (b := (n : Int)) (by omega)
  have h2 := Int.emod_lt_of_pos k (b := (n : Int)) (by omega)
  unfold pl rnd
  omega
theorem pl_any (k : Int) (n : Nat) (w : World) (hn : 0 < n) (hn2 : n ≤ 100) :
    Calls Try.prog 16 #[.int .i64 k, .int .i64 (n : Int)] w fun e w' => e = .returned (.int .i64 ((pl k n : Nat) : Int)) ∧ w' = w := by
  have h := round_any k n w (by omega) (by omega)
  have e : rnd k n = ((pl k n : Nat) : Int) := by
    have h1 := Int.emod_nonneg k (b := (n : Int)) (by omega)
    unfold pl rnd
    omega
  rw [e] at h
  exact h

/-- A call's row of the table. -/
theorem row_call {j : Nat} (hj : j < 4) : ix (32 + (j : Int)) = 32 + j ∧ kd (32 + j) = 10 ∧ pp (32 + j) = if j = 0 then 0 else 1 := by
  refine ⟨?_, ?_, ?_⟩
  · have := ix_yes (32 + j) (by omega)
    rw [← this]
    congr 1
  · exact on_range (f := fun j => kd (32 + j)) (g := fun _ => 10) (n := 4) (by kernel_rfl) hj
  · exact on_range (f := fun j => pp (32 + j)) (g := fun j => if j = 0 then 0 else 1) (n := 4) (by kernel_rfl) hj
theorem eff_at {j : Nat} (hj : j < 4) (M : Option (List (List UInt8) × List UInt8)) : eff (ix (32 + (j : Int))) M = effM M (if j = 0 then 0 else 1) := by
  obtain ⟨h1, h2, h3⟩ := row_call hj
  unfold eff
  rw [h1, h2, h3, if_neg (by decide), if_pos rfl]
theorem isName_A : isName [65] = true := by decide
theorem isName_m : isName [109] = true := by decide
theorem chk_at {j : Nat} (hj : j < 4) (d : List UInt8) : chk (kd (ix (32 + (j : Int)))) (32 + (j : Int)) 0 0 [65] [109] d 1 1 = if (meth d).isSome then 0 else 6 := by
  obtain ⟨h1, h2, _⟩ := row_call hj
  have hn : nam 10 (32 + (j : Int)) [65] [109] d = (meth d).isSome := by simp [nam, clb, isName_A, isName_m]
  unfold chk
  rw [h1, h2, hn]
  cases (meth d).isSome <;> simp [sA, sB]

/-- The three results as they were laid. -/
def resCells : Array Value := #[.string ⟨#[86]⟩, .string ⟨#[73]⟩, .string ⟨#[76, 65, 59]⟩]
theorem res_cell (w : World) (j : Nat) (hj : j < 3) : (w.alloc (.cells resCells 9)).cell? ⟨w.heap.size, j, none⟩ = some (.string (ms (R j))) := by
  have h1 : (w.alloc (.cells resCells 9)).heap[w.heap.size]? = some (.cells resCells 9) := heap_alloc_new w _
  simp only [World.cell?, h1]
  match j, hj with
  | 0, _ => rfl
  | 1, _ => rfl
  | 2, _ => rfl
theorem ins_kept1 {w w' : World} {o : Obj} {op a b : Int} {c n d : ByteArray} (h : Ch ((w.alloc o).alloc (.cells #[.int .i64 op, .int .i64 a, .int .i64 b, .string c, .string n, .string d] 23)) w') : w'.heap[w.heap.size + 1]? = some (.cells (insC op a b c n d) 23) := by
  have := ins_kept h
  have hz : (w.alloc o).heap.size = w.heap.size + 1 := by simp
  rwa [hz] at this
/-- The first so many. -/
def jl (z : Nat → Bool) : Nat → List Bool
  | 0 => []
  | k + 1 => jl z k ++ [z k]
theorem jl_len (z : Nat → Bool) (k : Nat) : (jl z k).length = k := by
  induction k with
  | zero => rfl
  | succ k ih => simp [jl, ih]
end Go.Proofs.Ytedcnfoipjchnaa
