/- Texts of so many parameters; a number within a limit; several texts more in a row. -/
import Derived.Test.YtjkphnpikciaeaaAwake
namespace Go.Proofs.Ytjkphnpikciaeaa
open Go.RowKit
set_option linter.unusedVariables false

/-- The five types. -/
def T : Nat → List UInt8
  | 0 => [73]
  | 1 => [67]
  | 2 => [76, 65, 59]
  | 3 => [91, 73]
  | _ => [91, 91, 76, 66, 99, 95, 49, 59]
/-- The six results. -/
def R : Nat → List UInt8
  | 0 => [86]
  | j + 1 => T j
theorem T_len (j : Nat) : 1 ≤ (T j).length ∧ (T j).length ≤ 8 := by
  match j with
  | 0 => decide
  | 1 => decide
  | 2 => decide
  | 3 => decide
  | j + 4 => exact (by decide : 1 ≤ ([91, 91, 76, 66, 99, 95, 49, 59] : List UInt8).length ∧ ([91, 91, 76, 66, 99, 95, 49, 59] : List UInt8).length ≤ 8)
theorem R_len (j : Nat) : (R j).length ≤ 8 := by
  match j with
  | 0 => decide
  | j + 1 => exact (T_len j).2
theorem T_tyn (j : Nat) (r : List UInt8) : tyn (T j ++ r) 0 = (T j).length := by
  match j with
  | 0 => rfl
  | 1 => rfl
  | 2 => rfl
  | 3 => rfl
  | j + 4 => rfl
theorem T_hd (j : Nat) (r : List UInt8) : hd 41 (T j ++ r) = false := by
  match j with
  | 0 => rfl
  | 1 => rfl
  | 2 => rfl
  | 3 => rfl
  | j + 4 => rfl
def fl (js : List Nat) : List UInt8 := (js.map T).flatten
theorem fl_cons (j : Nat) (js : List Nat) : fl (j :: js) = T j ++ fl js := by simp [fl]
theorem fl_snoc (js : List Nat) (j : Nat) : fl (js ++ [j]) = fl js ++ T j := by simp [fl]
def good (q : List UInt8) : Bool := q == [86] || isType q
theorem pars_close (js : List Nat) : ∀ (k : Nat) (q : List UInt8), pars k (fl js ++ 41 :: q) = if js.length ≤ k ∧ good q = true then some (js.map T, q) else none := by
  induction js with
  | nil =>
    intro k q
    have e : fl [] ++ 41 :: q = 41 :: q := rfl
    rw [e]
    cases k <;> simp only [pars, hd, List.drop_succ_cons, List.drop_zero, good] <;> simp
  | cons j js ih =>
    intro k q
    rw [fl_cons, List.append_assoc]
    have hh := T_hd j (fl js ++ 41 :: q)
    have ht := T_tyn j (fl js ++ 41 :: q)
    have hl := (T_len j).1
    cases k with
    | zero => simp [pars, hh]
    | succ k =>
      rw [pars, hh, if_neg (by simp), ht, if_neg (by omega), List.drop_left, List.take_left, ih k q]
      simp only [List.length_cons, Nat.add_le_add_iff_right]
      split <;> simp
theorem pars_open (js : List Nat) (r : List UInt8) (hr : r = [] ∨ r = [86]) : ∀ (k : Nat), pars k (fl js ++ r) = none := by
  induction js with
  | nil =>
    intro k
    have e : fl [] ++ r = r := rfl
    rw [e]
    have h1 : hd 41 r = false := by rcases hr with rfl | rfl <;> rfl
    have h2 : tyn r 0 = 0 := by rcases hr with rfl | rfl <;> rfl
    cases k <;> simp [pars, h1, h2]
  | cons j js ih =>
    intro k
    rw [fl_cons, List.append_assoc]
    have hh := T_hd j (fl js ++ r)
    have ht := T_tyn j (fl js ++ r)
    have hl := (T_len j).1
    cases k with
    | zero => simp [pars, hh]
    | succ k =>
      rw [pars, hh, if_neg (by simp), ht, if_neg (by omega), List.drop_left, ih k]
      rfl
theorem meth_open (js : List Nat) (i : Nat) : meth (40 :: fl js ++ R i) = none := by
  have e : meth (40 :: fl js ++ R i) = pars 8 (fl js ++ R i) := rfl
  rw [e]
  cases i with
  | zero => exact pars_open js [86] (Or.inr rfl) 8
  | succ i =>
    have h := pars_open (js ++ [i]) [] (Or.inl rfl) 8
    rw [fl_snoc, List.append_nil] at h
    exact h
theorem good_R (i : Nat) : good (R i) = true := by
  match i with
  | 0 => decide
  | 1 => decide
  | 2 => decide
  | 3 => decide
  | 4 => decide
  | i + 5 => exact (by decide : good [91, 91, 76, 66, 99, 95, 49, 59] = true)
theorem good_RI (i : Nat) : good (R i ++ [73]) = false := by
  match i with
  | 0 => decide
  | 1 => decide
  | 2 => decide
  | 3 => decide
  | 4 => decide
  | i + 5 => exact (by decide : good ([91, 91, 76, 66, 99, 95, 49, 59] ++ [73]) = false)
theorem meth_yes (js : List Nat) (i : Nat) (h : js.length ≤ 8) : meth (40 :: fl js ++ 41 :: R i) = some (js.map T, R i) := by
  have e : meth (40 :: fl js ++ 41 :: R i) = pars 8 (fl js ++ 41 :: R i) := rfl
  rw [e, pars_close, if_pos ⟨h, good_R i⟩]
theorem meth_many (js : List Nat) (i : Nat) (h : 8 < js.length) : meth (40 :: fl js ++ 41 :: R i) = none := by
  have e : meth (40 :: fl js ++ 41 :: R i) = pars 8 (fl js ++ 41 :: R i) := rfl
  rw [e, pars_close, if_neg (by omega)]
theorem meth_behind (js : List Nat) (i : Nat) : meth (40 :: fl js ++ 41 :: (R i ++ [73])) = none := by
  have e : meth (40 :: fl js ++ 41 :: (R i ++ [73])) = pars 8 (fl js ++ 41 :: (R i ++ [73])) := rfl
  rw [e, pars_close, if_neg (by rw [good_RI]; simp)]

/-- A number from 0 to ahead of n. -/
def rnd (k n : Int) : Int := k % n
theorem tmod_emod (k n : Int) : k % n = (k.tmod n) % n := by
  have h := Int.tmod_add_mul_tdiv k n
  have e : k % n = (k.tmod n + n * k.tdiv n) % n := by rw [h]
  rw [e, Int.add_mul_emod_self_left]
theorem rnd_lo (k n : Int) (hn : 0 < n) (h : k.tmod n < 0) : k.tmod n + n = rnd k n := by
  have h3 := Int.lt_tmod_of_pos k hn
  rw [rnd, tmod_emod, ← Int.add_emod_right, Int.emod_eq_of_lt (by omega) (by omega)]
theorem rnd_hi (k n : Int) (hn : 0 < n) (h : 0 ≤ k.tmod n) : k.tmod n = rnd k n := by
  have h3 := Int.tmod_lt_of_pos k hn
  rw [rnd, tmod_emod, Int.emod_eq_of_lt (by omega) (by omega)]
theorem round_any (k n : Int) (w : World) (hn : 0 < n) (hn2 : n ≤ 140737488355329) :
    Calls Try.prog 34 #[.int .i64 k, .int .i64 n] w fun e w' => e = .returned (.int .i64 (rnd k n)) ∧ w' = w := by
  have hn0 : (n == 0) = false := by simp; omega
  have h1 := Int.tmod_lt_of_pos k hn
  have h3 := Int.lt_tmod_of_pos k hn
  go_enter Try.func34, Try.ntmps34
  go_wp2
  · go_ret
    exact ⟨congrArg (fun x => Ending.returned (.int .i64 x)) (rnd_lo k n hn ‹_›), rfl⟩
  · go_ret
    exact ⟨congrArg (fun x => Ending.returned (.int .i64 x)) (rnd_hi k n hn ‹_›), rfl⟩
/-- The same, as a place. -/
def pl (k : Int) (n : Nat) : Nat := (rnd k n).toNat
theorem pl_lt (k : Int) (n : Nat) (hn : 0 < n) : pl k n < n := by
  have h1 := Int.emod_nonneg k (b := (n : Int)) (by omega)
  have h2 := Int.emod_lt_of_pos k (b := (n : Int)) (by omega)
  unfold pl rnd
  omega
theorem pl_any (k : Int) (n : Nat) (w : World) (hn : 0 < n) (hn2 : n ≤ 100) :
    Calls Try.prog 34 #[.int .i64 k, .int .i64 (n : Int)] w fun e w' => e = .returned (.int .i64 ((pl k n : Nat) : Int)) ∧ w' = w := by
  have h := round_any k n w (by omega) (by omega)
  have e : rnd k n = ((pl k n : Nat) : Int) := by
    have h1 := Int.emod_nonneg k (b := (n : Int)) (by omega)
    unfold pl rnd
    omega
  rw [e] at h
  exact h

/-- Several texts more, where a row of texts is. -/
theorem wpList_append_texts {w : World} {ops : Array Oper} {rest : List Oper} {o : Oper} {a : Act} {Q : Exit → Act → World → Prop} (hgd : o.guard = none) (s x : Operand)
    (ho : o.op = .call { callee := .builtin .append, args := #[s, x], argTypes := #[27, 27] }) (base : Nat)
    (v : Value) (ps news : List (List UInt8)) (hs : a.eval s = v) (hown : w.ownsRow base 9 1 v ps.length (ps.map strV)) (ad : Addr) (cap : Nat) (hx : a.eval x = .slice (some ad) news.length cap) (hcell : ∀ j p, news[j]? = some p → w.cell? (ad.add j) = some (strV p))
    (hbytes : ps.length + news.length ≤ 1000) (hbase : base ≤ w.heap.size)
    (h : ∀ v' w', w'.ownsRow base 9 1 v' (ps ++ news).length ((ps ++ news).map strV) → w.grownBy w' v.ownBlock → wpList Try.prog ops Q rest (a.put o.dst v') w') :
    wpList Try.prog ops Q (o :: rest) a w := by
  obtain ⟨i0, hi, hz0, hz1, hz2⟩ := info_parts Try.info9
  refine wpList_append_own_at _ hgd s x 27 ho base 9 i0 (.string ⟨#[]⟩) 1 16 Try.underlying27 hi hz0 hz1 hz2 rfl (by omega) v ps.length _ hs hown ad news.length cap (news.map strV) hx (by simp) ?_ (fun u hu => by simp at hu; obtain ⟨p, _, rfl⟩ := hu; rfl) (by unfold maxLen; omega) (by omega) hbase ?_
  · intro j u hj
    rw [List.getElem?_map] at hj
    cases hn : news[j]? with
    | none => rw [hn] at hj; cases hj
    | some p => rw [hn] at hj; rw [hcell j p hn]; simpa using hj
  · intro v' w' h1 h2 _ h4
    refine h v' w' ?_ h2
    rw [List.map_append, List.length_append]
    exact h1
end Go.Proofs.Ytjkphnpikciaeaa
