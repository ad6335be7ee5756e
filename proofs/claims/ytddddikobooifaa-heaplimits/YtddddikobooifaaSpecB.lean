/- More plain facts on types: the first semicolon, a sign at a time. -/
import Derived.Test.YtddddikobooifaaSpec
namespace Go.Proofs.Ytddddikobooifaa
set_option linter.unusedVariables false

theorem ok59 (f : Bool) : okB 59 f = false := by cases f <;> decide
theorem ld_take (l : List UInt8) : ∀ (j : Nat) (f : Bool), ld (l.take j) f = min (ld l f) j := by
  induction l with
  | nil => intro j f; simp [ld]
  | cons c l ih =>
    intro j f
    cases j with
    | zero => simp [ld]
    | succ j =>
      simp only [List.take_succ_cons, ld]
      split
      · rw [ih]; omega
      · omega
/-- The place of the first semicolon; the end, if there is none. -/
def sc : List UInt8 → Nat
  | [] => 0
  | c :: r => if c = 59 then 0 else sc r + 1
theorem sc_le (r : List UInt8) : sc r ≤ r.length := by
  induction r with
  | nil => simp [sc]
  | cons c r ih => simp only [sc, List.length_cons]; split <;> omega
theorem sc_step {l : List UInt8} {k : Nat} {c : UInt8} (h : l[k]? = some c) : sc (l.drop k) = if c = 59 then 0 else sc (l.drop (k + 1)) + 1 := by
  obtain ⟨hk, hc⟩ := List.getElem?_eq_some_iff.1 h
  rw [List.drop_eq_getElem_cons hk, hc, sc]
theorem ld_le_sc (r : List UInt8) : ∀ f, ld r f ≤ sc r := by
  induction r with
  | nil => intro f; simp [ld]
  | cons c r ih =>
    intro f
    simp only [ld, sc]
    by_cases hc : c = 59
    · subst hc; rw [ok59]; simp
    · rw [if_neg hc]; have := ih false; split <;> omega
theorem sc_le_of_get (r : List UInt8) : ∀ n, r[n]? = some 59 → sc r ≤ n := by
  induction r with
  | nil => intro n h; simp at h
  | cons c r ih =>
    intro n h
    cases n with
    | zero => simp at h; simp [sc, h]
    | succ n => simp at h; have := ih n h; simp only [sc]; split <;> omega
theorem sc_get (r : List UInt8) : sc r < r.length → r[sc r]? = some 59 := by
  induction r with
  | nil => intro h; simp [sc] at h
  | cons c r ih =>
    intro h
    simp only [sc] at *
    by_cases hc : c = 59
    · simp [hc]
    · rw [if_neg hc] at *
      simp only [List.length_cons] at h
      simp only [List.getElem?_cons_succ]
      exact ih (by omega)
theorem cls_sc (r : List UInt8) : cls r = if sc r = r.length then 0 else if isName (r.take (sc r)) then sc r + 2 else 0 := by
  have h1 := sc_le r
  have h2 := ld_le_sc r true
  have h3 := ld_take r (sc r) true
  have hl : (r.take (sc r)).length = sc r := by rw [List.length_take]; omega
  have hN : isName (r.take (sc r)) = (decide (1 ≤ sc r) && decide (sc r ≤ 30) && decide (ld r true = sc r)) := by
    unfold isName
    rw [hl, h3, Nat.min_eq_left h2]
  rw [hN]
  have hz : nsz r = if ld r true ≤ 30 then ld r true else 0 := rfl
  by_cases he : sc r = r.length
  · rw [if_pos he]
    unfold cls
    split
    · rfl
    · rename_i hne
      rw [if_neg]
      intro hg
      obtain ⟨hk, _⟩ := List.getElem?_eq_some_iff.1 hg
      have := sc_le_of_get r _ hg
      omega
  · rw [if_neg he]
    have hg := sc_get r (by omega)
    by_cases hc : 1 ≤ sc r ∧ sc r ≤ 30 ∧ ld r true = sc r
    · obtain ⟨c1, c2, c3⟩ := hc
      have hn : nsz r = sc r := by rw [hz, c3, if_pos c2]
      unfold cls
      rw [hn, if_neg (by omega), hg]
      simp [c1, c2, c3]
    · rw [if_neg (by simp only [Bool.and_eq_true, decide_eq_true_eq]; omega)]
      unfold cls
      split
      · rfl
      · rename_i hne
        rw [if_neg]
        intro hg2
        have := sc_le_of_get r _ hg2
        have h30 : ld r true ≤ 30 := Decidable.byContradiction fun h => hne (by rw [hz, if_neg h])
        rw [hz, if_pos h30] at *
        omega

/-- What is told of a type, so many [ of which are read. -/
def tyr (l : List UInt8) (k : Nat) : Nat := if tyn (l.drop k) k = 0 then 0 else tyn (l.drop k) k + k
theorem tyr_zero (l : List UInt8) : tyr l 0 = tyn l 0 := by unfold tyr; simp; omega
theorem tyr_end {l : List UInt8} {k : Nat} (h : l.length ≤ k) : tyr l k = 0 := by unfold tyr; rw [List.drop_eq_nil_of_le h, tyn]; simp
theorem tyr_deep {l : List UInt8} {k : Nat} (h : 4 < k) : tyr l k = 0 := by
  unfold tyr
  cases l.drop k with
  | nil => simp [tyn]
  | cons c r => simp [tyn, h]
theorem tyn_at {l : List UInt8} {k : Nat} {c : UInt8} (h : l[k]? = some c) (h4 : k ≤ 4) : tyn (l.drop k) k = if c = 73 ∨ c = 67 then 1 else if c = 76 then cls (l.drop (k + 1)) else if c = 91 then (if tyn (l.drop (k + 1)) (k + 1) = 0 then 0 else tyn (l.drop (k + 1)) (k + 1) + 1) else 0 := by
  obtain ⟨hk, hc⟩ := List.getElem?_eq_some_iff.1 h
  rw [List.drop_eq_getElem_cons hk, hc, tyn, if_neg (by omega)]
theorem tyr_one {l : List UInt8} {k : Nat} {c : UInt8} (h : l[k]? = some c) (h4 : k ≤ 4) (hc : c = 73 ∨ c = 67) : tyr l k = k + 1 := by
  unfold tyr; rw [tyn_at h h4, if_pos hc]; simp; omega
theorem tyr_cls {l : List UInt8} {k : Nat} (h : l[k]? = some 76) (h4 : k ≤ 4) : tyr l k = if cls (l.drop (k + 1)) = 0 then 0 else k + cls (l.drop (k + 1)) := by
  unfold tyr; rw [tyn_at h h4]; simp; split <;> omega
theorem tyr_arr {l : List UInt8} {k : Nat} (h : l[k]? = some 91) (h4 : k ≤ 4) : tyr l k = tyr l (k + 1) := by
  have e := tyn_at h h4
  rw [if_neg (by decide : ¬ ((91 : UInt8) = 73 ∨ (91 : UInt8) = 67)), if_neg (by decide : ¬ (91 : UInt8) = 76), if_pos rfl] at e
  unfold tyr
  rw [e]
  generalize tyn (l.drop (k + 1)) (k + 1) = m
  by_cases hm : m = 0
  · simp [hm]
  · simp [hm]; omega
theorem tyr_no {l : List UInt8} {k : Nat} {c : UInt8} (h : l[k]? = some c) (h4 : k ≤ 4) (h1 : ¬ c = 73) (h2 : ¬ c = 67) (h3 : ¬ c = 76) (h5 : ¬ c = 91) : tyr l k = 0 := by
  unfold tyr; rw [tyn_at h h4]; simp [h1, h2, h3, h5]
/-- The same, the [ counted first. -/
theorem tyn_front (l : List UInt8) : tyn l 0 = if 4 < lb l then 0 else match l[lb l]? with
    | none => 0
    | some c => if c = 73 ∨ c = 67 then lb l + 1 else if c = 76 then (if cls (l.drop (lb l + 1)) = 0 then 0 else lb l + cls (l.drop (lb l + 1))) else 0 := by
  rw [tyn_lb, Nat.add_zero]
  split
  · rfl
  · cases hg : l[lb l]? with
    | none =>
      rw [List.drop_eq_nil_of_le (List.getElem?_eq_none_iff.1 hg)]
      simp [tyb]
    | some c =>
      obtain ⟨hk, hc⟩ := List.getElem?_eq_some_iff.1 hg
      rw [List.drop_eq_getElem_cons hk, hc, tyb]
      simp only
      repeat' split
      all_goals simp_all
      all_goals omega
theorem isType_len {l : List UInt8} (h : isType l = true) : tyn l 0 = l.length ∧ l ≠ [] := by
  unfold isType at h
  simp at h
  exact ⟨h.2, h.1⟩
/-- How a type begins. -/
theorem isType_head {l : List UInt8} (h : isType l = true) : l = [73] ∨ l = [67] ∨ (∃ r, l = 76 :: r) ∨ ∃ r, l = 91 :: r := by
  obtain ⟨h1, h2⟩ := isType_len h
  cases l with
  | nil => exact absurd rfl h2
  | cons c r =>
    simp only [tyn, List.length_cons] at h1
    by_cases c1 : c = 73
    · subst c1; simp at h1; exact Or.inl (by rw [h1])
    · by_cases c2 : c = 67
      · subst c2; simp at h1; exact Or.inr (Or.inl (by rw [h1]))
      · by_cases c3 : c = 76
        · exact Or.inr (Or.inr (Or.inl ⟨r, by rw [c3]⟩))
        · by_cases c4 : c = 91
          · exact Or.inr (Or.inr (Or.inr ⟨r, by rw [c4]⟩))
          · simp [c1, c2, c3, c4] at h1
theorem byte_ne {c : UInt8} {n : UInt8} (h : ((c.toNat : Int) == (n.toNat : Int)) = false) : ¬ c = n := by
  rintro rfl; simp at h
theorem byte_eq {c : UInt8} {n : UInt8} (h : ((c.toNat : Int) == (n.toNat : Int)) = true) : c = n := by
  have : (c.toNat : Int) = n.toNat := by simpa using h
  exact UInt8.toNat_inj.1 (by omega)
end Go.Proofs.Ytddddikobooifaa
