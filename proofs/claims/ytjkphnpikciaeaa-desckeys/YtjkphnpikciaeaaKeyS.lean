/- What chapter 2 says of keys, over lists of bytes; plain facts on them. -/
import Derived.Test.YtjkphnpikciaeaaMeth
namespace Go.Proofs.Ytjkphnpikciaeaa
set_option linter.unusedVariables false

/-- The place of the first such byte; the end, if there is none. -/
def ix (c : UInt8) : List UInt8 → Nat
  | [] => 0
  | x :: r => if x = c then 0 else ix c r + 1
theorem ix_le (c : UInt8) (r : List UInt8) : ix c r ≤ r.length := by
  induction r with
  | nil => simp [ix]
  | cons x r ih => simp only [ix, List.length_cons]; split <;> omega
theorem ix_le_of (c : UInt8) (r : List UInt8) : ∀ n : Nat, r[n]? = some c → ix c r ≤ n := by
  induction r with
  | nil => intro n h; simp at h
  | cons x r ih =>
    intro n h
    cases n with
    | zero => simp at h; simp [ix, h]
    | succ n => simp at h; have := ih n h; simp only [ix]; split <;> omega
theorem ix_get (c : UInt8) (r : List UInt8) : ix c r < r.length → r[ix c r]? = some c := by
  induction r with
  | nil => intro h; simp [ix] at h
  | cons x r ih =>
    intro h
    simp only [ix] at *
    by_cases hc : x = c
    · simp [hc]
    · rw [if_neg hc] at *
      simp only [List.length_cons] at h
      simp only [List.getElem?_cons_succ]
      exact ih (by omega)
theorem ix_app (c : UInt8) (l r : List UInt8) (h : ∀ n : Nat, l[n]? ≠ some c) : ix c (l ++ c :: r) = l.length := by
  induction l with
  | nil => simp [ix]
  | cons x l ih =>
    have hx : ¬ x = c := fun e => h 0 (by simp [e])
    simp only [List.cons_append, ix, if_neg hx, List.length_cons]
    rw [ih (fun n hn => h (n + 1) (by simpa using hn))]
theorem indexByte_ix (l : List UInt8) (c : UInt8) : Lib.indexByte l c = if ix c l < l.length then (ix c l : Int) else -1 := by
  induction l with
  | nil => simp [Lib.indexByte, ix]
  | cons x l ih =>
    have hle := ix_le c l
    by_cases hx : x = c
    · simp [Lib.indexByte, ix, hx]
    · have e1 : ix c (x :: l) = ix c l + 1 := by simp only [ix]; rw [if_neg hx]
      rw [Lib.indexByte, e1, ih, if_neg (by simpa using hx), List.length_cons]
      by_cases hl : ix c l < l.length
      · rw [if_pos hl, if_neg (by simp), if_pos (by omega)]
        omega
      · rw [if_neg hl, if_pos (by decide), if_neg (by omega)]
theorem ix_drop (c : UInt8) (l : List UInt8) (k : Nat) (hk : k ≤ ix c l) : ix c (l.drop k) = ix c l - k := by
  induction l generalizing k with
  | nil => simp [ix]
  | cons x l ih =>
    cases k with
    | zero => simp
    | succ k =>
      simp only [ix] at hk
      split at hk
      · omega
      · rename_i hx
        simp only [List.drop_succ_cons, ix, if_neg hx]
        rw [ih k (by omega)]
        omega
theorem ld_all (l : List UInt8) : ∀ (f : Bool), ld l f = l.length → ∀ (n : Nat) (c : UInt8), l[n]? = some c → ∃ g, okB c g = true := by
  induction l with
  | nil => intro f h n c hn; simp at hn
  | cons x l ih =>
    intro f h n c hn
    simp only [ld, List.length_cons] at h
    split at h
    · rename_i hx
      cases n with
      | zero => simp at hn; subst hn; exact ⟨f, hx⟩
      | succ n => simp at hn; exact ih false (by omega) n c hn
    · omega
theorem name_all {l : List UInt8} (h : isName l = true) : ∀ (n : Nat) (c : UInt8), l[n]? = some c → ∃ g, okB c g = true := by
  unfold isName at h
  simp only [Bool.and_eq_true, decide_eq_true_eq] at h
  exact ld_all l true h.2
theorem name_no46 {l : List UInt8} (h : isName l = true) : ∀ n : Nat, l[n]? ≠ some 46 := fun n hn => by
  obtain ⟨g, hg⟩ := name_all h n _ hn
  cases g <;> revert hg <;> decide
theorem name_no40 {l : List UInt8} (h : isName l = true) : ∀ n : Nat, l[n]? ≠ some 40 := fun n hn => by
  obtain ⟨g, hg⟩ := name_all h n _ hn
  cases g <;> revert hg <;> decide
theorem no40_of {l : List UInt8} (h : (40 : UInt8) ∉ l) : ∀ n : Nat, l[n]? ≠ some 40 := fun n hn => h (List.mem_of_getElem? hn)
theorem mname_no40 {l : List UInt8} (h : isMName l = true) : ∀ n : Nat, l[n]? ≠ some 40 := by
  unfold isMName at h
  simp only [Bool.or_eq_true, beq_iff_eq] at h
  rcases h with (h | h) | h
  · exact name_no40 h
  · exact no40_of (by rw [h]; decide)
  · exact no40_of (by rw [h]; decide)

def keyedB (a b d : List UInt8) : Bool := isName a && isMName b && (meth d).isSome
def keyL (a b d : List UInt8) : List UInt8 := if keyedB a b d then a ++ [46] ++ b ++ d else []
def cutA (l : List UInt8) : List UInt8 := l.take (ix 46 l)
def cutR (l : List UInt8) : List UInt8 := l.drop (ix 46 l + 1)
def cutB (l : List UInt8) : List UInt8 := (cutR l).take (ix 40 (cutR l))
def cutD (l : List UInt8) : List UInt8 := 40 :: (cutR l).drop (ix 40 (cutR l) + 1)
/-- What a key is read as: its three, and whether. -/
def spA (l : List UInt8) : List UInt8 := if keyedB (cutA l) (cutB l) (cutD l) then cutA l else []
def spB (l : List UInt8) : List UInt8 := if keyedB (cutA l) (cutB l) (cutD l) then cutB l else []
def spD (l : List UInt8) : List UInt8 := if keyedB (cutA l) (cutB l) (cutD l) then cutD l else []
def spE (l : List UInt8) : Int := if keyedB (cutA l) (cutB l) (cutD l) then 0 else 6
structure Sp (l a b d : List UInt8) (e : Int) : Prop where
  a : spA l = a
  b : spB l = b
  d : spD l = d
  e : spE l = e
theorem Sp.yes {l : List UInt8} (h : keyedB (cutA l) (cutB l) (cutD l) = true) : Sp l (cutA l) (cutB l) (cutD l) 0 := ⟨by unfold spA; rw [h]; rfl, by unfold spB; rw [h]; rfl, by unfold spD; rw [h]; rfl, by unfold spE; rw [h]; rfl⟩
theorem Sp.no {l : List UInt8} (h : keyedB (cutA l) (cutB l) (cutD l) = false) : Sp l [] [] [] 6 := ⟨by unfold spA; rw [h]; rfl, by unfold spB; rw [h]; rfl, by unfold spD; rw [h]; rfl, by unfold spE; rw [h]; rfl⟩

theorem no_point {l : List UInt8} (h : ¬ ix 46 l < l.length) : keyedB (cutA l) (cutB l) (cutD l) = false := by
  have h1 : cutR l = [] := by unfold cutR; exact List.drop_eq_nil_of_le (by omega)
  have h2 : cutB l = [] := by unfold cutB; rw [h1]; rfl
  unfold keyedB
  rw [h2]
  have : isMName [] = false := by decide
  rw [this]
  simp
theorem no_open {l : List UInt8} (h : ¬ ix 40 l < l.length) (hp : ix 46 l < l.length) : keyedB (cutA l) (cutB l) (cutD l) = false := by
  have h0 := ix_le 40 l
  have h1 : ix 40 (cutR l) = (cutR l).length := by unfold cutR; rw [ix_drop 40 l _ (by omega), List.length_drop]; omega
  have h2 : cutD l = [40] := by unfold cutD; rw [h1, List.drop_eq_nil_of_le (by omega)]
  unfold keyedB
  rw [h2]
  have : (meth [40]).isSome = false := by decide
  rw [this]
  simp
theorem open_first {l : List UInt8} (h : ix 40 l < ix 46 l) (hp : ix 46 l < l.length) : keyedB (cutA l) (cutB l) (cutD l) = false := by
  have h1 : (cutA l)[ix 40 l]? = some 40 := by
    unfold cutA
    rw [List.getElem?_take_of_lt h]
    exact ix_get 40 l (by omega)
  have h2 : isName (cutA l) = false := by
    cases hb : isName (cutA l) with
    | false => rfl
    | true => exact absurd h1 (name_no40 hb _)
  unfold keyedB
  rw [h2]
  simp
/-- Where both signs are, in this order. -/
theorem cut_three {l : List UInt8} (hp : ix 46 l < ix 40 l) (ho : ix 40 l < l.length) :
    cutB l = (l.drop (ix 46 l + 1)).take (ix 40 l - (ix 46 l + 1)) ∧ cutD l = l.drop (ix 40 l) ∧ cutA l ++ [46] ++ cutB l ++ cutD l = l := by
  have h1 : ix 40 (cutR l) = ix 40 l - (ix 46 l + 1) := by unfold cutR; exact ix_drop 40 l _ (by omega)
  have hB : cutB l = (l.drop (ix 46 l + 1)).take (ix 40 l - (ix 46 l + 1)) := by unfold cutB; rw [h1]; rfl
  have hg := ix_get 40 l ho
  obtain ⟨hk, he⟩ := List.getElem?_eq_some_iff.1 hg
  have hD : cutD l = l.drop (ix 40 l) := by
    unfold cutD
    rw [h1, List.drop_eq_getElem_cons hk, he]
    unfold cutR
    rw [List.drop_drop]
    congr 2
    omega
  refine ⟨hB, hD, ?_⟩
  have hg2 := ix_get 46 l (by omega)
  obtain ⟨hk2, he2⟩ := List.getElem?_eq_some_iff.1 hg2
  have e1 : cutB l ++ cutD l = l.drop (ix 46 l + 1) := by
    rw [hB, hD]
    have : l.drop (ix 40 l) = (l.drop (ix 46 l + 1)).drop (ix 40 l - (ix 46 l + 1)) := by rw [List.drop_drop]; congr 1; omega
    rw [this, List.take_append_drop]
  rw [List.append_assoc, List.append_assoc, e1]
  unfold cutA
  have : [46] ++ l.drop (ix 46 l + 1) = l.drop (ix 46 l) := by rw [List.drop_eq_getElem_cons hk2, he2]; rfl
  rw [this, List.take_append_drop]
/-- What was made is read as it was. -/
theorem sp_back {a b d : List UInt8} (h : keyedB a b d = true) : Sp (a ++ [46] ++ b ++ d) a b d 0 := by
  have hk := h
  unfold keyedB at h
  simp only [Bool.and_eq_true] at h
  obtain ⟨⟨h1, h2⟩, h3⟩ := h
  have hd40 : hd 40 d = true := by
    cases hb : hd 40 d with
    | true => rfl
    | false => unfold meth at h3; rw [hb] at h3; simp at h3
  obtain ⟨d', rfl⟩ := hd_yes hd40
  have e : a ++ [46] ++ b ++ 40 :: d' = a ++ 46 :: (b ++ 40 :: d') := by simp
  have i1 : ix 46 (a ++ 46 :: (b ++ 40 :: d')) = a.length := ix_app 46 a _ (name_no46 h1)
  have cA : cutA (a ++ 46 :: (b ++ 40 :: d')) = a := by unfold cutA; rw [i1]; simp
  have cR : cutR (a ++ 46 :: (b ++ 40 :: d')) = b ++ 40 :: d' := by unfold cutR; rw [i1]; simp
  have i2 : ix 40 (b ++ 40 :: d') = b.length := ix_app 40 b _ (mname_no40 h2)
  have cB : cutB (a ++ 46 :: (b ++ 40 :: d')) = b := by unfold cutB; rw [cR, i2]; simp
  have cD : cutD (a ++ 46 :: (b ++ 40 :: d')) = 40 :: d' := by unfold cutD; rw [cR, i2]; simp
  rw [e]
  have := Sp.yes (l := a ++ 46 :: (b ++ 40 :: d')) (by rw [cA, cB, cD]; exact hk)
  rw [cA, cB, cD] at this
  exact this
/-- A place that was seen, up to k. -/
def seen (c : UInt8) (l : List UInt8) (k : Nat) : Int := if ix c l < k then ix c l else -1
theorem seen_new {c : UInt8} {l : List UInt8} {k : Nat} (h : l[k]? = some c) (hn : seen c l k < 0) : seen c l (k + 1) = k := by
  have := ix_le_of c l k h
  unfold seen at *
  split at hn
  · omega
  · rw [if_pos (by omega)]; omega
theorem seen_old {c : UInt8} {l : List UInt8} {k : Nat} (hn : ¬ seen c l k < 0) : seen c l (k + 1) = seen c l k := by
  unfold seen at *
  split at hn
  · rename_i h; rw [if_pos (by omega), if_pos h]
  · omega
theorem seen_not {c x : UInt8} {l : List UInt8} {k : Nat} (h : l[k]? = some x) (hx : ¬ x = c) : seen c l (k + 1) = seen c l k := by
  unfold seen
  have hk : ix c l ≠ k := fun e => by
    obtain ⟨hlt, _⟩ := List.getElem?_eq_some_iff.1 h
    have := ix_get c l (by omega)
    rw [e, h] at this
    exact hx (by simpa using this)
  by_cases h1 : ix c l < k
  · rw [if_pos h1, if_pos (by omega)]
  · rw [if_neg h1, if_neg (by omega)]
end Go.Proofs.Ytjkphnpikciaeaa
