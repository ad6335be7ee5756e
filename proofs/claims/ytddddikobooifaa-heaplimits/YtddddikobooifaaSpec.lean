/- What chapter 2 says of names, types, methods' types and keys, over lists of bytes; plain facts on them. -/
import Derived.Lib.CutLaws
namespace Go.Proofs.Ytddddikobooifaa
set_option linter.unusedVariables false

/-- The bytes of a text. -/
def bl (s : ByteArray) : List UInt8 := s.data.toList
theorem bl_len (s : ByteArray) : (bl s).length = s.size := (Lib.size_eq s).symm
theorem bl_toList (s : ByteArray) : s.toList = bl s := Lib.toList_data s
theorem bl_get (s : ByteArray) (i : Nat) (h : i < s.size) : (bl s)[i]? = some s[i] := Lib.data_getElem? s i h
theorem bl_ext {a b : ByteArray} (h : bl a = bl b) : a = b := ByteArray.ext (Array.toList_inj.1 h)
theorem bl_extract (s : ByteArray) (a b : Nat) : bl (s.extract a b) = ((bl s).drop a).take (b - a) := Lib.extract_data s a b
theorem bl_from (s : ByteArray) (a : Nat) : bl (s.extract a s.size) = (bl s).drop a := Lib.extract_to_end s a
theorem bl_to (s : ByteArray) (b : Nat) : bl (s.extract 0 b) = (bl s).take b := by rw [bl_extract]; simp
theorem bl_append (a b : ByteArray) : bl (a ++ b) = bl a ++ bl b := by simp [bl, ByteArray.data_append]
theorem bl_mk (l : List UInt8) : bl ⟨l.toArray⟩ = l := rfl
theorem mk_bl (s : ByteArray) : (⟨(bl s).toArray⟩ : ByteArray) = s := Lib.mk_data s

def isLet (c : UInt8) : Bool := (decide (97 ≤ c.toNat) && decide (c.toNat ≤ 122)) || (decide (65 ≤ c.toNat) && decide (c.toNat ≤ 90)) || decide (c.toNat = 95)
def isDig (c : UInt8) : Bool := decide (48 ≤ c.toNat) && decide (c.toNat ≤ 57)
/-- May the byte stand in a name, ahead or behind? -/
def okB (c : UInt8) (first : Bool) : Bool := isLet c || (isDig c && !first)
/-- How many bytes go with a name. -/
def ld : List UInt8 → Bool → Nat
  | [], _ => 0
  | c :: l, f => if okB c f then ld l false + 1 else 0
def nsz (l : List UInt8) : Nat := if ld l true ≤ 30 then ld l true else 0
def isName (l : List UInt8) : Bool := decide (1 ≤ l.length) && decide (l.length ≤ 30) && decide (ld l true = l.length)
def initL : List UInt8 := [60, 105, 110, 105, 116, 62]
def clinitL : List UInt8 := [60, 99, 108, 105, 110, 105, 116, 62]
def isMName (l : List UInt8) : Bool := isName l || l == initL || l == clinitL

theorem ld_le (l : List UInt8) : ∀ f, ld l f ≤ l.length := by
  induction l with
  | nil => intro f; simp [ld]
  | cons c l ih =>
    intro f
    simp only [ld, List.length_cons]
    split
    · have := ih false; omega
    · omega
theorem ld_step {l : List UInt8} {k : Nat} {c : UInt8} {f : Bool} (h : l[k]? = some c) : ld (l.drop k) f = if okB c f then ld (l.drop (k + 1)) false + 1 else 0 := by
  obtain ⟨hk, hc⟩ := List.getElem?_eq_some_iff.1 h
  rw [List.drop_eq_getElem_cons hk, hc, ld]
theorem ld_end {l : List UInt8} {k : Nat} {f : Bool} (h : l.length ≤ k) : ld (l.drop k) f = 0 := by
  rw [List.drop_eq_nil_of_le h, ld]
theorem isName_eq (l : List UInt8) : (!(l == []) && decide (nsz l = l.length)) = isName l := by
  have h1 := ld_le l true
  have h0 : (l == []) = decide (l.length = 0) := by cases l <;> simp
  rw [h0]
  unfold isName nsz
  generalize ld l true = m at *
  generalize l.length = n at *
  rw [Bool.eq_iff_iff]
  simp only [Bool.and_eq_true, Bool.not_eq_true', decide_eq_true_eq, decide_eq_false_iff_not]
  split <;> omega

/-- A class's name and its end: how many bytes, with the L ahead; 0: none. -/
def cls (r : List UInt8) : Nat := if nsz r = 0 then 0 else if r[nsz r]? = some 59 then nsz r + 2 else 0
/-- A type: how many bytes, where so many [ stand ahead already; 0: none. -/
def tyn : List UInt8 → Nat → Nat
  | [], _ => 0
  | c :: r, d => if 4 < d then 0 else if c = 73 ∨ c = 67 then 1 else if c = 76 then cls r else if c = 91 then (if tyn r (d + 1) = 0 then 0 else tyn r (d + 1) + 1) else 0
def isType (l : List UInt8) : Bool := !(l == []) && decide (tyn l 0 = l.length)

theorem nsz_le (l : List UInt8) : nsz l ≤ l.length := by
  unfold nsz; split
  · exact ld_le l true
  · omega
theorem cls_le (r : List UInt8) : cls r ≤ r.length + 1 := by
  unfold cls
  split
  · omega
  · split
    · rename_i h
      obtain ⟨hk, _⟩ := List.getElem?_eq_some_iff.1 h
      omega
    · omega
theorem tyn_le (l : List UInt8) : ∀ d, tyn l d ≤ l.length := by
  induction l with
  | nil => intro d; simp [tyn]
  | cons c r ih =>
    intro d
    have h1 := ih (d + 1)
    have h2 := cls_le r
    simp only [tyn, List.length_cons]
    repeat' split
    all_goals omega

/-- How many [ stand ahead. -/
def lb : List UInt8 → Nat
  | [] => 0
  | c :: r => if c = 91 then lb r + 1 else 0
def tyb : List UInt8 → Nat
  | [] => 0
  | c :: r => if c = 73 ∨ c = 67 then 1 else if c = 76 then cls r else 0
theorem lb_le (l : List UInt8) : lb l ≤ l.length := by
  induction l with
  | nil => simp [lb]
  | cons c r ih => simp only [lb, List.length_cons]; split <;> omega
theorem lb_step {l : List UInt8} {k : Nat} {c : UInt8} (h : l[k]? = some c) : lb (l.drop k) = if c = 91 then lb (l.drop (k + 1)) + 1 else 0 := by
  obtain ⟨hk, hc⟩ := List.getElem?_eq_some_iff.1 h
  rw [List.drop_eq_getElem_cons hk, hc, lb]
theorem tyn_lb (l : List UInt8) : ∀ d, tyn l d = if 4 < lb l + d then 0 else if tyb (l.drop (lb l)) = 0 then 0 else tyb (l.drop (lb l)) + lb l := by
  induction l with
  | nil => intro d; simp [tyn, tyb, lb]
  | cons c r ih =>
    intro d
    rw [tyn, ih (d + 1)]
    by_cases h91 : c = 91
    · subst h91
      simp only [lb, if_true, List.drop_succ_cons]
      by_cases h4 : 4 < d
      · simp only [h4, if_true]; rw [if_pos (by omega)]
      · simp only [h4, if_false]
        rw [show lb r + (d + 1) = lb r + 1 + d from by omega]
        by_cases h5 : 4 < lb r + 1 + d
        · simp [h5]
        · simp only [h5, if_false]
          by_cases h6 : tyb (r.drop (lb r)) = 0
          · simp [h6]
          · simp [h6]; omega
    · simp only [lb, h91, if_false, List.drop_zero, Nat.zero_add, Nat.add_zero, tyb]
      by_cases h4 : 4 < d
      · simp [h4]
      · simp only [h4, if_false]
        repeat' split
        all_goals simp_all

end Go.Proofs.Ytddddikobooifaa
