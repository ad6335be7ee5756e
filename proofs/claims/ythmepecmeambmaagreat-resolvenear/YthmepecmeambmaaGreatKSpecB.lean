/- What chapter 2 says of names, types, methods' types and keys, over lists of bytes; plain facts on them. -/
/- The contracts of the program's and the document's names. -/
/- More plain facts on types: the first semicolon, a sign at a time. -/
import Derived.Lib.CutLaws
import Derived.Test.YthmepecmeambmaaGreatProg
import Derived.WalkKit
import Derived.WalkSpells
import Derived.Deep.QuietTactic
import Derived.BigQuiet
import Derived.RegionTactic
import Derived.WalkMore
import Derived.ScopeJumps
import Derived.Deep.Draws
namespace Go.Proofs.YthmepecmeambmaaGreat
set_option linter.unusedVariables false

/-- The bytes of a text. -/
def bl (s : ByteArray) : List UInt8 := s.data.toList
theorem bl_len (s : ByteArray) : (bl s).length = s.size := (Lib.size_eq s).symm
theorem bl_toList (s : ByteArray) : s.toList = bl s := Lib.toList_data s
theorem bl_get (s : ByteArray) (i : Nat) (h : i < s.size) : (bl s)[i]? = some s[i] := Lib.data_getElem? s i h
theorem bl_ext {a b : ByteArray} (h : bl a = bl b) : a = b := ByteArray.ext (Array.toList_inj.1 h)
theorem bl_extract (s : ByteArray) (a b : Nat) : bl (s.extract a b) = ((bl s).drop a).take (b - a) := Lib.extract_data s a b
theorem bl_from (s : ByteArray) (a : Nat) : bl (s.extract a s.size) = (bl s).drop a := Lib.extract_to_end s a
theorem bl_to (s : ByteArray) (b : Nat) : bl (s.extract 0 b) = (bl s).take b := by rw [bl_extract]; simp
theorem bl_append (a b : ByteArray) : bl (a ++ b) = bl a ++ bl b := by simp [bl, ByteArray.data_append]
theorem bl_mk (l : List UInt8) : bl ⟨l.toArray⟩ = l := rfl
theorem mk_bl (s : ByteArray) : (⟨(bl s).toArray⟩ : ByteArray) = s := Lib.mk_data s

def isLet (c : UInt8) : Bool := (decide (97 ≤ c.toNat) && decide (c.toNat ≤ 122)) || (decide (65 ≤ c.toNat) && decide (c.toNat ≤ 90)) || decide (c.toNat = 95)
def isDig (c : UInt8) : Bool := decide (48 ≤ c.toNat) && decide (c.toNat ≤ 57)
/-- May the byte stand in a name, ahead or behind? -/
def okB (c : UInt8) (first : Bool) : Bool := isLet c || (isDig c && !first)
/-- How many bytes go with a name. -/
def ld : List UInt8 → Bool → Nat
  | [], _ => 0
  | c :: l, f => if okB c f then ld l false + 1 else 0
def nsz (l : List UInt8) : Nat := if ld l true ≤ 30 then ld l true else 0
def isName (l : List UInt8) : Bool := decide (1 ≤ l.length) && decide (l.length ≤ 30) && decide (ld l true = l.length)
def initL : List UInt8 := [60, 105, 110, 105, 116, 62]
def clinitL : List UInt8 := [60, 99, 108, 105, 110, 105, 116, 62]
def isMName (l : List UInt8) : Bool := isName l || l == initL || l == clinitL

theorem ld_le (l : List UInt8) : ∀ f, ld l f ≤ l.length := by
  induction l with
  | nil => intro f; simp [ld]
  | cons c l ih =>
    intro f
    simp only [ld, List.length_cons]
    split
    · have := ih false; omega
    · omega
theorem ld_step {l : List UInt8} {k : Nat} {c : UInt8} {f : Bool} (h : l[k]? = some c) : ld (l.drop k) f = if okB c f then ld (l.drop (k + 1)) false + 1 else 0 := by
  obtain ⟨hk, hc⟩ := List.getElem?_eq_some_iff.1 h
  rw [List.drop_eq_getElem_cons hk, hc, ld]
theorem ld_end {l : List UInt8} {k : Nat} {f : Bool} (h : l.length ≤ k) : ld (l.drop k) f = 0 := by
  rw [List.drop_eq_nil_of_le h, ld]
theorem isName_eq (l : List UInt8) : (!(l == []) && decide (nsz l = l.length)) = isName l := by
  have h1 := ld_le l true
  have h0 : (l == []) = decide (l.length = 0) := by cases l <;> simp
  rw [h0]
  unfold isName nsz
  generalize ld l true = m at *
  generalize l.length = n at *
  rw [Bool.eq_iff_iff]
  simp only [Bool.and_eq_true, Bool.not_eq_true', decide_eq_true_eq, decide_eq_false_iff_not]
  split <;> omega

/-- A class's name and its end: how many bytes, with the L ahead; 0: none. -/
def cls (r : List UInt8) : Nat := if nsz r = 0 then 0 else if r[nsz r]? = some 59 then nsz r + 2 else 0
/-- A type: how many bytes, where so many [ stand ahead already; 0: none. -/
def tyn : List UInt8 → Nat → Nat
  | [], _ => 0
  | c :: r, d => if 4 < d then 0 else if c = 73 ∨ c = 67 then 1 else if c = 76 then cls r else if c = 91 then (if tyn r (d + 1) = 0 then 0 else tyn r (d + 1) + 1) else 0
def isType (l : List UInt8) : Bool := !(l == []) && decide (tyn l 0 = l.length)

theorem nsz_le (l : List UInt8) : nsz l ≤ l.length := by
  unfold nsz; split
  · exact ld_le l true
  · omega
theorem cls_le (r : List UInt8) : cls r ≤ r.length + 1 := by
  unfold cls
  split
  · omega
  · split
    · rename_i h
      obtain ⟨hk, _⟩ := List.getElem?_eq_some_iff.1 h
      omega
    · omega
theorem tyn_le (l : List UInt8) : ∀ d, tyn l d ≤ l.length := by
  induction l with
  | nil => intro d; simp [tyn]
  | cons c r ih =>
    intro d
    have h1 := ih (d + 1)
    have h2 := cls_le r
    simp only [tyn, List.length_cons]
    repeat' split
    all_goals omega

/-- How many [ stand ahead. -/
def lb : List UInt8 → Nat
  | [] => 0
  | c :: r => if c = 91 then lb r + 1 else 0
def tyb : List UInt8 → Nat
  | [] => 0
  | c :: r => if c = 73 ∨ c = 67 then 1 else if c = 76 then cls r else 0
theorem lb_le (l : List UInt8) : lb l ≤ l.length := by
  induction l with
  | nil => simp [lb]
  | cons c r ih => simp only [lb, List.length_cons]; split <;> omega
theorem lb_step {l : List UInt8} {k : Nat} {c : UInt8} (h : l[k]? = some c) : lb (l.drop k) = if c = 91 then lb (l.drop (k + 1)) + 1 else 0 := by
  obtain ⟨hk, hc⟩ := List.getElem?_eq_some_iff.1 h
  rw [List.drop_eq_getElem_cons hk, hc, lb]
theorem tyn_lb (l : List UInt8) : ∀ d, tyn l d = if 4 < lb l + d then 0 else if tyb (l.drop (lb l)) = 0 then 0 else tyb (l.drop (lb l)) + lb l := by
  induction l with
  | nil => intro d; simp [tyn, tyb, lb]
  | cons c r ih =>
    intro d
    rw [tyn, ih (d + 1)]
    by_cases h91 : c = 91
    · subst h91
      simp only [lb, if_true, List.drop_succ_cons]
      by_cases h4 : 4 < d
      · simp only [h4, if_true]; rw [if_pos (by omega)]
      · simp only [h4, if_false]
        rw [show lb r + (d + 1) = lb r + 1 + d from by omega]
        by_cases h5 : 4 < lb r + 1 + d
        · simp [h5]
        · simp only [h5, if_false]
          by_cases h6 : tyb (r.drop (lb r)) = 0
          · simp [h6]
          · simp [h6]; omega
    · simp only [lb, h91, if_false, List.drop_zero, Nat.zero_add, Nat.add_zero, tyb]
      by_cases h4 : 4 < d
      · simp [h4]
      · simp only [h4, if_false]
        repeat' split
        all_goals simp_all

end Go.Proofs.YthmepecmeambmaaGreat
namespace Go.Proofs.YthmepecmeambmaaGreat
open Go.RowKit
set_option linter.unusedVariables false

theorem okB_t {c : UInt8} {f : Bool} (h : (97 ≤ (c.toNat : Int) ∧ (c.toNat : Int) ≤ 122) ∨ (65 ≤ (c.toNat : Int) ∧ (c.toNat : Int) ≤ 90) ∨ (c.toNat : Int) = 95) : okB c f = true := by
  have : isLet c = true := by
    simp only [isLet, Bool.or_eq_true, Bool.and_eq_true, decide_eq_true_eq]; omega
  simp [okB, this]
theorem not_let {c : UInt8} (h : ¬ ((97 ≤ (c.toNat : Int) ∧ (c.toNat : Int) ≤ 122) ∨ (65 ≤ (c.toNat : Int) ∧ (c.toNat : Int) ≤ 90) ∨ (c.toNat : Int) = 95)) : isLet c = false := by
  rw [← Bool.not_eq_true]
  simp only [isLet, Bool.or_eq_true, Bool.and_eq_true, decide_eq_true_eq]; omega
theorem okB_d {c : UInt8} {f : Bool} (h : 48 ≤ (c.toNat : Int) ∧ (c.toNat : Int) ≤ 57) : okB c f = !f := by
  have h1 : isDig c = true := by simp only [isDig, Bool.and_eq_true, decide_eq_true_eq]; omega
  have h2 : isLet c = false := not_let (by omega)
  simp [okB, h1, h2]
theorem okB_f {c : UInt8} {f : Bool} (h : ¬ ((97 ≤ (c.toNat : Int) ∧ (c.toNat : Int) ≤ 122) ∨ (65 ≤ (c.toNat : Int) ∧ (c.toNat : Int) ≤ 90) ∨ (c.toNat : Int) = 95) ∧ ¬ (48 ≤ (c.toNat : Int) ∧ (c.toNat : Int) ≤ 57)) : okB c f = false := by
  have h1 : isDig c = false := by rw [← Bool.not_eq_true]; simp only [isDig, Bool.and_eq_true, decide_eq_true_eq]; omega
  have h2 : isLet c = false := not_let h.1
  simp [okB, h1, h2]

theorem nameByte_any (c : UInt8) (f : Bool) (w : World) : Calls Tryz.prog 313 #[.int .u8 (c.toNat : Int), .bool f] w fun e w' => e = .returned (.bool (okB c f)) ∧ w' = w := by
  go_enter Tryz.func313, Tryz.ntmps313
  go_wp2
  all_goals
    go_ret
    refine ⟨congrArg (fun b => Ending.returned (.bool b)) ?_, rfl⟩
    (try simp only [beq_iff_eq] at *)
    (try simp only [beq_eq_false_iff_ne, ne_eq] at *)
    first
      | exact (okB_t (by omega)).symm
      | exact (okB_d (by omega)).symm
      | exact (okB_f (by omega)).symm

theorem kz (k : Nat) : ((k : Int) == 0) = (k == 0) := by
  cases k <;> simp <;> omega
theorem ld_yes {l : List UInt8} {k : Nat} {c : UInt8} (hl : ld l true = k + ld (l.drop k) (k == 0)) (hg : l[k]? = some c) (h : okB c ((k : Int) == 0) = true) : ld l true = (k + 1) + ld (l.drop (k + 1)) (k + 1 == 0) := by
  rw [kz] at h
  rw [hl, ld_step hg, h]
  simp
  omega
theorem ld_no {l : List UInt8} {k : Nat} {c : UInt8} (hl : ld l true = k + ld (l.drop k) (k == 0)) (hg : l[k]? = some c) (h : okB c ((k : Int) == 0) = false) : ld l true = k := by
  rw [kz] at h
  rw [hl, ld_step hg, h]
  simp
theorem ld_fin {l : List UInt8} {k : Nat} (hl : ld l true = k + ld (l.drop k) (k == 0)) (hg : l.length ≤ k) : ld l true = k := by
  rw [hl, ld_end hg]; simp

theorem nameSize_any (s : ByteArray) (w : World) (hs : s.size ≤ 100000) : Calls Tryz.prog 268 #[.string s] w fun e w' => e = .returned (.int .i64 (nsz (bl s))) ∧ w' = w := by
  go_enter Tryz.func268, Tryz.ntmps268
  go_wp2
  go_loop [3] (fun i => ∃ k : Nat, k ≤ s.size ∧ k ≤ 30 ∧ i = .int .i64 k ∧ ld (bl s) true = k + ld ((bl s).drop k) (k == 0)) (fun i => s.size - (intOf i).toNat)
  case atStart => exact ⟨0, by omega, by omega, rfl, by simp⟩
  case round =>
    obtain ⟨k, hk, hk30, rfl, hl⟩ := hrel
    by_cases hlt : k < s.size
    · have hg := bl_get s k hlt
      go_wp2_with (go_at_call 313; refine (nameByte_any _ _ _).mono ?_; rintro e w2 ⟨rfl, hw2⟩; have hw2 := hw2.symm; subst hw2)
      · have h1 := ld_yes hl hg (by assumption)
        go_ret
        refine ⟨congrArg (fun (x : Nat) => Ending.returned (.int .i64 x)) ?_, rfl⟩
        rw [nsz, if_neg (by omega)]
      · have h1 := ld_yes hl hg (by assumption)
        exact ⟨⟨k + 1, by omega, by omega, rfl, h1⟩, by simp [intOf]; omega⟩
      · have h1 := ld_no hl hg (by assumption)
        go_ret
        refine ⟨congrArg (fun (x : Nat) => Ending.returned (.int .i64 x)) ?_, rfl⟩
        rw [nsz, if_pos (by omega), h1]
    · have h1 := ld_fin hl (by rw [bl_len]; omega)
      go_wp2
      go_ret
      refine ⟨congrArg (fun (x : Nat) => Ending.returned (.int .i64 x)) ?_, rfl⟩
      rw [nsz, if_pos (by omega), h1]

theorem beq_nil (l : List UInt8) : (l == []) = l.isEmpty := by cases l <;> rfl
theorem nat_beq (a b : Nat) : ((a : Int) == (b : Int)) = decide (a = b) := by
  rw [Bool.eq_iff_iff]; simp; omega

theorem name_any (s : ByteArray) (w : World) (hs : s.size ≤ 100000) : Calls Tryz.prog 203 #[.string s] w fun e w' => e = .returned (.bool (isName (bl s))) ∧ w' = w := by
  go_enter Tryz.func203, Tryz.ntmps203
  go_wp2_with (go_at_call 268; refine (nameSize_any _ _ hs).mono ?_; rintro e w2 ⟨rfl, hw2⟩; have hw2 := hw2.symm; subst hw2)
  all_goals
    go_ret
    refine ⟨congrArg (fun b => Ending.returned (.bool b)) ?_, rfl⟩
    rw [← isName_eq]
    simp only [bl_toList] at *
  · simp_all
  · rw [beq_nil, nat_beq, bl_len]

end Go.Proofs.YthmepecmeambmaaGreat
namespace Go.Proofs.YthmepecmeambmaaGreat
set_option linter.unusedVariables false

theorem ok59 (f : Bool) : okB 59 f = false := by cases f <;> decide
theorem ld_take (l : List UInt8) : ∀ (j : Nat) (f : Bool), ld (l.take j) f = min (ld l f) j := by
  induction l with
  | nil => intro j f; simp [ld]
  | cons c l ih =>
    intro j f
    cases j with
    | zero => simp [ld]
    | succ j =>
      simp only [List.take_succ_cons, ld]
      split
      · rw [ih]; omega
      · omega
/-- The place of the first semicolon; the end, if there is none. -/
def sc : List UInt8 → Nat
  | [] => 0
  | c :: r => if c = 59 then 0 else sc r + 1
theorem sc_le (r : List UInt8) : sc r ≤ r.length := by
  induction r with
  | nil => simp [sc]
  | cons c r ih => simp only [sc, List.length_cons]; split <;> omega
theorem sc_step {l : List UInt8} {k : Nat} {c : UInt8} (h : l[k]? = some c) : sc (l.drop k) = if c = 59 then 0 else sc (l.drop (k + 1)) + 1 := by
  obtain ⟨hk, hc⟩ := List.getElem?_eq_some_iff.1 h
  rw [List.drop_eq_getElem_cons hk, hc, sc]
theorem ld_le_sc (r : List UInt8) : ∀ f, ld r f ≤ sc r := by
  induction r with
  | nil => intro f; simp [ld]
  | cons c r ih =>
    intro f
    simp only [ld, sc]
    by_cases hc : c = 59
    · subst hc; rw [ok59]; simp
    · rw [if_neg hc]; have := ih false; split <;> omega
theorem sc_le_of_get (r : List UInt8) : ∀ n, r[n]? = some 59 → sc r ≤ n := by
  induction r with
  | nil => intro n h; simp at h
  | cons c r ih =>
    intro n h
    cases n with
    | zero => simp at h; simp [sc, h]
    | succ n => simp at h; have := ih n h; simp only [sc]; split <;> omega
theorem sc_get (r : List UInt8) : sc r < r.length → r[sc r]? = some 59 := by
  induction r with
  | nil => intro h; simp [sc] at h
  | cons c r ih =>
    intro h
    simp only [sc] at *
    by_cases hc : c = 59
    · simp [hc]
    · rw [if_neg hc] at *
      simp only [List.length_cons] at h
      simp only [List.getElem?_cons_succ]
      exact ih (by omega)
theorem cls_sc (r : List UInt8) : cls r = if sc r = r.length then 0 else if isName (r.take (sc r)) then sc r + 2 else 0 := by
  have h1 := sc_le r
  have h2 := ld_le_sc r true
  have h3 := ld_take r (sc r) true
  have hl : (r.take (sc r)).length = sc r := by rw [List.length_take]; omega
  have hN : isName (r.take (sc r)) = (decide (1 ≤ sc r) && decide (sc r ≤ 30) && decide (ld r true = sc r)) := by
    unfold isName
    rw [hl, h3, Nat.min_eq_left h2]
  rw [hN]
  have hz : nsz r = if ld r true ≤ 30 then ld r true else 0 := rfl
  by_cases he : sc r = r.length
  · rw [if_pos he]
    unfold cls
    split
    · rfl
    · rename_i hne
      rw [if_neg]
      intro hg
      obtain ⟨hk, _⟩ := List.getElem?_eq_some_iff.1 hg
      have := sc_le_of_get r _ hg
      omega
  · rw [if_neg he]
    have hg := sc_get r (by omega)
    by_cases hc : 1 ≤ sc r ∧ sc r ≤ 30 ∧ ld r true = sc r
    · obtain ⟨c1, c2, c3⟩ := hc
      have hn : nsz r = sc r := by rw [hz, c3, if_pos c2]
      unfold cls
      rw [hn, if_neg (by omega), hg]
      simp [c1, c2, c3]
    · rw [if_neg (by simp only [Bool.and_eq_true, decide_eq_true_eq]; omega)]
      unfold cls
      split
      · rfl
      · rename_i hne
        rw [if_neg]
        intro hg2
        have := sc_le_of_get r _ hg2
        have h30 : ld r true ≤ 30 := Decidable.byContradiction fun h => hne (by rw [hz, if_neg h])
        rw [hz, if_pos h30] at *
        omega

/-- What is told of a type, so many [ of which are read. -/
def tyr (l : List UInt8) (k : Nat) : Nat := if tyn (l.drop k) k = 0 then 0 else tyn (l.drop k) k + k
theorem tyr_zero (l : List UInt8) : tyr l 0 = tyn l 0 := by unfold tyr; simp; omega
theorem tyr_end {l : List UInt8} {k : Nat} (h : l.length ≤ k) : tyr l k = 0 := by unfold tyr; rw [List.drop_eq_nil_of_le h, tyn]; simp
theorem tyr_deep {l : List UInt8} {k : Nat} (h : 4 < k) : tyr l k = 0 := by
  unfold tyr
  cases l.drop k with
  | nil => simp [tyn]
  | cons c r => simp [tyn, h]
theorem tyn_at {l : List UInt8} {k : Nat} {c : UInt8} (h : l[k]? = some c) (h4 : k ≤ 4) : tyn (l.drop k) k = if c = 73 ∨ c = 67 then 1 else if c = 76 then cls (l.drop (k + 1)) else if c = 91 then (if tyn (l.drop (k + 1)) (k + 1) = 0 then 0 else tyn (l.drop (k + 1)) (k + 1) + 1) else 0 := by
  obtain ⟨hk, hc⟩ := List.getElem?_eq_some_iff.1 h
  rw [List.drop_eq_getElem_cons hk, hc, tyn, if_neg (by omega)]
theorem tyr_one {l : List UInt8} {k : Nat} {c : UInt8} (h : l[k]? = some c) (h4 : k ≤ 4) (hc : c = 73 ∨ c = 67) : tyr l k = k + 1 := by
  unfold tyr; rw [tyn_at h h4, if_pos hc]; simp; omega
theorem tyr_cls {l : List UInt8} {k : Nat} (h : l[k]? = some 76) (h4 : k ≤ 4) : tyr l k = if cls (l.drop (k + 1)) = 0 then 0 else k + cls (l.drop (k + 1)) := by
  unfold tyr; rw [tyn_at h h4]; simp; split <;> omega
theorem tyr_arr {l : List UInt8} {k : Nat} (h : l[k]? = some 91) (h4 : k ≤ 4) : tyr l k = tyr l (k + 1) := by
  have e := tyn_at h h4
  rw [if_neg (by decide : ¬ ((91 : UInt8) = 73 ∨ (91 : UInt8) = 67)), if_neg (by decide : ¬ (91 : UInt8) = 76), if_pos rfl] at e
  unfold tyr
  rw [e]
  generalize tyn (l.drop (k + 1)) (k + 1) = m
  by_cases hm : m = 0
  · simp [hm]
  · simp [hm]; omega
theorem tyr_no {l : List UInt8} {k : Nat} {c : UInt8} (h : l[k]? = some c) (h4 : k ≤ 4) (h1 : ¬ c = 73) (h2 : ¬ c = 67) (h3 : ¬ c = 76) (h5 : ¬ c = 91) : tyr l k = 0 := by
  unfold tyr; rw [tyn_at h h4]; simp [h1, h2, h3, h5]
/-- The same, the [ counted first. -/
theorem tyn_front (l : List UInt8) : tyn l 0 = if 4 < lb l then 0 else match l[lb l]? with
    | none => 0
    | some c => if c = 73 ∨ c = 67 then lb l + 1 else if c = 76 then (if cls (l.drop (lb l + 1)) = 0 then 0 else lb l + cls (l.drop (lb l + 1))) else 0 := by
  rw [tyn_lb, Nat.add_zero]
  split
  · rfl
  · cases hg : l[lb l]? with
    | none =>
      rw [List.drop_eq_nil_of_le (List.getElem?_eq_none_iff.1 hg)]
      simp [tyb]
    | some c =>
      obtain ⟨hk, hc⟩ := List.getElem?_eq_some_iff.1 hg
      rw [List.drop_eq_getElem_cons hk, hc, tyb]
      simp only
      repeat' split
      all_goals simp_all
      all_goals omega
theorem isType_len {l : List UInt8} (h : isType l = true) : tyn l 0 = l.length ∧ l ≠ [] := by
  unfold isType at h
  simp at h
  exact ⟨h.2, h.1⟩
/-- How a type begins. -/
theorem isType_head {l : List UInt8} (h : isType l = true) : l = [73] ∨ l = [67] ∨ (∃ r, l = 76 :: r) ∨ ∃ r, l = 91 :: r := by
  obtain ⟨h1, h2⟩ := isType_len h
  cases l with
  | nil => exact absurd rfl h2
  | cons c r =>
    simp only [tyn, List.length_cons] at h1
    by_cases c1 : c = 73
    · subst c1; simp at h1; exact Or.inl (by rw [h1])
    · by_cases c2 : c = 67
      · subst c2; simp at h1; exact Or.inr (Or.inl (by rw [h1]))
      · by_cases c3 : c = 76
        · exact Or.inr (Or.inr (Or.inl ⟨r, by rw [c3]⟩))
        · by_cases c4 : c = 91
          · exact Or.inr (Or.inr (Or.inr ⟨r, by rw [c4]⟩))
          · simp [c1, c2, c3, c4] at h1
theorem byte_ne {c : UInt8} {n : UInt8} (h : ((c.toNat : Int) == (n.toNat : Int)) = false) : ¬ c = n := by
  rintro rfl; simp at h
theorem byte_eq {c : UInt8} {n : UInt8} (h : ((c.toNat : Int) == (n.toNat : Int)) = true) : c = n := by
  have : (c.toNat : Int) = n.toNat := by simpa using h
  exact UInt8.toNat_inj.1 (by omega)
end Go.Proofs.YthmepecmeambmaaGreat
