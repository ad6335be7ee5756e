/- What is told of a type: its class, its element; types that are made. -/
import Derived.Test.YtdalibfgkkgcpaaGreatMem
namespace Go.Proofs.YtdalibfgkkgcpaaGreat
open Go.RowKit
set_option linter.unusedVariables false

def classL (l : List UInt8) : List UInt8 := if isType l && hd 76 l then (l.drop 1).take (l.length - 2) else []
def elemL (l : List UInt8) : List UInt8 := if isType l && hd 91 l then l.drop 1 else []
def elemB (l : List UInt8) : Bool := isType l && hd 91 l
def onlyL (l : List UInt8) : List UInt8 := if isType l then l else []
def arrL (l : List UInt8) : List UInt8 := onlyL (91 :: l)
def ofL (l : List UInt8) : List UInt8 := if isName l then 76 :: l ++ [59] else []

theorem type_as {s : ByteArray} {b : Bool} (hb : isType (bl s) = b) (hs : s.size ≤ 100000) (w0 : World) : Calls Tryz.prog 71 #[.string s] w0 fun e w' => e = .returned (.bool b) ∧ w' = w0 := by
  have h := type_any s w0 hs; rw [hb] at h; exact h
theorem type_size {s : ByteArray} (h : isType (bl s) = true) : 0 < s.size := by
  obtain ⟨_, h2⟩ := isType_len h
  have := bl_len s
  rcases Nat.eq_zero_or_pos s.size with h0 | h0
  · exact absurd (List.eq_nil_of_length_eq_zero (by omega)) h2
  · exact h0
theorem hd_zero {s : ByteArray} (c : UInt8) (h : 0 < s.size) : hd c (bl s) = ((s[0].toNat : Int) == (c.toNat : Int)) := by
  have h1 := bl_get s 0 h
  cases hb : bl s with
  | nil => rw [hb] at h1; simp at h1
  | cons x r =>
    rw [hb] at h1
    have h1 : x = s[0] := by simpa using h1
    rw [← h1]
    simp only [hd]
    rw [Bool.eq_iff_iff, beq_iff_eq, beq_iff_eq]
    constructor
    · rintro rfl; rfl
    · intro h; exact UInt8.toNat_inj.1 (by omega)
/-- A class type has at least three bytes. -/
theorem cls_size {s : ByteArray} (h : isType (bl s) = true) (h2 : hd 76 (bl s) = true) : 2 ≤ s.size := by
  obtain ⟨r, hr⟩ := hd_yes h2
  obtain ⟨h3, _⟩ := isType_len h
  rw [bl_len, hr, tyn, if_neg (by omega), if_neg (by decide), if_pos rfl] at h3
  have := bl_len s
  rw [hr] at this
  simp at this
  unfold cls at h3
  repeat' split at h3
  all_goals omega

theorem hd_ne {s : ByteArray} {c : UInt8} {b : Bool} (n : Int) (hn : (c.toNat : Int) = n) (h : 0 < s.size) (hb : hd c (bl s) = b) : ((s[0].toNat : Int) != n) = !b := by
  rw [hd_zero c h, hn] at hb
  rw [bne, hb]

theorem only_any (s : ByteArray) (w : World) (hs : s.size ≤ 100000) : Calls Tryz.prog 142 #[.string s] w fun e w' => e = .returned (.string (ms (onlyL (bl s)))) ∧ w' = w := by
  obtain ⟨b, hb⟩ : ∃ b, isType (bl s) = b := ⟨_, rfl⟩
  have hcall := fun w0 => type_as hb hs w0
  cases b
  · have hr : onlyL (bl s) = [] := by unfold onlyL; rw [hb]; rfl
    rw [hr]
    clear hr hb
    go_enter Tryz.func142, Tryz.ntmps142
    go_wp2_with (go_at_call 71; refine (hcall _).mono ?_; rintro e w2 ⟨rfl, hw2⟩; have hw2 := hw2.symm; subst hw2)
    go_ret
    exact ⟨rfl, rfl⟩
  · have hr : ms (onlyL (bl s)) = s := by unfold onlyL; rw [hb]; exact ms_bl s
    rw [hr]
    clear hr hb
    go_enter Tryz.func142, Tryz.ntmps142
    go_wp2_with (go_at_call 71; refine (hcall _).mono ?_; rintro e w2 ⟨rfl, hw2⟩; have hw2 := hw2.symm; subst hw2)
    go_ret
    exact ⟨rfl, rfl⟩
theorem bl_arr (s : ByteArray) : bl (⟨#[91]⟩ ++ s) = 91 :: bl s := by rw [bl_append]; rfl
theorem size_arr (s : ByteArray) : ((⟨#[91]⟩ : ByteArray) ++ s).size = s.size + 1 := by rw [← bl_len, bl_arr, List.length_cons, bl_len]
theorem arr_any (s : ByteArray) (w : World) (hs : s.size ≤ 90000) : Calls Tryz.prog 140 #[.string s] w fun e w' => e = .returned (.string (ms (arrL (bl s)))) ∧ w' = w := by
  have hcall : ∀ w0, Calls Tryz.prog 142 #[.string (⟨#[91]⟩ ++ s)] w0 fun e w' => e = .returned (.string (ms (arrL (bl s)))) ∧ w' = w0 := fun w0 => by
    have h := only_any (⟨#[91]⟩ ++ s) w0 (by rw [size_arr]; omega)
    rw [bl_arr] at h
    exact h
  go_enter Tryz.func140, Tryz.ntmps140
  go_wp2_with (go_at_call 142; refine (hcall _).mono ?_; rintro e w2 ⟨rfl, hw2⟩; have hw2 := hw2.symm; subst hw2)
  go_ret
  exact ⟨rfl, rfl⟩
theorem ld_snoc (l : List UInt8) : ∀ f, ld (l ++ [59]) f = ld l f := by
  induction l with
  | nil => intro f; simp [ld, ok59]
  | cons c l ih => intro f; simp only [List.cons_append, ld]; rw [ih]
theorem isType_of (l : List UInt8) : isType (76 :: l ++ [59]) = isName l := by
  have h1 : nsz (l ++ [59]) = nsz l := by unfold nsz; rw [ld_snoc]
  have h2 := nsz_le l
  have h3 : tyn (76 :: l ++ [59]) 0 = cls (l ++ [59]) := by
    rw [List.cons_append, tyn, if_neg (by omega), if_neg (by decide), if_pos rfl]
  rw [← isName_eq]
  unfold isType
  rw [h3]
  unfold cls
  rw [h1]
  by_cases h0 : nsz l = 0
  · cases l with
    | nil => decide
    | cons c l => simp [h0]
  · by_cases hl : nsz l = l.length
    · rw [hl]
      rw [if_neg (by omega)]
      simp
      intro e
      subst e
      exact h0 (by decide)
    · rw [if_neg h0]
      have : l.length = nsz l → False := fun e => hl e.symm
      simp [hl]
      split
      · omega
      · omega
theorem bl_of (s : ByteArray) : bl ((⟨#[76]⟩ ++ s) ++ ⟨#[59]⟩) = 76 :: bl s ++ [59] := by rw [bl_append, bl_append]; rfl
theorem size_of (s : ByteArray) : (((⟨#[76]⟩ : ByteArray) ++ s) ++ ⟨#[59]⟩).size = s.size + 2 := by rw [← bl_len, bl_of]; simp [bl_len]
theorem name_as {s : ByteArray} {b : Bool} (hb : isName (bl s) = b) (hs : s.size ≤ 100000) (w0 : World) : Calls Tryz.prog 67 #[.string s] w0 fun e w' => e = .returned (.bool b) ∧ w' = w0 := by
  have h := name_any s w0 hs; rw [hb] at h; exact h
end Go.Proofs.YtdalibfgkkgcpaaGreat
