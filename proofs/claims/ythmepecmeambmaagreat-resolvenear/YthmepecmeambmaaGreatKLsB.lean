/- Types peeled: the program's peel. -/
/- Which class is one of another; is a type there? -/
import Derived.Test.YthmepecmeambmaaGreatKLmF
import Derived.Deep.RegionHeld3
namespace Go.Proofs.YthmepecmeambmaaGreat
open Go.RowKit
set_option linter.unusedVariables false

/-- One `[` off two types at a time, as long as that leaves two references; how many. -/
def peelL : Nat → List UInt8 → List UInt8 → Nat → List UInt8 × List UInt8 × Nat
  | 0, a, b, d => (a, b, d)
  | f + 1, a, b, d => if isRef (elemL a) && isRef (elemL b) then peelL f (elemL a) (elemL b) (d + 1) else (a, b, d)
def peel (a b : ByteArray) : ByteArray × ByteArray × Nat :=
  let r := peelL a.size (bl a) (bl b) 0
  (ms r.1, ms r.2.1, r.2.2)
theorem elemL_len (l : List UInt8) (h : elemL l ≠ []) : (elemL l).length + 1 = l.length := by
  unfold elemL at h ⊢
  split
  · cases l with
    | nil => simp [hd] at *
    | cons c r => simp
  · next hq => rw [if_neg hq] at h; exact absurd rfl h
theorem ref_ne {l : List UInt8} (h : isRef l = true) : l ≠ [] := by
  rintro rfl
  revert h
  decide
theorem peel_on {f : Nat} {a b : List UInt8} {d : Nat} (h1 : isRef (elemL a) = true) (h2 : isRef (elemL b) = true) : peelL (f + 1) a b d = peelL f (elemL a) (elemL b) (d + 1) := by
  rw [peelL, h1, h2]; rfl
theorem peel_off {f : Nat} {a b : List UInt8} {d : Nat} (h : (isRef (elemL a) && isRef (elemL b)) = false) : peelL f a b d = (a, b, d) := by
  cases f with
  | zero => rfl
  | succ f => rw [peelL, h]; rfl

set_option maxHeartbeats 16000000 in
set_option maxRecDepth 100000 in
theorem peel_any (a b : ByteArray) (w : World) (ha : a.size ≤ 1000) (hb : b.size ≤ 1000) :
    Calls Tryz.prog 120 #[.string a, .string b] w fun e w' => e = .returned (.tuple #[.string (peel a b).1, .string (peel a b).2.1, .int .i64 ((peel a b).2.2 : Nat)]) ∧ Ch w w' := by
  obtain ⟨R, hR⟩ : ∃ R, peelL a.size (bl a) (bl b) 0 = R := ⟨_, rfl⟩
  have hpe : peel a b = (ms R.1, ms R.2.1, R.2.2) := by unfold peel; rw [hR]
  rw [hpe]
  clear hpe
  dsimp only
  have HE : Hid (∀ (s : ByteArray) w, s.size ≤ 1000 → Calls Tryz.prog 124 #[.string s] w fun e w' => e = .returned (.tuple #[.string (ms (elemL (bl s))), .bool (elemB (bl s))]) ∧ Ch w w') := fun s w h => elem_t s w (by omega)
  have hel : ∀ s : ByteArray, s.size ≤ 1000 → (ms (elemL (bl s))).size ≤ 1000 := fun s h => by
    rw [ms_size]
    by_cases h0 : elemL (bl s) = []
    · rw [h0]; simp
    · have := elemL_len _ h0; rw [bl_len] at this; omega
  have HRF : Hid (∀ (s : ByteArray) w, s.size ≤ 1000 → Calls Tryz.prog 189 #[.string (ms (elemL (bl s)))] w fun e w' => e = .returned (.bool (isRef (elemL (bl s)))) ∧ w' = w) := fun s w h => by
    have := ref_any (ms (elemL (bl s))) w (by have := hel s h; omega)
    rwa [bl_ms] at this
  have HEL : Hid (∀ s : ByteArray, s.size ≤ 1000 → (ms (elemL (bl s))).size ≤ 1000) := hel
  have HR0 : Hid (peelL a.size (bl a) (bl b) 0 = R) := hR
  clear hel hR
  go_enter Tryz.func120, Tryz.ntmps120
  go_wp2_with fail
  refine wp_scope_jumps 0 (fun a' w' => Ch w w' ∧ ∃ (s1 s2 : ByteArray) (d : Nat) (u8 u9 u10 u11 u12 u13 u14 u15 u16 u17 u18 u19 u20 u21 u22 u23 u24 u25 u26 u27 u28 u29 u30 u31 u32 u33 u34 : Value), a' = { tmps := #[.string s1, .string s2, undef, undef, .string ⟨#[]⟩, .string ⟨#[]⟩, .int .i64 0, .int .i64 (d : Int), u8, u9, u10, u11, u12, u13, u14, u15, u16, u17, u18, u19, u20, u21, u22, u23, u24, u25, u26, u27, u28, u29, u30, u31, u32, u33, u34], defers := [] } ∧ s1.size ≤ 1000 ∧ s2.size ≤ 1000 ∧ d + s1.size ≤ 1000 ∧ peelL s1.size (bl s1) (bl s2) d = R) (fun a' _ => match a'.tmps.getD 0 undef with | .string s => s.size | _ => 0) rfl ?_ ?_
  · have hs1 := ha
    have hs2 := hb
    have hno := HR0.out
    have hcr := Ch.refl w
    obtain ⟨r1, hr1⟩ : ∃ r, isRef (elemL (bl a)) = r := ⟨_, rfl⟩
    obtain ⟨r2, hr2⟩ : ∃ r, isRef (elemL (bl b)) = r := ⟨_, rfl⟩
    have hre1 := fun W => HRF.out a W hs1
    have hre2 := fun W => HRF.out b W hs2
    have he1 := fun W => HE.out a W hs1
    have he2 := fun W => HE.out b W hs2
    rw [hr1] at hre1
    rw [hr2] at hre2
    by_cases hqfalseNone : r1 = false
    · subst hqfalseNone
      have HO : Hid ((bl a, bl b, 0) = R) := (show _ = R by rw [← hno]; exact (peel_off (by rw [hr1]; rfl)).symm)
      clear hr1 hr2 hno
      go_wp2_with (first
      | (go_at_call 124; (with_reducible refine (he1 _).mono ?_); clear he1; rintro e w1 ⟨rfl, c1⟩)
      | (go_at_call 124; (with_reducible refine (he2 _).mono ?_); clear he2; rintro e w2 ⟨rfl, c2⟩)
      | (go_at_call 189; (with_reducible refine (hre1 _).mono ?_); clear hre1; rintro e w3 ⟨rfl, hw⟩; have hw := hw.symm; subst hw)
      | (go_at_call 189; (with_reducible refine (hre2 _).mono ?_); clear hre2; rintro e w4 ⟨rfl, hw⟩; have hw := hw.symm; subst hw)
      | fail)
      go_step3
      go_wp2_with (first
      | (go_at_call 124; (with_reducible refine (he1 _).mono ?_); clear he1; rintro e w1 ⟨rfl, c1⟩)
      | (go_at_call 124; (with_reducible refine (he2 _).mono ?_); clear he2; rintro e w2 ⟨rfl, c2⟩)
      | (go_at_call 189; (with_reducible refine (hre1 _).mono ?_); clear hre1; rintro e w3 ⟨rfl, hw⟩; have hw := hw.symm; subst hw)
      | (go_at_call 189; (with_reducible refine (hre2 _).mono ?_); clear hre2; rintro e w4 ⟨rfl, hw⟩; have hw := hw.symm; subst hw)
      | fail)
      simp only [Exit.jump]
      go_ret3
      exact ⟨by rw [← HO.out]; simp only [ms_bl]; rfl, (hcr.trans c1).trans c2⟩
    by_cases hqtruefalse : r1 = true ∧ r2 = false
    · obtain ⟨rfl, rfl⟩ := hqtruefalse
      have HO : Hid ((bl a, bl b, 0) = R) := (show _ = R by rw [← hno]; exact (peel_off (by rw [hr1]; rw [hr2]; rfl)).symm)
      clear hr1 hr2 hno
      go_wp2_with (first
      | (go_at_call 124; (with_reducible refine (he1 _).mono ?_); clear he1; rintro e w1 ⟨rfl, c1⟩)
      | (go_at_call 124; (with_reducible refine (he2 _).mono ?_); clear he2; rintro e w2 ⟨rfl, c2⟩)
      | (go_at_call 189; (with_reducible refine (hre1 _).mono ?_); clear hre1; rintro e w3 ⟨rfl, hw⟩; have hw := hw.symm; subst hw)
      | (go_at_call 189; (with_reducible refine (hre2 _).mono ?_); clear hre2; rintro e w4 ⟨rfl, hw⟩; have hw := hw.symm; subst hw)
      | fail)
      go_step3
      go_wp2_with (first
      | (go_at_call 124; (with_reducible refine (he1 _).mono ?_); clear he1; rintro e w1 ⟨rfl, c1⟩)
      | (go_at_call 124; (with_reducible refine (he2 _).mono ?_); clear he2; rintro e w2 ⟨rfl, c2⟩)
      | (go_at_call 189; (with_reducible refine (hre1 _).mono ?_); clear hre1; rintro e w3 ⟨rfl, hw⟩; have hw := hw.symm; subst hw)
      | (go_at_call 189; (with_reducible refine (hre2 _).mono ?_); clear hre2; rintro e w4 ⟨rfl, hw⟩; have hw := hw.symm; subst hw)
      | fail)
      simp only [Exit.jump]
      go_ret3
      exact ⟨by rw [← HO.out]; simp only [ms_bl]; rfl, (hcr.trans c1).trans c2⟩
    obtain rfl : r1 = true := by cases r1; exact absurd rfl hqfalseNone; rfl
    obtain rfl : r2 = true := by cases r2; exact absurd ⟨rfl, rfl⟩ hqtruefalse; rfl
    have hl := elemL_len _ (ref_ne hr1)
    rw [bl_len] at hl
    have HN : Hid (peelL (ms (elemL (bl a))).size (bl (ms (elemL (bl a)))) (bl (ms (elemL (bl b)))) (0 + 1) = R) := (show _ = R by rw [← hno, ms_size, bl_ms, bl_ms, ← hl]; exact (peel_on hr1 hr2).symm)
    have hz1 := HEL.out a hs1
    have hz2 := HEL.out b hs2
    have hz3 : (ms (elemL (bl a))).size + 1 = a.size := by rw [ms_size]; exact hl
    clear hr1 hr2 hno hqfalseNone hqtruefalse hl
    generalize elemL (bl a) = x1 at *
    generalize elemL (bl b) = x2 at *
    go_wp2_with (first
      | (go_at_call 124; (with_reducible refine (he1 _).mono ?_); clear he1; rintro e w1 ⟨rfl, c1⟩)
      | (go_at_call 124; (with_reducible refine (he2 _).mono ?_); clear he2; rintro e w2 ⟨rfl, c2⟩)
      | (go_at_call 189; (with_reducible refine (hre1 _).mono ?_); clear hre1; rintro e w3 ⟨rfl, hw⟩; have hw := hw.symm; subst hw)
      | (go_at_call 189; (with_reducible refine (hre2 _).mono ?_); clear hre2; rintro e w4 ⟨rfl, hw⟩; have hw := hw.symm; subst hw)
      | fail)
    go_step3
    go_wp2_with (first
      | (go_at_call 124; (with_reducible refine (he1 _).mono ?_); clear he1; rintro e w1 ⟨rfl, c1⟩)
      | (go_at_call 124; (with_reducible refine (he2 _).mono ?_); clear he2; rintro e w2 ⟨rfl, c2⟩)
      | (go_at_call 189; (with_reducible refine (hre1 _).mono ?_); clear hre1; rintro e w3 ⟨rfl, hw⟩; have hw := hw.symm; subst hw)
      | (go_at_call 189; (with_reducible refine (hre2 _).mono ?_); clear hre2; rintro e w4 ⟨rfl, hw⟩; have hw := hw.symm; subst hw)
      | fail)
    go_step3
    exact ⟨rfl, (hcr.trans c1).trans c2, ms x1, ms x2, 0 + 1, _, _, _, _, _, _, _, _, _, _, _, _, _, _, _, _, _, _, _, _, _, _, _, _, _, _, _, rfl, hz1, hz2, by omega, HN.out⟩
  · rintro a' w' ⟨hcr, s1, s2, d, u8, u9, u10, u11, u12, u13, u14, u15, u16, u17, u18, u19, u20, u21, u22, u23, u24, u25, u26, u27, u28, u29, u30, u31, u32, u33, u34, rfl, hs1, hs2, hd, hno⟩
    obtain ⟨r1, hr1⟩ : ∃ r, isRef (elemL (bl s1)) = r := ⟨_, rfl⟩
    obtain ⟨r2, hr2⟩ : ∃ r, isRef (elemL (bl s2)) = r := ⟨_, rfl⟩
    have hre1 := fun W => HRF.out s1 W hs1
    have hre2 := fun W => HRF.out s2 W hs2
    have he1 := fun W => HE.out s1 W hs1
    have he2 := fun W => HE.out s2 W hs2
    rw [hr1] at hre1
    rw [hr2] at hre2
    by_cases hqfalseNone : r1 = false
    · subst hqfalseNone
      have HO : Hid ((bl s1, bl s2, d) = R) := (show _ = R by rw [← hno]; exact (peel_off (by rw [hr1]; rfl)).symm)
      clear hr1 hr2 hno
      go_wp2_with (first
      | (go_at_call 124; (with_reducible refine (he1 _).mono ?_); clear he1; rintro e w1 ⟨rfl, c1⟩)
      | (go_at_call 124; (with_reducible refine (he2 _).mono ?_); clear he2; rintro e w2 ⟨rfl, c2⟩)
      | (go_at_call 189; (with_reducible refine (hre1 _).mono ?_); clear hre1; rintro e w3 ⟨rfl, hw⟩; have hw := hw.symm; subst hw)
      | (go_at_call 189; (with_reducible refine (hre2 _).mono ?_); clear hre2; rintro e w4 ⟨rfl, hw⟩; have hw := hw.symm; subst hw)
      | fail)
      simp only [Exit.jump]
      go_ret3
      exact ⟨by rw [← HO.out]; simp only [ms_bl]; rfl, (hcr.trans c1).trans c2⟩
    by_cases hqtruefalse : r1 = true ∧ r2 = false
    · obtain ⟨rfl, rfl⟩ := hqtruefalse
      have HO : Hid ((bl s1, bl s2, d) = R) := (show _ = R by rw [← hno]; exact (peel_off (by rw [hr1]; rw [hr2]; rfl)).symm)
      clear hr1 hr2 hno
      go_wp2_with (first
      | (go_at_call 124; (with_reducible refine (he1 _).mono ?_); clear he1; rintro e w1 ⟨rfl, c1⟩)
      | (go_at_call 124; (with_reducible refine (he2 _).mono ?_); clear he2; rintro e w2 ⟨rfl, c2⟩)
      | (go_at_call 189; (with_reducible refine (hre1 _).mono ?_); clear hre1; rintro e w3 ⟨rfl, hw⟩; have hw := hw.symm; subst hw)
      | (go_at_call 189; (with_reducible refine (hre2 _).mono ?_); clear hre2; rintro e w4 ⟨rfl, hw⟩; have hw := hw.symm; subst hw)
      | fail)
      simp only [Exit.jump]
      go_ret3
      exact ⟨by rw [← HO.out]; simp only [ms_bl]; rfl, (hcr.trans c1).trans c2⟩
    obtain rfl : r1 = true := by cases r1; exact absurd rfl hqfalseNone; rfl
    obtain rfl : r2 = true := by cases r2; exact absurd ⟨rfl, rfl⟩ hqtruefalse; rfl
    have hl := elemL_len _ (ref_ne hr1)
    rw [bl_len] at hl
    have HN : Hid (peelL (ms (elemL (bl s1))).size (bl (ms (elemL (bl s1)))) (bl (ms (elemL (bl s2)))) (d + 1) = R) := (show _ = R by rw [← hno, ms_size, bl_ms, bl_ms, ← hl]; exact (peel_on hr1 hr2).symm)
    have hz1 := HEL.out s1 hs1
    have hz2 := HEL.out s2 hs2
    have hz3 : (ms (elemL (bl s1))).size + 1 = s1.size := by rw [ms_size]; exact hl
    clear hr1 hr2 hno hqfalseNone hqtruefalse hl
    generalize elemL (bl s1) = x1 at *
    generalize elemL (bl s2) = x2 at *
    go_wp2_with (first
      | (go_at_call 124; (with_reducible refine (he1 _).mono ?_); clear he1; rintro e w1 ⟨rfl, c1⟩)
      | (go_at_call 124; (with_reducible refine (he2 _).mono ?_); clear he2; rintro e w2 ⟨rfl, c2⟩)
      | (go_at_call 189; (with_reducible refine (hre1 _).mono ?_); clear hre1; rintro e w3 ⟨rfl, hw⟩; have hw := hw.symm; subst hw)
      | (go_at_call 189; (with_reducible refine (hre2 _).mono ?_); clear hre2; rintro e w4 ⟨rfl, hw⟩; have hw := hw.symm; subst hw)
      | fail)
    go_step3
    refine ⟨rfl, ⟨(hcr.trans c1).trans c2, ms x1, ms x2, d + 1, _, _, _, _, _, _, _, _, _, _, _, _, _, _, _, _, _, _, _, _, _, _, _, _, _, _, _, rfl, hz1, hz2, by omega, HN.out⟩, ?_⟩
    show (ms x1).size < s1.size
    omega
end Go.Proofs.YthmepecmeambmaaGreat
namespace Go.Proofs.YthmepecmeambmaaGreat
open Go.RowKit
set_option linter.unusedVariables false

def thereB (P : List Cls) (n : ByteArray) : Bool := decide (0 < (walkN P n).1.length)
def subC (P : List Cls) (a b : ByteArray) : Bool := hasN (walkN P a).1 b || hasN (ifcE P a) b
theorem there_any (n : ByteArray) (P : List Cls) (g b : Nat) (w : World) (h : Pm w g b P) :
    Calls Tryz.prog 118 #[.pointer (some ⟨g, 0, none⟩), .string n] w fun e w' => e = .returned (.bool (thereB P n)) ∧ Ch w w' := by
  have hs := supers_any n P g b w h
  unfold thereB
  generalize (walkN P n).1 = l at *
  go_enter Tryz.func118, Tryz.ntmps118
  go_wp2_with (first
    | (go_at_call 33; (with_reducible refine hs.mono ?_); clear hs; rintro e w1 ⟨v1, rfl, o1, c1⟩; obtain ⟨a1, d1, rfl⟩ := o1.form)
    | fail)
  go_ret
  exact ⟨rfl, c1⟩
theorem there_nil (n : ByteArray) (w : World) : Calls Tryz.prog 118 #[.pointer none, .string n] w fun e w' => e = .returned (.bool false) ∧ w' = w := by
  have hs := supers_nil n w
  go_enter Tryz.func118, Tryz.ntmps118
  go_wp2_with (first
    | (go_at_call 33; (with_reducible refine hs.mono ?_); clear hs; rintro e w1 ⟨rfl, hw⟩; have hw := hw.symm; subst hw)
    | fail)
  go_ret
  exact ⟨rfl, rfl⟩

set_option maxHeartbeats 4000000 in
theorem sub_any (x y : ByteArray) (P : List Cls) (g b : Nat) (w : World) (h : Pm w g b P) (hI : imIn P) :
    Calls Tryz.prog 48 #[.pointer (some ⟨g, 0, none⟩), .string x, .string y] w fun e w' => e = .returned (.bool (subC P x y)) ∧ Ch w w' := by
  have hs := supers_any x P g b w h
  have HT : Hid (∀ w', Ch w w' → Calls Tryz.prog 34 #[.pointer (some ⟨g, 0, none⟩), .string x] w' fun e w2 => ∃ v, e = .returned v ∧ Ow 1 9 RS w'.heap.size w2 v (ifcE P x) ∧ Ch w' w2) := fun w' k => interfaces_told x P g b w' (h.keep k) hI
  clear h hI
  unfold subC
  generalize (walkN P x).1 = l1 at *
  generalize ifcE P x = l2 at *
  have HC : Hid (∀ (v : Value) (xs : List ByteArray) w, Sl 1 RS w v xs → Calls Tryz.prog 100 #[v, .string y] w fun e w' => e = .returned (.bool (hasN xs y)) ∧ w' = w) := fun v xs w h => containsS_any y xs v w h
  cases hh1 : hasN l1 y <;> cases hh2 : hasN l2 y <;>
  · have H1 : Hid (hasN l1 y = _) := hh1
    have H2 : Hid (hasN l2 y = _) := hh2
    clear hh1 hh2
    go_enter Tryz.func48, Tryz.ntmps48
    go_wp2_with (first
      | (go_at_call 33; (with_reducible refine hs.mono ?_); clear hs; rintro e w1 ⟨v1, rfl, o1, c1⟩; have hc := HC.out v1 l1 w1 o1.sl; rw [H1.out] at hc; have ht := HT.out w1 c1)
      | (go_at_call 100; (with_reducible refine hc.mono ?_); clear hc; rintro e w2 ⟨rfl, hw⟩; have hw := hw.symm; subst hw)
      | (go_at_call 34; (with_reducible refine ht.mono ?_); clear ht; rintro e w3 ⟨v3, rfl, o3, c3⟩; have hd := HC.out v3 l2 w3 o3.sl; rw [H2.out] at hd)
      | (go_at_call 100; (with_reducible refine hd.mono ?_); clear hd; rintro e w4 ⟨rfl, hw⟩; have hw := hw.symm; subst hw)
      | fail)
    go_ret
    first
      | exact ⟨rfl, c1.trans c3⟩
      | exact ⟨rfl, c1⟩
theorem sub_nil (x y : ByteArray) (w : World) : Calls Tryz.prog 48 #[.pointer none, .string x, .string y] w fun e w' => e = .returned (.bool false) ∧ Ch w w' := by
  have hs := supers_nil x w
  have HC : Hid (∀ w, Calls Tryz.prog 100 #[.slice none 0 0, .string y] w fun e w' => e = .returned (.bool false) ∧ w' = w) := fun w => containsS_any y [] _ w (nilR 1 RS w)
  have hc := HC.out w
  go_enter Tryz.func48, Tryz.ntmps48
  go_wp2_with (first
    | (go_at_call 33; (with_reducible refine hs.mono ?_); clear hs; rintro e w1 ⟨rfl, hw⟩; have hw := hw.symm; subst hw)
    | (go_at_call 100; (with_reducible refine hc.mono ?_); clear hc; rintro e w2 ⟨rfl, hw⟩; have hw := hw.symm; subst hw)
    | (go_at_call 34; (with_reducible refine (told_nil x _).mono ?_); rintro e w3 ⟨rfl, c3⟩; have hd := HC.out w3)
    | (go_at_call 100; (with_reducible refine hd.mono ?_); clear hd; rintro e w4 ⟨rfl, hw⟩; have hw := hw.symm; subst hw)
    | fail)
  go_ret
  exact ⟨rfl, c3⟩

/-- Is the type there? -/
def knownB (P : List Cls) (t : ByteArray) : Bool := isType (bl t) && ((ms (classL (bl (peel t t).1))).toList == [] || thereB P (ms (classL (bl (peel t t).1))))
theorem peelL_size : ∀ (f : Nat) (a b : List UInt8) (d : Nat), (peelL f a b d).1.length ≤ a.length ∧ (peelL f a b d).2.1.length ≤ b.length
  | 0, a, b, d => ⟨Nat.le_refl _, Nat.le_refl _⟩
  | f + 1, a, b, d => by
    rw [peelL]
    split
    · next h =>
      obtain ⟨h1, h2⟩ := Bool.and_eq_true_iff.1 h
      have i := peelL_size f (elemL a) (elemL b) (d + 1)
      have j1 := elemL_len _ (ref_ne h1)
      have j2 := elemL_len _ (ref_ne h2)
      omega
    · exact ⟨Nat.le_refl _, Nat.le_refl _⟩
theorem peel_size (a b : ByteArray) : (peel a b).1.size ≤ a.size ∧ (peel a b).2.1.size ≤ b.size := by
  have := peelL_size a.size (bl a) (bl b) 0
  unfold peel
  simp only [ms_size]
  rw [bl_len, bl_len] at this
  exact this
theorem classL_len (l : List UInt8) : (classL l).length ≤ l.length := by
  unfold classL
  split
  · rw [List.length_take, List.length_drop]; omega
  · simp

set_option maxHeartbeats 8000000 in
theorem known_any (t : ByteArray) (P : List Cls) (g b : Nat) (w : World) (h : Pm w g b P) (ht : t.size ≤ 1000) :
    Calls Tryz.prog 52 #[.pointer (some ⟨g, 0, none⟩), .string t] w fun e w' => e = .returned (.bool (knownB P t)) ∧ Ch w w' := by
  have hty := fun W => type_any t W (by omega)
  have hpe := fun W => peel_any t t W ht ht
  have hps := (peel_size t t).1
  have HCL : Hid (∀ W, Calls Tryz.prog 121 #[.string (peel t t).1] W fun e w' => e = .returned (.string (ms (classL (bl (peel t t).1)))) ∧ Ch W w') := fun W => class_t (peel t t).1 W (by omega)
  have HTH : Hid (∀ n w', Ch w w' → Calls Tryz.prog 118 #[.pointer (some ⟨g, 0, none⟩), .string n] w' fun e w2 => e = .returned (.bool (thereB P n)) ∧ Ch w' w2) := fun n w' k => there_any n P g b w' (h.keep k)
  unfold knownB
  clear h
  generalize peel t t = pt at *
  obtain ⟨p1, p2, p3⟩ := pt
  dsimp only at *
  have hcs : (ms (classL (bl p1))).size ≤ 1000 := by rw [ms_size]; have := classL_len (bl p1); rw [bl_len] at this; omega
  generalize ms (classL (bl p1)) = cn at *
  have hq0 : (cn.toList == []) = (cn.toList == []) := rfl
  generalize isType (bl t) = ty at *
  have HTN := HTH.out cn
  generalize thereB P cn = tb at *
  cases hq : (cn.toList == []) <;> cases ty <;> cases tb <;>
  · have HQ := hq
    go_enter Tryz.func52, Tryz.ntmps52
    go_wp2_with (first
      | (go_at_call 119; (with_reducible refine (hty _).mono ?_); clear hty; rintro e w1 ⟨rfl, hw⟩; have hw := hw.symm; subst hw)
      | (go_at_call 120; (with_reducible refine (hpe _).mono ?_); clear hpe; rintro e w2 ⟨rfl, c2⟩)
      | (go_at_call 121; (with_reducible refine (HCL.out _).mono ?_); rintro e w3 ⟨rfl, c3⟩; have hth := HTN w3 (c2.trans c3))
      | (go_at_call 118; (with_reducible refine hth.mono ?_); clear hth; rintro e w4 ⟨rfl, c4⟩)
      | fail)
    go_ret
    first
      | exact ⟨rfl, (c2.trans c3).trans c4⟩
      | exact ⟨rfl, c2.trans c3⟩
      | exact ⟨rfl, Ch.refl _⟩
theorem known_nil (t : ByteArray) (w : World) : Calls Tryz.prog 52 #[.pointer none, .string t] w fun e w' => e = .returned (.bool false) ∧ w' = w := by
  go_enter Tryz.func52, Tryz.ntmps52
  go_wp2
  go_ret
  exact ⟨rfl, rfl⟩
end Go.Proofs.YthmepecmeambmaaGreat
