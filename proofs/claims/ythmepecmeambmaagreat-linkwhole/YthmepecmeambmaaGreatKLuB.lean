/- LinkWhole, walked. -/
import Derived.Test.YthmepecmeambmaaGreatKLuA
namespace Go.Proofs.YthmepecmeambmaaGreat
open Go.RowKit
set_option linter.unusedVariables false

set_option maxHeartbeats 16000000 in
set_option maxRecDepth 100000 in
theorem whole_000 (at' : Int) (hrw : ∀ w, Calls Tryz.prog 38 #[.int .i64 at', .int .i64 3] w fun e w' => e = .returned (.int .i64 0) ∧ w' = w) (w : World) :
    Calls Tryz.prog 9 #[.int .i64 at', .bool false, .bool false] w fun e w' => e = .returned (.bool true) ∧ Ch w w' := by
  have HL := whole_no true false false rfl
  have HC : Hid (∀ vl w, Sl 7 RC w vl (whole true false false false false) → Calls Tryz.prog 24 #[vl] w fun e w' => ∃ v, e = .returned (.tuple #[v, .int .i64 (link (whole true false false false false)).2.1, .string (link (whole true false false false false)).2.2]) ∧ Pv w' (link (whole true false false false false)).1 v ∧ Ch w w') := fun vl w h => classes_any _ vl w h (whole_ok _ _ _ _ _)
  rw [HL] at HC
  clear HL
  go_enter Tryz.func9, Tryz.ntmps9
  go_wp2_with (first
    | (go_at_call 38; (with_reducible refine (hrw _).mono ?_); rintro e w4 ⟨rfl, hw⟩; have hw := hw.symm; subst hw)
    | (go_at_call 24; refine (HC.out _ _ (three_row (by repeat (first | (refine alloc_at _ _ _ ?_; simp; done) | refine al_keep ?_)) ⟨one_sl (by repeat (first | (refine alloc_at _ _ _ ?_; simp; done) | refine al_keep ?_)) rfl, nilR _ _ _, nilR _ _ _⟩ ⟨nilR _ _ _, nilR _ _ _, one_sl (by repeat (first | (refine alloc_at _ _ _ ?_; simp; done) | refine al_keep ?_)) ⟨_, _, rfl, nilR _ _ _, nilR _ _ _⟩⟩ ⟨nilR _ _ _, nilR _ _ _, nilR _ _ _⟩)).mono ?_; rintro e w3 ⟨v3, rfl, rfl, c3⟩)
    | (go_at_call 23; (with_reducible refine (awake6 _).mono ?_); rintro e w6 ⟨rfl, c6⟩)
    | fail)
  go_ret
  exact ⟨rfl, by repeat (first | exact Ch.refl _ | refine Ch.drew ?_ | refine Ch.alloc ?_ _ | refine Ch.trans ?_ (by assumption))⟩

set_option maxHeartbeats 16000000 in
set_option maxRecDepth 100000 in
theorem whole_001 (at' : Int) (hrw : ∀ w, Calls Tryz.prog 38 #[.int .i64 at', .int .i64 3] w fun e w' => e = .returned (.int .i64 0) ∧ w' = w) (w : World) :
    Calls Tryz.prog 9 #[.int .i64 at', .bool false, .bool true] w fun e w' => e = .returned (.bool true) ∧ Ch w w' := by
  have HL := whole_yes true false false false true rfl rfl
  have HC : Hid (∀ vl w, Sl 7 RC w vl (whole true false false false true) → Calls Tryz.prog 24 #[vl] w fun e w' => ∃ v, e = .returned (.tuple #[v, .int .i64 (link (whole true false false false true)).2.1, .string (link (whole true false false false true)).2.2]) ∧ Pv w' (link (whole true false false false true)).1 v ∧ Ch w w') := fun vl w h => classes_any _ vl w h (whole_ok _ _ _ _ _)
  rw [HL] at HC
  clear HL
  go_enter Tryz.func9, Tryz.ntmps9
  go_wp2_with (first
    | (go_at_call 38; (with_reducible refine (hrw _).mono ?_); rintro e w4 ⟨rfl, hw⟩; have hw := hw.symm; subst hw)
    | (go_at_call 24; refine (HC.out _ _ (three_row (by repeat (first | (refine alloc_at _ _ _ ?_; simp; done) | refine al_keep ?_)) ⟨one_sl (by repeat (first | (refine alloc_at _ _ _ ?_; simp; done) | refine al_keep ?_)) rfl, nilR _ _ _, one_sl (by repeat (first | (refine alloc_at _ _ _ ?_; simp; done) | refine al_keep ?_)) ⟨_, _, rfl, one_sl (by repeat (first | (refine alloc_at _ _ _ ?_; simp; done) | refine al_keep ?_)) rfl, nilR _ _ _⟩⟩ ⟨nilR _ _ _, nilR _ _ _, one_sl (by repeat (first | (refine alloc_at _ _ _ ?_; simp; done) | refine al_keep ?_)) ⟨_, _, rfl, nilR _ _ _, nilR _ _ _⟩⟩ ⟨nilR _ _ _, nilR _ _ _, nilR _ _ _⟩)).mono ?_; rintro e w3 ⟨v3, rfl, ⟨g, b, rfl, hP⟩, c3⟩)
    | (go_at_call 23; (with_reducible refine (awake6 _).mono ?_); rintro e w6 ⟨rfl, c6⟩)
    | fail)
  go_ret
  exact ⟨rfl, by repeat (first | exact Ch.refl _ | refine Ch.drew ?_ | refine Ch.alloc ?_ _ | refine Ch.trans ?_ (by assumption))⟩

set_option maxHeartbeats 16000000 in
set_option maxRecDepth 100000 in
theorem whole_010 (at' : Int) (hrw : ∀ w, Calls Tryz.prog 38 #[.int .i64 at', .int .i64 3] w fun e w' => e = .returned (.int .i64 0) ∧ w' = w) (w : World) :
    Calls Tryz.prog 9 #[.int .i64 at', .bool true, .bool false] w fun e w' => e = .returned (.bool true) ∧ Ch w w' := by
  have HL := whole_yes true false false true false rfl rfl
  have HC : Hid (∀ vl w, Sl 7 RC w vl (whole true false false true false) → Calls Tryz.prog 24 #[vl] w fun e w' => ∃ v, e = .returned (.tuple #[v, .int .i64 (link (whole true false false true false)).2.1, .string (link (whole true false false true false)).2.2]) ∧ Pv w' (link (whole true false false true false)).1 v ∧ Ch w w') := fun vl w h => classes_any _ vl w h (whole_ok _ _ _ _ _)
  rw [HL] at HC
  clear HL
  go_enter Tryz.func9, Tryz.ntmps9
  go_wp2_with (first
    | (go_at_call 38; (with_reducible refine (hrw _).mono ?_); rintro e w4 ⟨rfl, hw⟩; have hw := hw.symm; subst hw)
    | (go_at_call 24; refine (HC.out _ _ (three_row (by repeat (first | (refine alloc_at _ _ _ ?_; simp; done) | refine al_keep ?_)) ⟨one_sl (by repeat (first | (refine alloc_at _ _ _ ?_; simp; done) | refine al_keep ?_)) rfl, nilR _ _ _, nilR _ _ _⟩ ⟨nilR _ _ _, nilR _ _ _, one_sl (by repeat (first | (refine alloc_at _ _ _ ?_; simp; done) | refine al_keep ?_)) ⟨_, _, rfl, nilR _ _ _, nilR _ _ _⟩⟩ ⟨nilR _ _ _, nilR _ _ _, nilR _ _ _⟩)).mono ?_; rintro e w3 ⟨v3, rfl, ⟨g, b, rfl, hP⟩, c3⟩)
    | (go_at_call 23; (with_reducible refine (awake6 _).mono ?_); rintro e w6 ⟨rfl, c6⟩)
    | fail)
  go_ret
  exact ⟨rfl, by repeat (first | exact Ch.refl _ | refine Ch.drew ?_ | refine Ch.alloc ?_ _ | refine Ch.trans ?_ (by assumption))⟩

set_option maxHeartbeats 16000000 in
set_option maxRecDepth 100000 in
theorem whole_011 (at' : Int) (hrw : ∀ w, Calls Tryz.prog 38 #[.int .i64 at', .int .i64 3] w fun e w' => e = .returned (.int .i64 0) ∧ w' = w) (w : World) :
    Calls Tryz.prog 9 #[.int .i64 at', .bool true, .bool true] w fun e w' => e = .returned (.bool true) ∧ Ch w w' := by
  have HL := whole_yes true false false true true rfl rfl
  have HC : Hid (∀ vl w, Sl 7 RC w vl (whole true false false true true) → Calls Tryz.prog 24 #[vl] w fun e w' => ∃ v, e = .returned (.tuple #[v, .int .i64 (link (whole true false false true true)).2.1, .string (link (whole true false false true true)).2.2]) ∧ Pv w' (link (whole true false false true true)).1 v ∧ Ch w w') := fun vl w h => classes_any _ vl w h (whole_ok _ _ _ _ _)
  rw [HL] at HC
  clear HL
  go_enter Tryz.func9, Tryz.ntmps9
  go_wp2_with (first
    | (go_at_call 38; (with_reducible refine (hrw _).mono ?_); rintro e w4 ⟨rfl, hw⟩; have hw := hw.symm; subst hw)
    | (go_at_call 24; refine (HC.out _ _ (three_row (by repeat (first | (refine alloc_at _ _ _ ?_; simp; done) | refine al_keep ?_)) ⟨one_sl (by repeat (first | (refine alloc_at _ _ _ ?_; simp; done) | refine al_keep ?_)) rfl, nilR _ _ _, one_sl (by repeat (first | (refine alloc_at _ _ _ ?_; simp; done) | refine al_keep ?_)) ⟨_, _, rfl, one_sl (by repeat (first | (refine alloc_at _ _ _ ?_; simp; done) | refine al_keep ?_)) rfl, nilR _ _ _⟩⟩ ⟨nilR _ _ _, nilR _ _ _, one_sl (by repeat (first | (refine alloc_at _ _ _ ?_; simp; done) | refine al_keep ?_)) ⟨_, _, rfl, nilR _ _ _, nilR _ _ _⟩⟩ ⟨nilR _ _ _, nilR _ _ _, nilR _ _ _⟩)).mono ?_; rintro e w3 ⟨v3, rfl, ⟨g, b, rfl, hP⟩, c3⟩)
    | (go_at_call 23; (with_reducible refine (awake6 _).mono ?_); rintro e w6 ⟨rfl, c6⟩)
    | fail)
  go_ret
  exact ⟨rfl, by repeat (first | exact Ch.refl _ | refine Ch.drew ?_ | refine Ch.alloc ?_ _ | refine Ch.trans ?_ (by assumption))⟩

set_option maxHeartbeats 16000000 in
set_option maxRecDepth 100000 in
theorem whole_100 (at' : Int) (hrw : ∀ w, Calls Tryz.prog 38 #[.int .i64 at', .int .i64 3] w fun e w' => e = .returned (.int .i64 1) ∧ w' = w) (w : World) :
    Calls Tryz.prog 9 #[.int .i64 at', .bool false, .bool false] w fun e w' => e = .returned (.bool true) ∧ Ch w w' := by
  have HL := whole_no false true false rfl
  have HC : Hid (∀ vl w, Sl 7 RC w vl (whole false true false false false) → Calls Tryz.prog 24 #[vl] w fun e w' => ∃ v, e = .returned (.tuple #[v, .int .i64 (link (whole false true false false false)).2.1, .string (link (whole false true false false false)).2.2]) ∧ Pv w' (link (whole false true false false false)).1 v ∧ Ch w w') := fun vl w h => classes_any _ vl w h (whole_ok _ _ _ _ _)
  rw [HL] at HC
  clear HL
  go_enter Tryz.func9, Tryz.ntmps9
  go_wp2_with (first
    | (go_at_call 38; (with_reducible refine (hrw _).mono ?_); rintro e w4 ⟨rfl, hw⟩; have hw := hw.symm; subst hw)
    | (go_at_call 24; refine (HC.out _ _ (three_row (by repeat (first | (refine alloc_at _ _ _ ?_; simp; done) | refine al_keep ?_)) ⟨nilR _ _ _, nilR _ _ _, nilR _ _ _⟩ ⟨nilR _ _ _, nilR _ _ _, one_sl (by repeat (first | (refine alloc_at _ _ _ ?_; simp; done) | refine al_keep ?_)) ⟨_, _, rfl, nilR _ _ _, nilR _ _ _⟩⟩ ⟨one_sl (by repeat (first | (refine alloc_at _ _ _ ?_; simp; done) | refine al_keep ?_)) rfl, nilR _ _ _, nilR _ _ _⟩)).mono ?_; rintro e w3 ⟨v3, rfl, rfl, c3⟩)
    | (go_at_call 23; (with_reducible refine (awake6 _).mono ?_); rintro e w6 ⟨rfl, c6⟩)
    | fail)
  go_ret
  exact ⟨rfl, by repeat (first | exact Ch.refl _ | refine Ch.drew ?_ | refine Ch.alloc ?_ _ | refine Ch.trans ?_ (by assumption))⟩

set_option maxHeartbeats 16000000 in
set_option maxRecDepth 100000 in
theorem whole_101 (at' : Int) (hrw : ∀ w, Calls Tryz.prog 38 #[.int .i64 at', .int .i64 3] w fun e w' => e = .returned (.int .i64 1) ∧ w' = w) (w : World) :
    Calls Tryz.prog 9 #[.int .i64 at', .bool false, .bool true] w fun e w' => e = .returned (.bool true) ∧ Ch w w' := by
  have HL := whole_yes false true false false true rfl rfl
  have HC : Hid (∀ vl w, Sl 7 RC w vl (whole false true false false true) → Calls Tryz.prog 24 #[vl] w fun e w' => ∃ v, e = .returned (.tuple #[v, .int .i64 (link (whole false true false false true)).2.1, .string (link (whole false true false false true)).2.2]) ∧ Pv w' (link (whole false true false false true)).1 v ∧ Ch w w') := fun vl w h => classes_any _ vl w h (whole_ok _ _ _ _ _)
  rw [HL] at HC
  clear HL
  go_enter Tryz.func9, Tryz.ntmps9
  go_wp2_with (first
    | (go_at_call 38; (with_reducible refine (hrw _).mono ?_); rintro e w4 ⟨rfl, hw⟩; have hw := hw.symm; subst hw)
    | (go_at_call 24; refine (HC.out _ _ (three_row (by repeat (first | (refine alloc_at _ _ _ ?_; simp; done) | refine al_keep ?_)) ⟨nilR _ _ _, nilR _ _ _, one_sl (by repeat (first | (refine alloc_at _ _ _ ?_; simp; done) | refine al_keep ?_)) ⟨_, _, rfl, one_sl (by repeat (first | (refine alloc_at _ _ _ ?_; simp; done) | refine al_keep ?_)) rfl, nilR _ _ _⟩⟩ ⟨nilR _ _ _, nilR _ _ _, one_sl (by repeat (first | (refine alloc_at _ _ _ ?_; simp; done) | refine al_keep ?_)) ⟨_, _, rfl, nilR _ _ _, nilR _ _ _⟩⟩ ⟨one_sl (by repeat (first | (refine alloc_at _ _ _ ?_; simp; done) | refine al_keep ?_)) rfl, nilR _ _ _, nilR _ _ _⟩)).mono ?_; rintro e w3 ⟨v3, rfl, ⟨g, b, rfl, hP⟩, c3⟩)
    | (go_at_call 23; (with_reducible refine (awake6 _).mono ?_); rintro e w6 ⟨rfl, c6⟩)
    | fail)
  go_ret
  exact ⟨rfl, by repeat (first | exact Ch.refl _ | refine Ch.drew ?_ | refine Ch.alloc ?_ _ | refine Ch.trans ?_ (by assumption))⟩

set_option maxHeartbeats 16000000 in
set_option maxRecDepth 100000 in
theorem whole_110 (at' : Int) (hrw : ∀ w, Calls Tryz.prog 38 #[.int .i64 at', .int .i64 3] w fun e w' => e = .returned (.int .i64 1) ∧ w' = w) (w : World) :
    Calls Tryz.prog 9 #[.int .i64 at', .bool true, .bool false] w fun e w' => e = .returned (.bool true) ∧ Ch w w' := by
  have HL := whole_yes false true false true false rfl rfl
  have HC : Hid (∀ vl w, Sl 7 RC w vl (whole false true false true false) → Calls Tryz.prog 24 #[vl] w fun e w' => ∃ v, e = .returned (.tuple #[v, .int .i64 (link (whole false true false true false)).2.1, .string (link (whole false true false true false)).2.2]) ∧ Pv w' (link (whole false true false true false)).1 v ∧ Ch w w') := fun vl w h => classes_any _ vl w h (whole_ok _ _ _ _ _)
  rw [HL] at HC
  clear HL
  go_enter Tryz.func9, Tryz.ntmps9
  go_wp2_with (first
    | (go_at_call 38; (with_reducible refine (hrw _).mono ?_); rintro e w4 ⟨rfl, hw⟩; have hw := hw.symm; subst hw)
    | (go_at_call 24; refine (HC.out _ _ (three_row (by repeat (first | (refine alloc_at _ _ _ ?_; simp; done) | refine al_keep ?_)) ⟨nilR _ _ _, nilR _ _ _, nilR _ _ _⟩ ⟨nilR _ _ _, nilR _ _ _, one_sl (by repeat (first | (refine alloc_at _ _ _ ?_; simp; done) | refine al_keep ?_)) ⟨_, _, rfl, nilR _ _ _, nilR _ _ _⟩⟩ ⟨one_sl (by repeat (first | (refine alloc_at _ _ _ ?_; simp; done) | refine al_keep ?_)) rfl, nilR _ _ _, nilR _ _ _⟩)).mono ?_; rintro e w3 ⟨v3, rfl, ⟨g, b, rfl, hP⟩, c3⟩)
    | (go_at_call 23; (with_reducible refine (awake6 _).mono ?_); rintro e w6 ⟨rfl, c6⟩)
    | fail)
  go_ret
  exact ⟨rfl, by repeat (first | exact Ch.refl _ | refine Ch.drew ?_ | refine Ch.alloc ?_ _ | refine Ch.trans ?_ (by assumption))⟩

set_option maxHeartbeats 16000000 in
set_option maxRecDepth 100000 in
theorem whole_111 (at' : Int) (hrw : ∀ w, Calls Tryz.prog 38 #[.int .i64 at', .int .i64 3] w fun e w' => e = .returned (.int .i64 1) ∧ w' = w) (w : World) :
    Calls Tryz.prog 9 #[.int .i64 at', .bool true, .bool true] w fun e w' => e = .returned (.bool true) ∧ Ch w w' := by
  have HL := whole_yes false true false true true rfl rfl
  have HC : Hid (∀ vl w, Sl 7 RC w vl (whole false true false true true) → Calls Tryz.prog 24 #[vl] w fun e w' => ∃ v, e = .returned (.tuple #[v, .int .i64 (link (whole false true false true true)).2.1, .string (link (whole false true false true true)).2.2]) ∧ Pv w' (link (whole false true false true true)).1 v ∧ Ch w w') := fun vl w h => classes_any _ vl w h (whole_ok _ _ _ _ _)
  rw [HL] at HC
  clear HL
  go_enter Tryz.func9, Tryz.ntmps9
  go_wp2_with (first
    | (go_at_call 38; (with_reducible refine (hrw _).mono ?_); rintro e w4 ⟨rfl, hw⟩; have hw := hw.symm; subst hw)
    | (go_at_call 24; refine (HC.out _ _ (three_row (by repeat (first | (refine alloc_at _ _ _ ?_; simp; done) | refine al_keep ?_)) ⟨nilR _ _ _, nilR _ _ _, one_sl (by repeat (first | (refine alloc_at _ _ _ ?_; simp; done) | refine al_keep ?_)) ⟨_, _, rfl, one_sl (by repeat (first | (refine alloc_at _ _ _ ?_; simp; done) | refine al_keep ?_)) rfl, nilR _ _ _⟩⟩ ⟨nilR _ _ _, nilR _ _ _, one_sl (by repeat (first | (refine alloc_at _ _ _ ?_; simp; done) | refine al_keep ?_)) ⟨_, _, rfl, nilR _ _ _, nilR _ _ _⟩⟩ ⟨one_sl (by repeat (first | (refine alloc_at _ _ _ ?_; simp; done) | refine al_keep ?_)) rfl, nilR _ _ _, nilR _ _ _⟩)).mono ?_; rintro e w3 ⟨v3, rfl, ⟨g, b, rfl, hP⟩, c3⟩)
    | (go_at_call 23; (with_reducible refine (awake6 _).mono ?_); rintro e w6 ⟨rfl, c6⟩)
    | fail)
  go_ret
  exact ⟨rfl, by repeat (first | exact Ch.refl _ | refine Ch.drew ?_ | refine Ch.alloc ?_ _ | refine Ch.trans ?_ (by assumption))⟩

set_option maxHeartbeats 16000000 in
set_option maxRecDepth 100000 in
theorem whole_200 (at' : Int) (hrw : ∀ w, Calls Tryz.prog 38 #[.int .i64 at', .int .i64 3] w fun e w' => e = .returned (.int .i64 2) ∧ w' = w) (w : World) :
    Calls Tryz.prog 9 #[.int .i64 at', .bool false, .bool false] w fun e w' => e = .returned (.bool true) ∧ Ch w w' := by
  have HL := whole_no false false true rfl
  have HC : Hid (∀ vl w, Sl 7 RC w vl (whole false false true false false) → Calls Tryz.prog 24 #[vl] w fun e w' => ∃ v, e = .returned (.tuple #[v, .int .i64 (link (whole false false true false false)).2.1, .string (link (whole false false true false false)).2.2]) ∧ Pv w' (link (whole false false true false false)).1 v ∧ Ch w w') := fun vl w h => classes_any _ vl w h (whole_ok _ _ _ _ _)
  rw [HL] at HC
  clear HL
  go_enter Tryz.func9, Tryz.ntmps9
  go_wp2_with (first
    | (go_at_call 38; (with_reducible refine (hrw _).mono ?_); rintro e w4 ⟨rfl, hw⟩; have hw := hw.symm; subst hw)
    | (go_at_call 24; refine (HC.out _ _ (three_row (by repeat (first | (refine alloc_at _ _ _ ?_; simp; done) | refine al_keep ?_)) ⟨nilR _ _ _, nilR _ _ _, nilR _ _ _⟩ ⟨nilR _ _ _, nilR _ _ _, one_sl (by repeat (first | (refine alloc_at _ _ _ ?_; simp; done) | refine al_keep ?_)) ⟨_, _, rfl, nilR _ _ _, nilR _ _ _⟩⟩ ⟨nilR _ _ _, nilR _ _ _, one_sl (by repeat (first | (refine alloc_at _ _ _ ?_; simp; done) | refine al_keep ?_)) ⟨_, _, rfl, nilR _ _ _, nilR _ _ _⟩⟩)).mono ?_; rintro e w3 ⟨v3, rfl, rfl, c3⟩)
    | (go_at_call 23; (with_reducible refine (awake6 _).mono ?_); rintro e w6 ⟨rfl, c6⟩)
    | fail)
  go_ret
  exact ⟨rfl, by repeat (first | exact Ch.refl _ | refine Ch.drew ?_ | refine Ch.alloc ?_ _ | refine Ch.trans ?_ (by assumption))⟩

set_option maxHeartbeats 16000000 in
set_option maxRecDepth 100000 in
theorem whole_201 (at' : Int) (hrw : ∀ w, Calls Tryz.prog 38 #[.int .i64 at', .int .i64 3] w fun e w' => e = .returned (.int .i64 2) ∧ w' = w) (w : World) :
    Calls Tryz.prog 9 #[.int .i64 at', .bool false, .bool true] w fun e w' => e = .returned (.bool true) ∧ Ch w w' := by
  have HL := whole_yes false false true false true rfl rfl
  have HC : Hid (∀ vl w, Sl 7 RC w vl (whole false false true false true) → Calls Tryz.prog 24 #[vl] w fun e w' => ∃ v, e = .returned (.tuple #[v, .int .i64 (link (whole false false true false true)).2.1, .string (link (whole false false true false true)).2.2]) ∧ Pv w' (link (whole false false true false true)).1 v ∧ Ch w w') := fun vl w h => classes_any _ vl w h (whole_ok _ _ _ _ _)
  rw [HL] at HC
  clear HL
  go_enter Tryz.func9, Tryz.ntmps9
  go_wp2_with (first
    | (go_at_call 38; (with_reducible refine (hrw _).mono ?_); rintro e w4 ⟨rfl, hw⟩; have hw := hw.symm; subst hw)
    | (go_at_call 24; refine (HC.out _ _ (three_row (by repeat (first | (refine alloc_at _ _ _ ?_; simp; done) | refine al_keep ?_)) ⟨nilR _ _ _, nilR _ _ _, one_sl (by repeat (first | (refine alloc_at _ _ _ ?_; simp; done) | refine al_keep ?_)) ⟨_, _, rfl, one_sl (by repeat (first | (refine alloc_at _ _ _ ?_; simp; done) | refine al_keep ?_)) rfl, nilR _ _ _⟩⟩ ⟨nilR _ _ _, nilR _ _ _, one_sl (by repeat (first | (refine alloc_at _ _ _ ?_; simp; done) | refine al_keep ?_)) ⟨_, _, rfl, nilR _ _ _, nilR _ _ _⟩⟩ ⟨nilR _ _ _, nilR _ _ _, one_sl (by repeat (first | (refine alloc_at _ _ _ ?_; simp; done) | refine al_keep ?_)) ⟨_, _, rfl, nilR _ _ _, nilR _ _ _⟩⟩)).mono ?_; rintro e w3 ⟨v3, rfl, ⟨g, b, rfl, hP⟩, c3⟩)
    | (go_at_call 23; (with_reducible refine (awake6 _).mono ?_); rintro e w6 ⟨rfl, c6⟩)
    | fail)
  go_ret
  exact ⟨rfl, by repeat (first | exact Ch.refl _ | refine Ch.drew ?_ | refine Ch.alloc ?_ _ | refine Ch.trans ?_ (by assumption))⟩

set_option maxHeartbeats 16000000 in
set_option maxRecDepth 100000 in
theorem whole_210 (at' : Int) (hrw : ∀ w, Calls Tryz.prog 38 #[.int .i64 at', .int .i64 3] w fun e w' => e = .returned (.int .i64 2) ∧ w' = w) (w : World) :
    Calls Tryz.prog 9 #[.int .i64 at', .bool true, .bool false] w fun e w' => e = .returned (.bool true) ∧ Ch w w' := by
  have HL := whole_yes false false true true false rfl rfl
  have HC : Hid (∀ vl w, Sl 7 RC w vl (whole false false true true false) → Calls Tryz.prog 24 #[vl] w fun e w' => ∃ v, e = .returned (.tuple #[v, .int .i64 (link (whole false false true true false)).2.1, .string (link (whole false false true true false)).2.2]) ∧ Pv w' (link (whole false false true true false)).1 v ∧ Ch w w') := fun vl w h => classes_any _ vl w h (whole_ok _ _ _ _ _)
  rw [HL] at HC
  clear HL
  go_enter Tryz.func9, Tryz.ntmps9
  go_wp2_with (first
    | (go_at_call 38; (with_reducible refine (hrw _).mono ?_); rintro e w4 ⟨rfl, hw⟩; have hw := hw.symm; subst hw)
    | (go_at_call 24; refine (HC.out _ _ (three_row (by repeat (first | (refine alloc_at _ _ _ ?_; simp; done) | refine al_keep ?_)) ⟨nilR _ _ _, nilR _ _ _, nilR _ _ _⟩ ⟨nilR _ _ _, nilR _ _ _, one_sl (by repeat (first | (refine alloc_at _ _ _ ?_; simp; done) | refine al_keep ?_)) ⟨_, _, rfl, nilR _ _ _, nilR _ _ _⟩⟩ ⟨nilR _ _ _, nilR _ _ _, one_sl (by repeat (first | (refine alloc_at _ _ _ ?_; simp; done) | refine al_keep ?_)) ⟨_, _, rfl, nilR _ _ _, nilR _ _ _⟩⟩)).mono ?_; rintro e w3 ⟨v3, rfl, ⟨g, b, rfl, hP⟩, c3⟩)
    | (go_at_call 23; (with_reducible refine (awake6 _).mono ?_); rintro e w6 ⟨rfl, c6⟩)
    | fail)
  go_ret
  exact ⟨rfl, by repeat (first | exact Ch.refl _ | refine Ch.drew ?_ | refine Ch.alloc ?_ _ | refine Ch.trans ?_ (by assumption))⟩

set_option maxHeartbeats 16000000 in
set_option maxRecDepth 100000 in
theorem whole_211 (at' : Int) (hrw : ∀ w, Calls Tryz.prog 38 #[.int .i64 at', .int .i64 3] w fun e w' => e = .returned (.int .i64 2) ∧ w' = w) (w : World) :
    Calls Tryz.prog 9 #[.int .i64 at', .bool true, .bool true] w fun e w' => e = .returned (.bool true) ∧ Ch w w' := by
  have HL := whole_yes false false true true true rfl rfl
  have HC : Hid (∀ vl w, Sl 7 RC w vl (whole false false true true true) → Calls Tryz.prog 24 #[vl] w fun e w' => ∃ v, e = .returned (.tuple #[v, .int .i64 (link (whole false false true true true)).2.1, .string (link (whole false false true true true)).2.2]) ∧ Pv w' (link (whole false false true true true)).1 v ∧ Ch w w') := fun vl w h => classes_any _ vl w h (whole_ok _ _ _ _ _)
  rw [HL] at HC
  clear HL
  go_enter Tryz.func9, Tryz.ntmps9
  go_wp2_with (first
    | (go_at_call 38; (with_reducible refine (hrw _).mono ?_); rintro e w4 ⟨rfl, hw⟩; have hw := hw.symm; subst hw)
    | (go_at_call 24; refine (HC.out _ _ (three_row (by repeat (first | (refine alloc_at _ _ _ ?_; simp; done) | refine al_keep ?_)) ⟨nilR _ _ _, nilR _ _ _, one_sl (by repeat (first | (refine alloc_at _ _ _ ?_; simp; done) | refine al_keep ?_)) ⟨_, _, rfl, one_sl (by repeat (first | (refine alloc_at _ _ _ ?_; simp; done) | refine al_keep ?_)) rfl, nilR _ _ _⟩⟩ ⟨nilR _ _ _, nilR _ _ _, one_sl (by repeat (first | (refine alloc_at _ _ _ ?_; simp; done) | refine al_keep ?_)) ⟨_, _, rfl, nilR _ _ _, nilR _ _ _⟩⟩ ⟨nilR _ _ _, nilR _ _ _, one_sl (by repeat (first | (refine alloc_at _ _ _ ?_; simp; done) | refine al_keep ?_)) ⟨_, _, rfl, nilR _ _ _, nilR _ _ _⟩⟩)).mono ?_; rintro e w3 ⟨v3, rfl, ⟨g, b, rfl, hP⟩, c3⟩)
    | (go_at_call 23; (with_reducible refine (awake6 _).mono ?_); rintro e w6 ⟨rfl, c6⟩)
    | fail)
  go_ret
  exact ⟨rfl, by repeat (first | exact Ch.refl _ | refine Ch.drew ?_ | refine Ch.alloc ?_ _ | refine Ch.trans ?_ (by assumption))⟩

theorem whole_walk (at' : Int) (ab has : Bool) (w : World) : Calls Tryz.prog 9 #[.int .i64 at', .bool ab, .bool has] w fun e w' => e = .returned (.bool true) ∧ Ch w w' := by
  have h := pl_lt at' 3 (by decide)
  have hc := fun w => pl_any at' 3 w (by decide) (by decide)
  generalize pl at' 3 = r at *
  obtain rfl | rfl | rfl : r = 0 ∨ r = 1 ∨ r = 2 := by omega
  · cases ab <;> cases has
    · exact whole_000 at' hc w
    · exact whole_001 at' hc w
    · exact whole_010 at' hc w
    · exact whole_011 at' hc w
  · cases ab <;> cases has
    · exact whole_100 at' hc w
    · exact whole_101 at' hc w
    · exact whole_110 at' hc w
    · exact whole_111 at' hc w
  · cases ab <;> cases has
    · exact whole_200 at' hc w
    · exact whole_201 at' hc w
    · exact whole_210 at' hc w
    · exact whole_211 at' hc w
end Go.Proofs.YthmepecmeambmaaGreat
