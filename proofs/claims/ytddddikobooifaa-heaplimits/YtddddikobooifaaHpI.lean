/- A field looked for, and read. -/
import Derived.Test.YtddddikobooifaaHpH
namespace Go.Proofs.Ytddddikobooifaa
open Go.RowKit Go.Shelf
set_option linter.unusedVariables false

theorem nan_c (s : ByteArray) (w : World) : Calls Try.prog 39 #[.string s] w fun e w' => e = .returned (.bool false) ∧ w' = w := by
  go_enter Try.func39, Try.ntmps39
  go_wp2
  go_ret
  exact ⟨rfl, rfl⟩
theorem nan_s (s : ByteArray) (w : World) : Calls Try.prog 33 #[.string s] w fun e w' => e = .returned (.bool false) ∧ w' = w := by
  go_enter Try.func33, Try.ntmps33
  go_wp2
  go_ret
  exact ⟨rfl, rfl⟩
theorem less_x (w : World) : Calls Try.prog 32 #[.string ⟨#[120]⟩, .string ⟨#[120]⟩] w fun e w' => e = .returned (.bool false) ∧ w' = w := by
  go_enter Try.func32, Try.ntmps32
  go_wp2_with (go_at_call 39; refine (nan_c _ _).mono ?_; rintro e w2 ⟨rfl, hw2⟩; have hw2 := hw2.symm; subst hw2)
  go_ret
  exact ⟨rfl, rfl⟩
theorem less_y (w : World) : Calls Try.prog 32 #[.string ⟨#[120]⟩, .string ⟨#[121]⟩] w fun e w' => e = .returned (.bool true) ∧ w' = w := by
  go_enter Try.func32, Try.ntmps32
  go_wp2_with (go_at_call 39; refine (nan_c _ _).mono ?_; rintro e w2 ⟨rfl, hw2⟩; have hw2 := hw2.symm; subst hw2)
  go_ret
  exact ⟨rfl, rfl⟩

set_option maxHeartbeats 4000000 in
theorem bs_nil (s : ByteArray) (w : World) : Calls Try.prog 24 #[.slice none 0 0, .string s] w fun e w' => e = .returned (.tuple #[.int .i64 0, .bool false]) ∧ w' = w := by
  go_enter Try.func24, Try.ntmps24
  go_wp2_with fail
  go_loop [7, 8] (fun i j => i = .int .i64 0 ∧ j = .int .i64 0) (fun _ _ => 0)
  case atStart => exact ⟨rfl, rfl⟩
  case round =>
    obtain ⟨rfl, rfl⟩ := hrel
    go_wp2
    go_ret2
    exact ⟨rfl, rfl⟩

set_option maxHeartbeats 4000000 in
theorem bs_x (nb c : Nat) (w : World) (h : w.cell? ⟨nb, 0, none⟩ = some (.string ⟨#[120]⟩)) : Calls Try.prog 24 #[.slice (some ⟨nb, 0, none⟩) 1 c, .string ⟨#[120]⟩] w fun e w' => e = .returned (.tuple #[.int .i64 0, .bool true]) ∧ w' = w := by
  go_enter Try.func24, Try.ntmps24
  go_wp2_with fail
  go_loop [7, 8] (fun i j => i = .int .i64 0 ∧ (j = .int .i64 1 ∨ j = .int .i64 0)) (fun _ j => (intOf j).toNat)
  case atStart => exact ⟨rfl, .inl rfl⟩
  case round =>
    obtain ⟨rfl, rfl | rfl⟩ := hrel
    · go_wp2_with (go_at_call 32; refine (less_x _).mono ?_; rintro e w2 ⟨rfl, hw2⟩; have hw2 := hw2.symm; subst hw2)
      exact ⟨⟨rfl, .inr rfl⟩, by simp [intOf]⟩
    · go_wp2_with (go_at_call 33; refine (nan_s _ _).mono ?_; rintro e w2 ⟨rfl, hw2⟩; have hw2 := hw2.symm; subst hw2)
      go_ret2
      exact ⟨rfl, rfl⟩

set_option maxHeartbeats 4000000 in
theorem bs_y (nb c : Nat) (w : World) (h : w.cell? ⟨nb, 0, none⟩ = some (.string ⟨#[120]⟩)) : Calls Try.prog 24 #[.slice (some ⟨nb, 0, none⟩) 1 c, .string ⟨#[121]⟩] w fun e w' => e = .returned (.tuple #[.int .i64 1, .bool false]) ∧ w' = w := by
  go_enter Try.func24, Try.ntmps24
  go_wp2_with fail
  go_loop [7, 8] (fun i j => j = .int .i64 1 ∧ (i = .int .i64 0 ∨ i = .int .i64 1)) (fun i _ => 1 - (intOf i).toNat)
  case atStart => exact ⟨rfl, .inl rfl⟩
  case round =>
    obtain ⟨rfl, rfl | rfl⟩ := hrel
    · go_wp2_with (go_at_call 32; refine (less_y _).mono ?_; rintro e w2 ⟨rfl, hw2⟩; have hw2 := hw2.symm; subst hw2)
      exact ⟨⟨rfl, .inr rfl⟩, by simp [intOf]⟩
    · go_wp2_with (go_at_call 33; refine (nan_s _ _).mono ?_; rintro e w2 ⟨rfl, hw2⟩; have hw2 := hw2.symm; subst hw2)
      go_ret2
      exact ⟨rfl, rfl⟩

set_option maxHeartbeats 4000000 in
theorem field_no (p : Value) (s : ByteArray) (of site : ByteArray) (ar : Bool) (a1 : Option Addr) (n1 k1 : Nat) (a2 : Option Addr) (n2 k2 : Nat) (k : Int) (w : World) (ho : Calls Try.prog 20 #[p, .int .i64 1] w fun e w2 => e = .returned (.agg #[.string of, .string site, .bool ar, .slice a1 n1 k1, .slice a2 n2 k2]) ∧ Ch w w2)
    (hs : ∀ w', Ch w w' → Calls Try.prog 24 #[.slice a1 n1 k1, .string s] w' fun e w2 => e = .returned (.tuple #[.int .i64 k, .bool false]) ∧ w2 = w') :
    Calls Try.prog 17 #[p, .int .i64 1, .string s] w fun e w' => e = .returned (.tuple #[.pointer none, .int .i64 11]) ∧ Ch w w' := by
  have HS : Hid (∀ w', Ch w w' → Calls Try.prog 24 #[.slice a1 n1 k1, .string s] w' fun e w2 => e = .returned (.tuple #[.int .i64 k, .bool false]) ∧ w2 = w') := hs
  clear hs
  go_enter Try.func17, Try.ntmps17
  go_wp2_with (first
    | (go_at_call 20; refine ho.mono ?_; rintro e w2 ⟨rfl, c2⟩; have B := Bo.new c2 #[.string of, .string site, .bool ar, .slice a1 n1 k1, .slice a2 n2 k2] 49; have f3 := B.c 3 rfl)
    | (go_at_call 24; refine (HS.out _ B.ch).mono ?_; rintro e w3 ⟨rfl, hw3⟩; have hw3 := hw3.symm; subst hw3))
  go_ret2
  exact ⟨rfl, B.ch⟩

set_option maxHeartbeats 4000000 in
theorem field_yes (p : Value) (s : ByteArray) (of site : ByteArray) (ar : Bool) (a1 : Option Addr) (n1 k1 : Nat) (vb k2 : Nat) (w : World) (ho : Calls Try.prog 20 #[p, .int .i64 1] w fun e w2 => e = .returned (.agg #[.string of, .string site, .bool ar, .slice a1 n1 k1, .slice (some ⟨vb, 0, none⟩) 1 k2]) ∧ Ch w w2)
    (hs : ∀ w', Ch w w' → Calls Try.prog 24 #[.slice a1 n1 k1, .string s] w' fun e w2 => e = .returned (.tuple #[.int .i64 0, .bool true]) ∧ w2 = w') :
    Calls Try.prog 17 #[p, .int .i64 1, .string s] w fun e w' => e = .returned (.tuple #[.pointer (some ⟨vb, 0, none⟩), .int .i64 0]) ∧ Ch w w' := by
  have HS : Hid (∀ w', Ch w w' → Calls Try.prog 24 #[.slice a1 n1 k1, .string s] w' fun e w2 => e = .returned (.tuple #[.int .i64 0, .bool true]) ∧ w2 = w') := hs
  clear hs
  go_enter Try.func17, Try.ntmps17
  go_wp2_with (first
    | (go_at_call 20; refine ho.mono ?_; rintro e w2 ⟨rfl, c2⟩; have B := Bo.new c2 #[.string of, .string site, .bool ar, .slice a1 n1 k1, .slice (some ⟨vb, 0, none⟩) 1 k2] 49; have f3 := B.c 3 rfl; have f4 := B.c 4 rfl)
    | (go_at_call 24; refine (HS.out _ B.ch).mono ?_; rintro e w3 ⟨rfl, hw3⟩; have hw3 := hw3.symm; subst hw3))
  go_ret2
  exact ⟨rfl, B.ch⟩

set_option maxHeartbeats 4000000 in
theorem get_no (p : Value) (s : ByteArray) (w : World) (he : ∀ w', Ch w w' → Calls Try.prog 17 #[p, .int .i64 1, .string s] w' fun e w2 => e = .returned (.tuple #[.pointer none, .int .i64 11]) ∧ Ch w' w2) :
    Calls Try.prog 7 #[p, .int .i64 1, .string s] w fun e w' => e = .returned (.tuple #[zv, .int .i64 11]) ∧ Ch w w' := by
  have R0 := Bo.new (Ch.refl w) #[.int .i64 0, .int .i64 0, .complex .f64 0 0] 31
  have he' := he _ R0.ch
  have hsc := stc
  go_enter Try.func7, Try.ntmps7
  go_wp2_with (go_at_call 17; refine he'.mono ?_; rintro e w2 ⟨rfl, c2⟩; have R := R0.call c2; have f0 := R.c 0 rfl; have f1 := R.c 1 rfl; have f2 := R.c 2 rfl; have z0 := R.fz 0; have z1 := R.fz 1; have z2 := R.fz 2)
  have B := ((R.set 0 (.int .i64 0)).set 1 (.int .i64 0)).set 2 (.complex .f64 0 0)
  refine bodyPost_ret (results_cell_one rfl _ _ w.heap.size 31 _ (0, 0) _ rfl B.b Try.underlying31 rfl size31) rfl ?_
  exact ⟨rfl, B.ch⟩

set_option maxHeartbeats 4000000 in
theorem get_yes (p : Value) (s : ByteArray) (vb o : Nat) (w : World) (he : ∀ w', Ch w w' → Calls Try.prog 17 #[p, .int .i64 1, .string s] w' fun e w2 => e = .returned (.tuple #[.pointer (some ⟨vb, o, none⟩), .int .i64 0]) ∧ Ch w' w2)
    (h0 : w.cell? ⟨vb, o, none⟩ = some (.int .i64 0)) (h1 : w.cell? ⟨vb, o + 1, none⟩ = some (.int .i64 0)) (h2 : w.cell? ⟨vb, o + 2, none⟩ = some (.complex .f64 0 0)) :
    Calls Try.prog 7 #[p, .int .i64 1, .string s] w fun e w' => e = .returned (.tuple #[zv, .int .i64 0]) ∧ Ch w w' := by
  have R0 := Bo.new (Ch.refl w) #[.int .i64 0, .int .i64 0, .complex .f64 0 0] 31
  have he' := he _ R0.ch
  have g0 := R0.ch.cell h0
  have g1 := R0.ch.cell h1
  have g2 := R0.ch.cell h2
  have hsc := stc
  go_enter Try.func7, Try.ntmps7
  go_wp2_with (go_at_call 17; refine he'.mono ?_; rintro e w2 ⟨rfl, c2⟩; have R := R0.call c2; have f0 := R.c 0 rfl; have f1 := R.c 1 rfl; have f2 := R.c 2 rfl; have z0 := R.fz 0; have z1 := R.fz 1; have z2 := R.fz 2; have k0 := c2.cell g0; have k1 := c2.cell g1; have k2 := c2.cell g2)
  have B := ((R.set 0 (.int .i64 0)).set 1 (.int .i64 0)).set 2 (.complex .f64 0 0)
  refine bodyPost_ret (results_cell_one rfl _ _ w.heap.size 31 _ (0, 0) _ rfl B.b Try.underlying31 rfl size31) rfl ?_
  exact ⟨rfl, B.ch⟩
end Go.Proofs.Ytddddikobooifaa
