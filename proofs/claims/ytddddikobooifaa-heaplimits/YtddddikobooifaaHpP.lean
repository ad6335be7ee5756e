/- The law HeapLimits, walked. -/
import Derived.Test.YtddddikobooifaaHpO
namespace Go.Proofs.Ytddddikobooifaa
open Go.RowKit Go.Maps Go.Sort Go.Shelf
set_option linter.unusedVariables false

theorem at_out (b ob c vb n : Nat) (i : Int) (of site : ByteArray) (W : World) (h : Oo W b ob c of site true (.slice none 0 0) (.slice (some ⟨vb, 0, none⟩) n n)) (hn : n ≤ 100) (hi : i < 0 ∨ (n : Int) ≤ i) :
    Calls Try.prog 6 #[.pointer (some ⟨b, 0, none⟩), .int .i64 1, .int .i64 i] W fun e w' => e = .returned (.tuple #[.agg #[.int .i64 0, .int .i64 0, .complex .f64 0 0], .int .i64 1]) ∧ Ch W w' :=
  at_no _ i 1 W (by decide) (fun w' k => (element_some b ob c vb n i of site _ ⟨_, _, _, rfl⟩ w' (h.keep k) hn).mono fun e w2 ⟨hq, k2⟩ => by
    rcases hq with ⟨_, rfl⟩ | ⟨h1, h2, _⟩
    · exact ⟨rfl, k2⟩
    · omega)
theorem at_in (b ob c vb n : Nat) (i : Int) (of site : ByteArray) (W : World) (h : Oo W b ob c of site true (.slice none 0 0) (.slice (some ⟨vb, 0, none⟩) n n)) (hn : n ≤ 100) (hi : 0 ≤ i ∧ i < (n : Int)) (hv : W.heap[vb]? = some (.cells (zr n) 31)) :
    Calls Try.prog 6 #[.pointer (some ⟨b, 0, none⟩), .int .i64 1, .int .i64 i] W fun e w' => e = .returned (.tuple #[.agg #[.int .i64 0, .int .i64 0, .complex .f64 0 0], .int .i64 0]) ∧ Ch W w' := by
  have hc : ∀ j, j < 3 → W.cell? ⟨vb, i.toNat * 3 + j, none⟩ = some (zc j) := fun j hj => by
    simp only [World.cell?, hv]
    have := zr_at (n := n) (j := i.toNat * 3 + j) (by omega)
    rw [zc_add] at this
    simpa using this
  exact at_yes _ i vb (i.toNat * 3) W (fun w' k => (element_some b ob c vb n i of site _ ⟨_, _, _, rfl⟩ w' (h.keep k) hn).mono fun e w2 ⟨hq, k2⟩ => by
    rcases hq with ⟨h1, _⟩ | ⟨_, _, rfl⟩
    · omega
    · exact ⟨rfl, k2⟩) (hc 0 (by omega)) (hc 1 (by omega)) (hc 2 (by omega))
theorem at_empty (b : Nat) (i : Int) (W : World) (h : W.cell? ⟨b, 0, none⟩ = some (.slice none 0 0)) :
    Calls Try.prog 6 #[.pointer (some ⟨b, 0, none⟩), .int .i64 1, .int .i64 i] W fun e w' => e = .returned (.tuple #[.agg #[.int .i64 0, .int .i64 0, .complex .f64 0 0], .int .i64 11]) ∧ Ch W w' :=
  at_no _ i 11 W (by decide) (fun w' k => element_none _ i w' (fun w2 k2 => object_empty b w2 (k2.cell (k.cell h))))

/-- Behind the call of At: what no heap answers, and the sample. -/
theorem gnil (w : World) : Calls Try.prog 7 #[.pointer none, .int .i64 1, .string ⟨#[120]⟩] w fun e w' => e = .returned (.tuple #[.agg #[.int .i64 0, .int .i64 0, .complex .f64 0 0], .int .i64 11]) ∧ Ch w w' := get_nil w

set_option maxHeartbeats 8000000 in
set_option maxRecDepth 100000 in
theorem limits_no (n i : Int) (w : World) (hn : n < 0 ∨ 100 < n) : Calls Try.prog 3 #[.int .i64 n, .int .i64 i] w fun e w' => e = .returned (.bool true) ∧ Ch w w' := by
  have B0 := Bo.new (Ch.refl w) #[.slice none 0 0] 24
  have HA := array_no w.heap.size n (w.alloc (.cells #[.slice none 0 0] 24)) hn
  have hsc := stc
  go_enter Try.func3, Try.ntmps3
  go_wp2_with (first
    | (go_at_call 4; (with_reducible refine HA.mono ?_); clear HA; rintro e w2 ⟨rfl, c2⟩; have B2 := B0.call c2; have HC := count_any _ 0 0 none w2 (B2.c 0 rfl); have HT := at_empty _ i w2 (B2.c 0 rfl))
    | (go_at_call 5; (with_reducible refine HC.mono ?_); clear HC; rintro e w3 ⟨rfl, hw3⟩; have hw3 := hw3.symm; subst hw3)
    | (go_at_call 6; (with_reducible refine HT.mono ?_); clear HT; rintro e w4 ⟨rfl, c4⟩; have R4 := Bo.new (B2.ch.trans c4) #[.int .i64 0, .int .i64 0, .complex .f64 0 0] 31)
    | (go_at_call 4; (with_reducible refine (array_nil 1 _).mono ?_); rintro e w5 ⟨rfl, c5⟩)
    | (go_at_call 7; (with_reducible refine (gnil _).mono ?_); rintro e w6 ⟨rfl, c6⟩; have C6 := ((R4.ch.trans c5).trans c6).alloc (.cells #[.int .i64 0, .int .i64 0, .complex .f64 0 0] 31))
    | (go_at_call 8; (with_reducible refine (new_nil _ _).mono ?_); rintro e w7 ⟨rfl, hw7⟩; have hw7 := hw7.symm; subst hw7)
    | (go_at_call 5; (with_reducible refine (count_nil _).mono ?_); rintro e w8 ⟨rfl, hw8⟩; have hw8 := hw8.symm; subst hw8)
    | (go_at_call 9; (with_reducible refine (type_nil _).mono ?_); rintro e w9 ⟨rfl, c9⟩)
    | (go_at_call 10; (with_reducible refine (set_nil _).mono ?_); rintro e w10 ⟨rfl, c10⟩)
    | (go_at_call 11; (with_reducible refine (awake_any _).mono ?_); rintro e w11 ⟨rfl, c11⟩))
  all_goals
    go_ret
    exact ⟨rfl, ((C6.trans c9).trans c10).trans c11⟩

set_option maxHeartbeats 8000000 in
set_option maxRecDepth 100000 in
theorem limits_yes (n : Nat) (i : Int) (w : World) (hn : n ≤ 100) : Calls Try.prog 3 #[.int .i64 (n : Int), .int .i64 i] w fun e w' => e = .returned (.bool true) ∧ Ch w w' := by
  have B0 := Bo.new (Ch.refl w) #[.slice none 0 0] 24
  have HA := array_yes w.heap.size n (w.alloc (.cells #[.slice none 0 0] 24)) B0.b hn
  have hsc := stc
  have hn1 : (n : Int) ≤ 100 := by omega
  by_cases hi : i < 0 ∨ (n : Int) ≤ i
  · go_enter Try.func3, Try.ntmps3
    go_wp2_with (first
    | (go_at_call 4; (with_reducible refine HA.mono ?_); clear HA; rintro e w2 ⟨rfl, t2, ob, c, vb, l1, l2, ho, hv⟩; have K2 := t2.ch B0.ch (Nat.le_refl _); have HT := at_out _ ob c vb n i _ _ w2 ho hn hi)
    | (go_at_call 6; (with_reducible refine HT.mono ?_); clear HT; rintro e w4 ⟨rfl, c4⟩; have R4 := Bo.new (K2.trans c4) #[.int .i64 0, .int .i64 0, .complex .f64 0 0] 31)
    | (go_at_call 4; (with_reducible refine (array_nil 1 _).mono ?_); rintro e w5 ⟨rfl, c5⟩)
    | (go_at_call 7; (with_reducible refine (gnil _).mono ?_); rintro e w6 ⟨rfl, c6⟩; have C6 := ((R4.ch.trans c5).trans c6).alloc (.cells #[.int .i64 0, .int .i64 0, .complex .f64 0 0] 31))
    | (go_at_call 8; (with_reducible refine (new_nil _ _).mono ?_); rintro e w7 ⟨rfl, hw7⟩; have hw7 := hw7.symm; subst hw7)
    | (go_at_call 5; (with_reducible refine (count_nil _).mono ?_); rintro e w8 ⟨rfl, hw8⟩; have hw8 := hw8.symm; subst hw8)
    | (go_at_call 9; (with_reducible refine (type_nil _).mono ?_); rintro e w9 ⟨rfl, c9⟩)
    | (go_at_call 10; (with_reducible refine (set_nil _).mono ?_); rintro e w10 ⟨rfl, c10⟩)
    | (go_at_call 11; (with_reducible refine (awake_any _).mono ?_); rintro e w11 ⟨rfl, c11⟩))
    all_goals
      go_ret
      exact ⟨rfl, ((C6.trans c9).trans c10).trans c11⟩
  · have hi' : 0 ≤ i ∧ i < (n : Int) := by omega
    clear hi
    go_enter Try.func3, Try.ntmps3
    go_wp2_with (first
    | (go_at_call 4; (with_reducible refine HA.mono ?_); clear HA; rintro e w2 ⟨rfl, t2, ob, c, vb, l1, l2, ho, hv⟩; have K2 := t2.ch B0.ch (Nat.le_refl _); have HT := at_in _ ob c vb n i _ _ w2 ho hn hi' hv)
    | (go_at_call 6; (with_reducible refine HT.mono ?_); clear HT; rintro e w4 ⟨rfl, c4⟩; have R4 := Bo.new (K2.trans c4) #[.int .i64 0, .int .i64 0, .complex .f64 0 0] 31)
    | (go_at_call 4; (with_reducible refine (array_nil 1 _).mono ?_); rintro e w5 ⟨rfl, c5⟩)
    | (go_at_call 7; (with_reducible refine (gnil _).mono ?_); rintro e w6 ⟨rfl, c6⟩; have C6 := ((R4.ch.trans c5).trans c6).alloc (.cells #[.int .i64 0, .int .i64 0, .complex .f64 0 0] 31))
    | (go_at_call 8; (with_reducible refine (new_nil _ _).mono ?_); rintro e w7 ⟨rfl, hw7⟩; have hw7 := hw7.symm; subst hw7)
    | (go_at_call 5; (with_reducible refine (count_nil _).mono ?_); rintro e w8 ⟨rfl, hw8⟩; have hw8 := hw8.symm; subst hw8)
    | (go_at_call 9; (with_reducible refine (type_nil _).mono ?_); rintro e w9 ⟨rfl, c9⟩)
    | (go_at_call 10; (with_reducible refine (set_nil _).mono ?_); rintro e w10 ⟨rfl, c10⟩)
    | (go_at_call 11; (with_reducible refine (awake_any _).mono ?_); rintro e w11 ⟨rfl, c11⟩))
    all_goals
      go_ret
      exact ⟨rfl, ((C6.trans c9).trans c10).trans c11⟩

theorem limits_walk (n i : Int) (w : World) : Calls Try.prog 3 #[.int .i64 n, .int .i64 i] w fun e w' => e = .returned (.bool true) ∧ Ch w w' := by
  by_cases hn : n < 0 ∨ 100 < n
  · exact limits_no n i w hn
  · obtain ⟨m, rfl⟩ : ∃ m : Nat, n = (m : Int) := ⟨n.toNat, by omega⟩
    exact limits_yes m i w (by omega)
end Go.Proofs.Ytddddikobooifaa
