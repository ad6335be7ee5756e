/- An object by its number; an element by its place. -/
import Derived.Test.YtddddikobooifaaHpD
namespace Go.Proofs.Ytddddikobooifaa
open Go.RowKit Go.Shelf
set_option linter.unusedVariables false

theorem Ch.cell {w w' : World} (c : Ch w w') {p : Addr} {v : Value} (h : w.cell? p = some v) : w'.cell? p = some v := by
  unfold World.cell? at h ⊢
  by_cases hlt : p.block < w.heap.size
  · rw [c.block _ hlt]; exact h
  · rw [Array.getElem?_eq_none (by omega)] at h; simp at h

/-- Where one object stands. -/
structure Oo (w : World) (b ob c : Nat) (of site : ByteArray) (ar : Bool) (vn vv : Value) : Prop where
  h : w.cell? ⟨b, 0, none⟩ = some (.slice (some ⟨ob, 0, none⟩) 1 c)
  c0 : w.cell? ⟨ob, 0, none⟩ = some (.string of)
  c1 : w.cell? ⟨ob, 1, none⟩ = some (.string site)
  c2 : w.cell? ⟨ob, 2, none⟩ = some (.bool ar)
  c3 : w.cell? ⟨ob, 3, none⟩ = some vn
  c4 : w.cell? ⟨ob, 4, none⟩ = some vv
theorem Oo.keep {w w' : World} {b ob c : Nat} {of site : ByteArray} {ar : Bool} {vn vv : Value} (h : Oo w b ob c of site ar vn vv) (k : Ch w w') : Oo w' b ob c of site ar vn vv :=
  ⟨k.cell h.h, k.cell h.c0, k.cell h.c1, k.cell h.c2, k.cell h.c3, k.cell h.c4⟩

set_option maxHeartbeats 4000000 in
theorem object_one (b ob c : Nat) (of site : ByteArray) (ar : Bool) (a1 : Option Addr) (n1 k1 : Nat) (a2 : Option Addr) (n2 k2 : Nat) (w : World) (h : Oo w b ob c of site ar (.slice a1 n1 k1) (.slice a2 n2 k2)) :
    Calls Try.prog 20 #[.pointer (some ⟨b, 0, none⟩), .int .i64 1] w fun e w' => e = .returned (.agg #[.string of, .string site, .bool ar, .slice a1 n1 k1, .slice a2 n2 k2]) ∧ Ch w w' := by
  have R0 := Bo.new (Ch.refl w) #[.string ⟨#[]⟩, .string ⟨#[]⟩, .bool false, .slice none 0 0, .slice none 0 0] 49
  obtain ⟨h, h0, h1, h2, h3, h4⟩ := h.keep R0.ch
  have hc' := count_any b 1 c _ _ h
  go_enter Try.func20, Try.ntmps20
  go_wp2_with (go_at_call 5; refine hc'.mono ?_; rintro e w2 ⟨rfl, hw2⟩; have hw2 := hw2.symm; subst hw2)
  have R1 := Bo.new (Ch.refl w) #[.string of, .string site, .bool ar, .slice a1 n1 k1, .slice a2 n2 k2] 49
  refine bodyPost_ret (results_cell_row rfl _ _ w.heap.size 49 _ (0, 0) _ rfl R1.b Try.underlying49 rfl size49) rfl ?_
  exact ⟨rfl, R1.ch⟩

set_option maxHeartbeats 4000000 in
theorem element_none (p : Value) (i : Int) (w : World) (ho : ∀ w', Ch w w' → Calls Try.prog 20 #[p, .int .i64 1] w' fun e w2 => e = .returned zo ∧ Ch w' w2) :
    Calls Try.prog 16 #[p, .int .i64 1, .int .i64 i] w fun e w' => e = .returned (.tuple #[.pointer none, .int .i64 11]) ∧ Ch w w' := by
  have ho' := ho w (Ch.refl w)
  unfold zo at ho'
  go_enter Try.func16, Try.ntmps16
  go_wp2_with (first
    | (go_at_call 20; refine ho'.mono ?_; rintro e w2 ⟨rfl, c2⟩; have B := Bo.new c2 #[.string ⟨#[]⟩, .string ⟨#[]⟩, .bool false, .slice none 0 0, .slice none 0 0] 49; have f2 := B.c 2 rfl))
  go_ret2
  exact ⟨rfl, B.ch⟩

set_option maxHeartbeats 4000000 in
theorem element_some (b ob c vb n : Nat) (i : Int) (of site : ByteArray) (vn : Value) (hvn : ∃ a n k, vn = .slice a n k) (w : World) (h : Oo w b ob c of site true vn (.slice (some ⟨vb, 0, none⟩) n n)) (hn : n ≤ 100) :
    Calls Try.prog 16 #[.pointer (some ⟨b, 0, none⟩), .int .i64 1, .int .i64 i] w fun e w' => (((i < 0 ∨ (n : Int) ≤ i) ∧ e = .returned (.tuple #[.pointer none, .int .i64 1])) ∨ (0 ≤ i ∧ i < (n : Int) ∧ e = .returned (.tuple #[.pointer (some ⟨vb, i.toNat * 3, none⟩), .int .i64 0]))) ∧ Ch w w' := by
  obtain ⟨a1, n1, k1, rfl⟩ := hvn
  have ho' := object_one b ob c of site true a1 n1 k1 _ n n w h
  by_cases hi : i < 0 ∨ (n : Int) ≤ i
  · go_enter Try.func16, Try.ntmps16
    go_wp2_with (go_at_call 20; refine ho'.mono ?_; rintro e w2 ⟨rfl, c2⟩; have B := Bo.new c2 #[.string of, .string site, .bool true, .slice a1 n1 k1, .slice (some ⟨vb, 0, none⟩) n n] 49)
    all_goals (go_ret2; first | exact ⟨.inl ⟨hi, rfl⟩, B.ch⟩ | exact ⟨.inl rfl, B.ch⟩)
  · obtain ⟨j, rfl⟩ : ∃ j : Nat, i = (j : Int) := ⟨i.toNat, by omega⟩
    go_enter Try.func16, Try.ntmps16
    go_wp2_with (go_at_call 20; refine ho'.mono ?_; rintro e w2 ⟨rfl, c2⟩; have B := Bo.new c2 #[.string of, .string site, .bool true, .slice a1 n1 k1, .slice (some ⟨vb, 0, none⟩) n n] 49)
    all_goals (go_ret2; exact ⟨.inr ⟨by omega, by omega, by simp⟩, B.ch⟩)
end Go.Proofs.Ytddddikobooifaa
