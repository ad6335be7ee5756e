/- slices.Repeat of one zero value: the walk. -/
import Derived.Test.YtddddikobooifaaHpB
namespace Go.Proofs.Ytddddikobooifaa
open Go.RowKit Go.Shelf
set_option linter.unusedVariables false

set_option maxHeartbeats 4000000 in
set_option maxRecDepth 100000 in
theorem repeat_any (n xb : Nat) (w : World) (h : n ≤ 100) (hx : ∀ j, j < 3 → w.cell? ⟨xb, j, none⟩ = some (zc j)) :
    Calls Try.prog 13 #[.slice (some ⟨xb, 0, none⟩) 1 1, .int .i64 (n : Int)] w fun e w' => e = .returned (.slice (some ⟨w.heap.size, 0, none⟩) n n) ∧ ∃ q, w' = (w.alloc (.cells (zr n) 31)).drewN q := by
  obtain ⟨i0, hi, hz0, hz1, hz2⟩ := info_parts Try.info31
  obtain ⟨Z, hZ⟩ : ∃ Z, Z = zr n := ⟨_, rfl⟩
  suffices hs : Calls Try.prog 13 #[.slice (some ⟨xb, 0, none⟩) 1 1, .int .i64 (n : Int)] w fun e w' => e = .returned (.slice (some ⟨w.heap.size, 0, none⟩) n n) ∧ ∃ q, w' = (w.alloc (.cells Z 31)).drewN q by rwa [hZ] at hs
  have hmk : (Instr.makeSlice 43 (.int .i64 (n : Int)) (.int .i64 (n : Int))).run Try.prog w = .ok (.slice (some ⟨w.heap.size, 0, none⟩) n n) (w.alloc (.cells Z 31)) := by
    have h := run_make (P := Try.prog) w 43 31 i0 zv Try.underlying43 hi hz0 .i64 .i64 (n : Int) (n : Int) (by omega) (by omega) (by rw [hz2]; omega) (by omega)
    rw [hz1] at h
    rw [hZ]
    simpa [zr] using h
  have hg : (w.alloc (.cells Z 31)).heap[w.heap.size]? = some (.cells (zr n) 31 (0, 0)) := by rw [← hZ]; exact heap_alloc_new _ _
  have hxb : xb < w.heap.size := by
    have := hx 0 (by omega)
    unfold World.cell? at this
    by_cases hlt : xb < w.heap.size
    · exact hlt
    · rw [Array.getElem?_eq_none (by simp; omega)] at this; simp at this
  have hc0 := copyZ (w.alloc (.cells Z 31)) 3 w.heap.size n 0 n n ⟨xb, 0, none⟩ 1 1 hg (by omega) (fun j hj => by
    have hj3 : j < 3 := Nat.lt_of_lt_of_le hj (Nat.mul_le_mul_right 3 (Nat.min_le_left 1 n))
    have := hx j hj3
    have e : (⟨xb, 0, none⟩ : Addr).add j = ⟨xb, j, none⟩ := by unfold Addr.add; split <;> simp_all
    rw [e]
    unfold World.cell? at this ⊢
    rw [show (w.alloc (.cells Z 31)).heap[(⟨xb, j, none⟩ : Addr).block]? = w.heap[(⟨xb, j, none⟩ : Addr).block]? from Below.heap_alloc _ _ _ hxb]
    exact this)
  have hcp : ∀ m q, m < n → (Builtin.copy_ #[43, 43] 3 #[.slice (some ⟨w.heap.size, m * 3, none⟩) (n - m) (n - m), .slice (some ⟨w.heap.size, 0, none⟩) m n]).run Try.prog ((w.alloc (.cells Z 31)).drewN (q + 1)) = .ok (goInt (Nat.min m (n - m) : Nat)) ((w.alloc (.cells Z 31)).drewN (q + 1)) := fun m q hm => by
    refine copyZ ((w.alloc (.cells Z 31)).drewN (q + 1)) 3 w.heap.size n m (n - m) (n - m) ⟨w.heap.size, 0, none⟩ m n hg (by omega) (fun j hj => ?_)
    have hj3 : j < n * 3 := Nat.lt_of_lt_of_le hj (Nat.le_trans (Nat.mul_le_mul_right 3 (Nat.min_le_left m (n - m))) (by omega))
    have e : (⟨w.heap.size, 0, none⟩ : Addr).add j = ⟨w.heap.size, j, none⟩ := by unfold Addr.add; split <;> simp_all
    rw [e]
    show (w.alloc (.cells Z 31)).cell? ⟨w.heap.size, j, none⟩ = _
    simp only [World.cell?, hg]
    exact zr_at hj3
  rw [Nat.zero_mul] at hc0
  clear hg hx
  go_enter Try.func13, Try.ntmps13
  clear hZ
  go_wp2_with (go_at_call 23; refine (mul_any n h _).mono ?_; rintro e w' ⟨rfl, hw⟩; have hw := hw.symm; subst hw)
  go_loopw [8] (fun i wr => ∃ m q : Nat, m ≤ n ∧ (1 ≤ m ∨ n = 0) ∧ i = .int .i64 m ∧ wr = (w.alloc (.cells Z 31)).drewN q) (fun i _ => n - (intOf i).toNat)
  case atStart => exact ⟨Nat.min 1 n, 0, Nat.min_le_right _ _, (Nat.eq_zero_or_pos n).symm.imp (fun h0 => Nat.le_min.2 ⟨Nat.le_refl 1, h0⟩) id, rfl, rfl⟩
  case round =>
    obtain ⟨m, q, hm, h1, rfl, rfl⟩ := hrel
    by_cases hlt : m < n
    · have hcm := hcp m q hlt
      clear hcp
      have hp1 : Nat.min m (n - m) ≤ n - m := Nat.min_le_right _ _
      have hp2 : 1 ≤ Nat.min m (n - m) := Nat.le_min.2 ⟨by omega, by omega⟩
      generalize Nat.min m (n - m) = p at hcm hp1 hp2
      go_wp2
      go_region
      all_goals go_wp2
      exact ⟨⟨m + p, q + 1, by omega, .inl (by omega), by rw [Int.natCast_add], rfl⟩, by simp [intOf]; omega⟩
    · go_wp2
      go_ret
      exact ⟨rfl, q, rfl⟩
end Go.Proofs.Ytddddikobooifaa
