/- The walk of the law BytesNumbers where the first byte is less than 128. -/
import Derived.Test.YtgjddpfijnmeeaaNumW
namespace Go.Proofs.Ytgjddpfijnmeeaa
open Go.RowKit
set_option linter.unusedVariables false
attribute [local go_sem ↓] Go.wp_at_zero Go.wp_at_succ

set_option maxHeartbeats 2000000 in
theorem numbers_lo (a0 a1 a2 a3 : Int) (p0 : 0 ≤ a0) (p2 : 0 ≤ a1) (p3 : a1 < 256) (p4 : 0 ≤ a2) (p5 : a2 < 256) (p6 : 0 ≤ a3) (p7 : a3 < 256) (w : World) (hA : a0 < 128) :
    Calls Try.prog 6 #[.int .u8 a0, .int .u8 a1, .int .u8 a2, .int .u8 a3] w fun e w' => e = .returned (.bool true) ∧ Ch (fun _ => False) w w' := by
  obtain ⟨M, hM⟩ : ∃ M, M = a0 * 16777216 + a1 * 65536 + a2 * 256 + a3 := ⟨_, rfl⟩
  have hOr := or4 a0 a1 a2 a3 p0 (by omega) p2 p3 p4 p5 p6 p7
  rw [← hM] at hOr
  have hbe : Hid (be M 4 = [a0, a1, a2, a3]) := be4 a0 a1 a2 a3 M p0 (by omega) p2 p3 p4 p5 p6 p7 (Or.inl hM)
  have hsg : Hid (sgn (num [a0, a1, a2, a3]) = M) := by
    show sgn (num [a0, a1, a2, a3]) = M
    rw [num4, ← hM, sgn, if_pos (by omega)]
  have hM0 : -2147483648 ≤ M := by omega
  have hM1 : M ≤ 2147483647 := by omega
  clear hM
  have t1 : decide (128 ≤ a0) = false := by simp; omega
  have e0 : IntKind.i64.wrap a0 = a0 := by rw [IntKind.wrap_i64]; omega
  have e1 : IntKind.i64.wrap a1 = a1 := by rw [IntKind.wrap_i64]; omega
  have e2 : IntKind.i64.wrap a2 = a2 := by rw [IntKind.wrap_i64]; omega
  have e3 : IntKind.i64.wrap (a0 * 256) = a0 * 256 := by rw [IntKind.wrap_i64]; omega
  have e4 : IntKind.i64.wrap (a0 * 256 + a1) = a0 * 256 + a1 := by rw [IntKind.wrap_i64]; omega
  go_enter Try.func6, Try.ntmps6
  go_wp2_with fail
  have hrow : Row (w.alloc (.cells #[.int .u8 a0, .int .u8 a1, .int .u8 a2, .int .u8 a3] 5)) (.slice (some ⟨w.heap.size, 0, none⟩) 4 4) [a0, a1, a2, a3] := row_lit (bs := [a0, a1, a2, a3]) (heap_alloc_new _ _)
  refine (newReader_any _ [a0, a1, a2, a3] _ hrow (by simp; omega) (by simp)).mono ?_
  rintro e w1 ⟨rx, vx, rfl, hx, hc1, hrx, hgx⟩
  go_wp2_with fail
  have hrow2 : Row (w1.alloc (.cells #[.int .u8 a0, .int .u8 a1, .int .u8 a2, .int .u8 a3] 5)) (.slice (some ⟨w1.heap.size, 0, none⟩) 4 4) [a0, a1, a2, a3] := row_lit (bs := [a0, a1, a2, a3]) (heap_alloc_new _ _)
  refine (newReader_any _ [a0, a1, a2, a3] _ hrow2 (by simp; omega) (by simp)).mono ?_
  rintro e w2 ⟨ry, vy, rfl, hy, hc2, hry, hgy⟩
  go_wp2_with fail
  have hns : NS w (w2.alloc (.cells #[.slice none 0 0, .bool false] 27)) rx ry w2.heap.size vx vy [a0, a1, a2, a3] 0 0 := by
    have s1 := hc1.size
    have s2 := hc2.size
    have l1 := hx.lt
    simp at s1 s2 hry hrx
    exact ⟨((hx.alloc _).keep hc2 (fun x => x) (fun _ _ x => x)).alloc _, hy.alloc _, ⟨heap_alloc_new _ _, World.ownsRow_nil _ _ _ _, by simp⟩, by omega, by omega, by omega, by omega,
      ((((((Ch.refl (fun _ => False) w).alloc _).chain hc1 (fun _ _ x => x)).alloc _).chain hc2 (fun _ _ x => x)).alloc _)⟩
  clear hrow hx hc1 hrx hgx hrow2 hy hc2 hry hgy
  have hlit : ∀ W : World, (convert 25 9 (.slice (some ⟨W.heap.size, 0, none⟩) 4 4)).run Try.prog (W.alloc (.cells #[.int .u8 a0, .int .u8 a1, .int .u8 a2, .int .u8 a3] 5)) = .ok (.string (strOfNums [a0, a1, a2, a3])) (W.alloc (.cells #[.int .u8 a0, .int .u8 a1, .int .u8 a2, .int .u8 a3] 5)) :=
    fun W => row_string (row_lit (bs := [a0, a1, a2, a3]) (heap_alloc_new _ _))
  go_region_held (fun _ => True) (trivial) (first
    | (go_at_call 18; refine (n18 M hsg.out rfl hns.drew).mono ?_; rintro e w3 ⟨rfl, h3⟩)
    | (go_at_call 17; refine (n17 (a0 * 256 + a1) (by simp [num]) rfl h3).mono ?_; rintro e w4 ⟨rfl, h4⟩)
    | (go_at_call 16; refine (n16 a2 (by simp [num]) rfl h4).mono ?_; rintro e w5 ⟨rfl, h5⟩)
    | (go_at_call 21; refine (n21 h5).mono ?_; rintro e w6 ⟨rfl, h6⟩)
    | (go_at_call 22; refine (n22 rfl h6).mono ?_; rintro e w7 ⟨rfl, h7⟩; have b7 := h7.t.lt)
    | (go_at_call 24; refine (n24 (w0 := w) (rx := rx) (ry := ry) (vx := vx) (vy := vy) M hM0 hM1 hbe.out ?_).mono ?_; (first | exact h7 | exact h7.alloc _); rintro e w8 ⟨rfl, h8, k8⟩; (try (have r8 := lit_keep8 k8 b7; have cl8 := lit_conv r8)))
    | (go_at_call 12; refine (n12 (w0 := w) (bs := [a0, a1, a2, a3]) ?_).mono ?_; (first | exact h8 | exact h8.alloc _); rintro e w9 ⟨v9, rfl, h9, k9⟩; have cv9 := row_string h9.1; have cv9a := fun o => row_string (h9.alloc o).1; (try (have cl9 := lit_conv (lit_keep k9))); (try (have cl9b := lit_conv ((k9 w7.heap.size (lt_of_block r8)).trans r8))))
    | (go_at_call 8; refine (n8 (w0 := w) ?_).mono ?_; (first | exact h9.2 | exact (h9.alloc _).2); rintro e w10 ⟨rfl, h10⟩))
  all_goals
    go_wp2
    go_ret
    exact ⟨rfl, h10⟩

end Go.Proofs.Ytgjddpfijnmeeaa
