/- The walk of the law ClassLimits: locals and stack. -/
import Derived.Test.YtdalibfgkkgcpaaLimD
namespace Go.Proofs.Ytdalibfgkkgcpaa
open Go.RowKit
set_option linter.unusedVariables false

theorem clsX_one (m : Mth) : (clsX (lC [] [m])).length = 2 + (mthX m).length := by
  show ([bl nA, bl nO] ++ (([] : List ByteArray).map bl ++ (([] : List Fld).flatMap fldX ++ (mthX m ++ [])))).length = _
  simp
  omega
theorem lim_end (sk lo x : Int) (w : World) (hx : chkE (lC [] [lM sk lo [lI 36] []]) = x) :
    Calls Try.prog 11 #[.agg #[.string ⟨#[65]⟩, .string ⟨#[79, 98, 106, 101, 99, 116]⟩, .bool false, .bool false, .slice none 0 0, .slice none 0 0, .slice (some ⟨w.heap.size + 1 + 1 + 1, 0, none⟩) 1 1]] ((((w.alloc (.cells #[.int .i64 36, .int .i64 0, .int .i64 0, .string ⟨#[]⟩, .string ⟨#[]⟩, .string ⟨#[]⟩] 32)).alloc (.cells #[.string ⟨#[109]⟩, .string ⟨#[40, 41, 86]⟩, .bool true, .bool false, .int .i64 sk, .int .i64 lo, .slice (some ⟨w.heap.size, 0, none⟩) 1 1, .slice none 0 0] 36)).alloc (.cells #[.string ⟨#[65]⟩, .string ⟨#[79, 98, 106, 101, 99, 116]⟩, .bool false, .bool false, .slice none 0 0, .slice none 0 0, .slice (some ⟨w.heap.size + 1 + 1 + 1, 0, none⟩) 1 1] 26)).alloc (.cells #[.string ⟨#[109]⟩, .string ⟨#[40, 41, 86]⟩, .bool true, .bool false, .int .i64 sk, .int .i64 lo, .slice (some ⟨w.heap.size, 0, none⟩) 1 1, .slice none 0 0] 36)) fun e w' => e = .returned (.int .i64 x) ∧ Ch w w' := by
  have hC : Ch w ((((w.alloc (.cells #[.int .i64 36, .int .i64 0, .int .i64 0, .string ⟨#[]⟩, .string ⟨#[]⟩, .string ⟨#[]⟩] 32)).alloc (.cells #[.string ⟨#[109]⟩, .string ⟨#[40, 41, 86]⟩, .bool true, .bool false, .int .i64 sk, .int .i64 lo, .slice (some ⟨w.heap.size, 0, none⟩) 1 1, .slice none 0 0] 36)).alloc (.cells #[.string ⟨#[65]⟩, .string ⟨#[79, 98, 106, 101, 99, 116]⟩, .bool false, .bool false, .slice none 0 0, .slice none 0 0, .slice (some ⟨w.heap.size + 1 + 1 + 1, 0, none⟩) 1 1] 26)).alloc (.cells #[.string ⟨#[109]⟩, .string ⟨#[40, 41, 86]⟩, .bool true, .bool false, .int .i64 sk, .int .i64 lo, .slice (some ⟨w.heap.size, 0, none⟩) 1 1, .slice none 0 0] 36)) := ((((Ch.refl w).alloc _).alloc _).alloc _).alloc _
  have h0 : ((((w.alloc (.cells #[.int .i64 36, .int .i64 0, .int .i64 0, .string ⟨#[]⟩, .string ⟨#[]⟩, .string ⟨#[]⟩] 32)).alloc (.cells #[.string ⟨#[109]⟩, .string ⟨#[40, 41, 86]⟩, .bool true, .bool false, .int .i64 sk, .int .i64 lo, .slice (some ⟨w.heap.size, 0, none⟩) 1 1, .slice none 0 0] 36)).alloc (.cells #[.string ⟨#[65]⟩, .string ⟨#[79, 98, 106, 101, 99, 116]⟩, .bool false, .bool false, .slice none 0 0, .slice none 0 0, .slice (some ⟨w.heap.size + 1 + 1 + 1, 0, none⟩) 1 1] 26)).alloc (.cells #[.string ⟨#[109]⟩, .string ⟨#[40, 41, 86]⟩, .bool true, .bool false, .int .i64 sk, .int .i64 lo, .slice (some ⟨w.heap.size, 0, none⟩) 1 1, .slice none 0 0] 36)).heap[w.heap.size]? = some (.cells codeC 32) := kept_at ((((Ch.refl _).alloc _).alloc _).alloc _) (heap_alloc_new w _)
  have h3 : ((((w.alloc (.cells #[.int .i64 36, .int .i64 0, .int .i64 0, .string ⟨#[]⟩, .string ⟨#[]⟩, .string ⟨#[]⟩] 32)).alloc (.cells #[.string ⟨#[109]⟩, .string ⟨#[40, 41, 86]⟩, .bool true, .bool false, .int .i64 sk, .int .i64 lo, .slice (some ⟨w.heap.size, 0, none⟩) 1 1, .slice none 0 0] 36)).alloc (.cells #[.string ⟨#[65]⟩, .string ⟨#[79, 98, 106, 101, 99, 116]⟩, .bool false, .bool false, .slice none 0 0, .slice none 0 0, .slice (some ⟨w.heap.size + 1 + 1 + 1, 0, none⟩) 1 1] 26)).alloc (.cells #[.string ⟨#[109]⟩, .string ⟨#[40, 41, 86]⟩, .bool true, .bool false, .int .i64 sk, .int .i64 lo, .slice (some ⟨w.heap.size, 0, none⟩) 1 1, .slice none 0 0] 36)).heap[w.heap.size + 1 + 1 + 1]? = some (.cells (mthC (lM sk lo [lI 36] []) (.slice (some ⟨w.heap.size, 0, none⟩) 1 1) (.slice none 0 0)) 36) := by
    exact alloc_at _ _ _ (by simp)
  generalize ((((w.alloc (.cells #[.int .i64 36, .int .i64 0, .int .i64 0, .string ⟨#[]⟩, .string ⟨#[]⟩, .string ⟨#[]⟩] 32)).alloc (.cells #[.string ⟨#[109]⟩, .string ⟨#[40, 41, 86]⟩, .bool true, .bool false, .int .i64 sk, .int .i64 lo, .slice (some ⟨w.heap.size, 0, none⟩) 1 1, .slice none 0 0] 36)).alloc (.cells #[.string ⟨#[65]⟩, .string ⟨#[79, 98, 106, 101, 99, 116]⟩, .bool false, .bool false, .slice none 0 0, .slice none 0 0, .slice (some ⟨w.heap.size + 1 + 1 + 1, 0, none⟩) 1 1] 26)).alloc (.cells #[.string ⟨#[109]⟩, .string ⟨#[40, 41, 86]⟩, .bool true, .bool false, .int .i64 sk, .int .i64 lo, .slice (some ⟨w.heap.size, 0, none⟩) 1 1, .slice none 0 0] 36)) = W at *
  have hA : ClsAt W (lC [] [lM sk lo [lI 36] []]) (.slice none 0 0) (.slice none 0 0) (.slice (some ⟨w.heap.size + 1 + 1 + 1, 0, none⟩) 1 1) := ⟨nilSl _ _ _, nilSl _ _ _, sl_mth1 h3 (sl_ins1 h0) (nilSl _ _ _)⟩
  have hF : Fine (lC [] [lM sk lo [lI 36] []]) := lC_fine _ _ (fun f hf => (by cases hf)) (fun m hm => by simp at hm; subst hm; exact lM_fine _ _ _ _ (fun x hx => by simp at hx; exact Or.inl hx) (fun h hx => (by cases hx))) (by
    rw [clsX_one]
    show 2 + ([bl (⟨#[109]⟩ : ByteArray), bl (⟨#[40, 41, 86]⟩ : ByteArray)] ++ ([lI 36].flatMap insX ++ ([] : List Hnd).flatMap hndX)).length ≤ 50000
    rw [List.flatMap_cons, insX_R]
    simp)
  have := check_cls (lC [] [lM sk lo [lI 36] []]) _ _ _ W hA hF
  rw [hx] at this
  exact this.mono fun e w' ⟨a, b⟩ => ⟨a, hC.trans b⟩

set_option maxRecDepth 100000 in
set_option maxHeartbeats 8000000 in
theorem lim_locals (what : Int) (n : Nat) (w : World) (hr : rnd what 6 = 3) (h2 : n + 1 ≤ 220) : Calls Try.prog 4 #[.int .i64 what, .int .i64 ((n : Int) + 1)] w fun e w' => e = .returned (.bool true) ∧ Ch w w' := by
  have hrd := round_six hr
  clear hr
  have t1 : decide (((n : Int) + 1) < 1) = false := by simp; omega
  have t2 : decide ((220 : Int) < ((n : Int) + 1)) = false := by simp; omega
  by_cases h20 : n + 1 ≤ 20
  · have hck := fun w0 => lim_end 0 ((n : Int) + 1) 0 w0 (by rw [chk_nums _ _ (by omega) (by omega)]; rw [if_pos (by omega)])
    have h20' : (n : Int) + 1 ≤ 20 := by omega
    go_enter Try.func4, Try.ntmps4
    go_wp2_with (first
      | (go_at_call 10; (with_reducible refine (hrd _).mono ?_); rintro e w2 ⟨rfl, hx⟩; have hx := hx.symm; subst hx)
      | (go_at_call 11; refine (hck w).mono ?_; rintro e w5 ⟨rfl, hc5⟩)
      | (go_at_call 7; (with_reducible refine (awake_any _).mono ?_); rintro e w6 ⟨rfl, hc6⟩))
    go_ret
    exact ⟨rfl, hc5.trans hc6⟩
  · have hck := fun w0 => lim_end 0 ((n : Int) + 1) 5 w0 (by rw [chk_nums _ _ (by omega) (by omega)]; rw [if_neg (by omega)])
    have h20' : (20 : Int) < (n : Int) + 1 := by omega
    go_enter Try.func4, Try.ntmps4
    go_wp2_with (first
      | (go_at_call 10; (with_reducible refine (hrd _).mono ?_); rintro e w2 ⟨rfl, hx⟩; have hx := hx.symm; subst hx)
      | (go_at_call 11; refine (hck w).mono ?_; rintro e w5 ⟨rfl, hc5⟩)
      | (go_at_call 7; (with_reducible refine (awake_any _).mono ?_); rintro e w6 ⟨rfl, hc6⟩))
    go_ret
    exact ⟨rfl, hc5.trans hc6⟩
set_option maxRecDepth 100000 in
set_option maxHeartbeats 8000000 in
theorem lim_stack (what : Int) (n : Nat) (w : World) (hr : rnd what 6 = 4) (h2 : n + 1 ≤ 220) : Calls Try.prog 4 #[.int .i64 what, .int .i64 ((n : Int) + 1)] w fun e w' => e = .returned (.bool true) ∧ Ch w w' := by
  have hrd := round_six hr
  clear hr
  have t1 : decide (((n : Int) + 1) < 1) = false := by simp; omega
  have t2 : decide ((220 : Int) < ((n : Int) + 1)) = false := by simp; omega
  by_cases h20 : n + 1 ≤ 20
  · have hck := fun w0 => lim_end ((n : Int) + 1) 0 0 w0 (by rw [chk_nums _ _ (by omega) (by omega)]; rw [if_pos (by omega)])
    have h20' : (n : Int) + 1 ≤ 20 := by omega
    go_enter Try.func4, Try.ntmps4
    go_wp2_with (first
      | (go_at_call 10; (with_reducible refine (hrd _).mono ?_); rintro e w2 ⟨rfl, hx⟩; have hx := hx.symm; subst hx)
      | (go_at_call 11; refine (hck w).mono ?_; rintro e w5 ⟨rfl, hc5⟩)
      | (go_at_call 7; (with_reducible refine (awake_any _).mono ?_); rintro e w6 ⟨rfl, hc6⟩))
    go_ret
    exact ⟨rfl, hc5.trans hc6⟩
  · have hck := fun w0 => lim_end ((n : Int) + 1) 0 5 w0 (by rw [chk_nums _ _ (by omega) (by omega)]; rw [if_neg (by omega)])
    have h20' : (20 : Int) < (n : Int) + 1 := by omega
    go_enter Try.func4, Try.ntmps4
    go_wp2_with (first
      | (go_at_call 10; (with_reducible refine (hrd _).mono ?_); rintro e w2 ⟨rfl, hx⟩; have hx := hx.symm; subst hx)
      | (go_at_call 11; refine (hck w).mono ?_; rintro e w5 ⟨rfl, hc5⟩)
      | (go_at_call 7; (with_reducible refine (awake_any _).mono ?_); rintro e w6 ⟨rfl, hc6⟩))
    go_ret
    exact ⟨rfl, hc5.trans hc6⟩
end Go.Proofs.Ytdalibfgkkgcpaa
