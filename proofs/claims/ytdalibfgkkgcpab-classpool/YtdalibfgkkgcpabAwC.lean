/- What the document fixes: the walk. -/
import Derived.Test.YtdalibfgkkgcpabAwB
namespace Go.Proofs.Ytdalibfgkkgcpab
open Go.RowKit
set_option linter.unusedVariables false

def leastBs : List Int := headB [[65], [79, 98, 106, 101, 99, 116]] ++ leastB [[65], [79, 98, 106, 101, 99, 116]] nA nO
theorem leastBs_len : leastBs.length = 29 := by decide +kernel
theorem leastBs_four : strOfNums (leastBs.take 4) = ⟨#[83, 66, 67, 49]⟩ := by decide +kernel
theorem zero_enc (w : World) : Calls Try.prog 10 #[.agg #[.string ⟨#[]⟩, .string ⟨#[]⟩, .bool false, .bool false, .slice none 0 0, .slice none 0 0, .slice none 0 0]] w fun e w' => e = .returned (.tuple #[.slice none 0 0, .int .i64 6]) ∧ Ch w w' :=
  encode_no (leastK nE nE) _ _ _ w (least_at _ _ _) (least_fine _ _ (by decide) (by decide)) 6 least_no (by decide)
theorem same_least (w : World) : Calls Try.prog 11 #[.agg #[.string ⟨#[65]⟩, .string ⟨#[]⟩, .bool false, .bool false, .slice none 0 0, .slice none 0 0, .slice none 0 0], .agg #[.string ⟨#[65]⟩, .string ⟨#[]⟩, .bool false, .bool false, .slice none 0 0, .slice none 0 0, .slice none 0 0]] w fun e w' => e = .returned (.bool true) ∧ Ch w w' := by
  have h := sameC_any (leastK nA nE) (leastK nA nE) _ _ _ _ _ _ w (least_at _ _ _) (least_at _ _ _)
  have e : eqC (leastK nA nE) (leastK nA nE) = true := by decide +kernel
  rw [e] at h
  exact h
theorem least_enc' (w : World) : Calls Try.prog 10 #[.agg #[.string ⟨#[65]⟩, .string ⟨#[79, 98, 106, 101, 99, 116]⟩, .bool false, .bool false, .slice none 0 0, .slice none 0 0, .slice none 0 0]] w
    fun e w' => ∃ ao cb, e = .returned (.tuple #[.slice ao 29 cb, .int .i64 0]) ∧ w'.ownsRow w.heap.size 5 1 (.slice ao 29 cb) leastBs.length (leastBs.map (Value.int .u8)) ∧ Ch w w' := by
  refine (least_enc w).mono ?_
  rintro e w' ⟨v, h1, h2, h3⟩
  have h2' : w'.ownsRow w.heap.size 5 1 v leastBs.length (leastBs.map (Value.int .u8)) := h2
  obtain ⟨ao, cb, hv⟩ := own_form h2'
  rw [leastBs_len] at hv
  subst hv
  exact ⟨ao, cb, h1, h2', h3⟩

set_option maxHeartbeats 2000000 in
theorem awake_any (w : World) : Calls Try.prog 5 #[] w fun e w' => e = .returned (.bool true) ∧ Ch w w' := by
  go_enter Try.func5, Try.ntmps5
  go_wp2_with (first
    | (go_at_call 10; (with_reducible refine (least_enc' _).mono ?_); rintro e w2 ⟨ao, cb, rfl, ho2, hc2⟩; have hsl : ∀ W, (Instr.slice 40 (.slice ao 29 cb) none (some (.int .i64 4)) none).run Try.prog W = .ok (.slice ao 4 cb) W := (fun W => slice_to (c := 4) (L := 29) (by rw [leastBs_len] at ho2; exact ho2) (by omega) (by omega) W))
    | (go_at_call 10; (with_reducible refine (zero_enc _).mono ?_); rintro e w3 ⟨rfl, hc3⟩; have hcv : (convert 40 9 (.slice ao 4 cb)).run Try.prog w3 = .ok (.string ⟨#[83, 66, 67, 49]⟩) w3 := (by rw [row_string (row_take (c := 4) (ownsRow_keep ho2 hc3) (by rw [leastBs_len]; omega) (by rw [leastBs_len]; omega)), leastBs_four]))
    | (go_at_call 11; (with_reducible refine (same_least _).mono ?_); rintro e w4 ⟨rfl, hc4⟩))
  go_ret
  exact ⟨rfl, (hc2.trans hc3).trans hc4⟩
end Go.Proofs.Ytdalibfgkkgcpab
