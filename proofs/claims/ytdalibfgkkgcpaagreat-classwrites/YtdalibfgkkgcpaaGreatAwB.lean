/- What the document fixes. -/
import Derived.Test.YtdalibfgkkgcpaaGreatAw
import Derived.Test.YtdalibfgkkgcpaaGreatEncE
import Derived.Laws.BytesArg
namespace Go.Proofs.YtdalibfgkkgcpaaGreat
open Go.RowKit
set_option linter.unusedVariables false

theorem row_string {w : World} {sv : Value} {bs : List Int} (h : Row w sv bs) : (convert 29 9 sv).run Tryz.prog w = .ok (.string (strOfNums bs)) w := by
  rcases h with ⟨rfl, rfl⟩ | ⟨a, cap, rfl, hc⟩
  · exact run_convert_bytes_nil w 29 5 Tryz.underlying29 Tryz.underlying5 0 0 9 Tryz.underlying9
  · have hl := run_loadCells_list (P := Tryz.prog) w a (bs.map (Value.int .u8)) hc
    rw [List.length_map] at hl
    rw [run_convert_bytes_string w 29 9 5 _ bs.length cap Tryz.underlying29 Tryz.underlying5 Tryz.underlying9, run_bytesToString w _ bs.length cap bs hl, foldl_push_bytes]
    simp [strOfNums, ByteArray.empty, ByteArray.emptyWithCapacity]
    rfl
theorem slice_to {base : Nat} {w : World} {ao : Option Addr} {L cb c : Nat} {xs : List Value} (h : w.ownsRow base 5 1 (.slice ao L cb) L xs) (hc : c ≤ L) (hL : L ≤ 140737488355328) (W : World) :
    (Instr.slice 29 (.slice ao L cb) none (some (.int .i64 (c : Int))) none).run Tryz.prog W = .ok (.slice ao c cb) W := by
  rcases h.2 with ⟨hv, h0⟩ | ⟨g, cap, cur, hv, hb, hh, h1, h2, h3, h4⟩
  · have e : ao = none ∧ L = 0 ∧ cb = 0 := by simpa using hv
    obtain ⟨rfl, rfl, rfl⟩ := e
    obtain rfl : c = 0 := by omega
    have := Tryz.underlying29
    go_simp
  · have e : ao = some ⟨g, 0, none⟩ ∧ cb = cap := by simpa using hv
    obtain ⟨rfl, rfl⟩ := e
    have q1 : (0 : Int) ≤ (c : Int) := by omega
    have q2 : (c : Int) ≤ (cb : Int) := by omega
    unfold maxLen at h2
    have := Tryz.underlying29
    go_simp
/-- The first bytes of a row. -/
theorem row_take {base : Nat} {w : World} {ao : Option Addr} {L cb c : Nat} {bs : List Int} (h : w.ownsRow base 5 1 (.slice ao L cb) bs.length (bs.map (Value.int .u8))) (hc : c ≤ bs.length) (h0 : 0 < bs.length) : Row w (.slice ao c cb) (bs.take c) := by
  rcases row_of_owns h with ⟨_, hn⟩ | ⟨a, cap, hv, hcell⟩
  · rw [hn] at h0; simp at h0
  · obtain ⟨rfl, _, rfl⟩ : ao = some a ∧ L = bs.length ∧ cb = cap := by simpa using hv
    refine Or.inr ⟨a, cb, by rw [List.length_take, Nat.min_eq_left hc], fun j u hj => hcell j u ?_⟩
    rw [List.map_take] at hj
    have hjc : j < c := by
      rcases Nat.lt_or_ge j c with h | h
      · exact h
      · rw [List.getElem?_eq_none (by rw [List.length_take, List.length_map]; omega)] at hj; cases hj
    rwa [List.getElem?_take_of_lt hjc] at hj

theorem encode_no (c : Cls) (vi vf vm : Value) (w : World) (h : ClsAt w c vi vf vm) (hF : Fine c) (x : Int) (hx : chkE c = x) (h0 : x ≠ 0) :
    Calls Tryz.prog 9 #[.agg #[.string c.n, .string c.s, .bool c.it, .bool c.ab, vi, vf, vm]] w fun e w' => e = .returned (.tuple #[.slice none 0 0, .int .i64 x]) ∧ Ch w w' := by
  have hck : ∀ w0, Ch w w0 → _ := fun w0 k => check_cls c vi vf vm w0 (h.keep k) hF
  rw [hx] at hck
  have hcW : Ch w (w.alloc (.cells #[.string c.n, .string c.s, .bool c.it, .bool c.ab, vi, vf, vm] 26)) := (Ch.refl w).alloc _
  obtain ⟨ai, ci, rfl, _, _⟩ := h.1.form
  obtain ⟨af, cf, rfl, _, _⟩ := h.2.1.form
  obtain ⟨am, cm, rfl, _, _⟩ := h.2.2.form
  clear h hF hx
  have t0 : (x == 0) = false := by simpa using h0
  go_enter Tryz.func9, Tryz.ntmps9
  go_wp2_with (first
    | (go_at_call 11; (with_reducible refine (hck _ hcW).mono ?_); rintro e w2 ⟨rfl, hc2⟩))
  go_ret2
  exact ⟨rfl, hcW.trans hc2⟩

theorem least_enc (w : World) : Calls Tryz.prog 9 #[.agg #[.string ⟨#[65]⟩, .string ⟨#[79, 98, 106, 101, 99, 116]⟩, .bool false, .bool false, .slice none 0 0, .slice none 0 0, .slice none 0 0]] w
    fun e w' => ∃ v, e = .returned (.tuple #[v, .int .i64 0]) ∧ w'.ownsRow w.heap.size 5 1 v (headB [[65], [79, 98, 106, 101, 99, 116]] ++ leastB [[65], [79, 98, 106, 101, 99, 116]] nA nO).length ((headB [[65], [79, 98, 106, 101, 99, 116]] ++ leastB [[65], [79, 98, 106, 101, 99, 116]] nA nO).map (Value.int .u8)) ∧ Ch w w' := by
  have h := encode_with (leastK nA nO) (.slice none 0 0) (.slice none 0 0) (.slice none 0 0) w (least_at _ _ _) (least_fine _ _ (by decide) (by decide)) least_ok (by rw [least_pool]; decide) (by rw [least_pool]; decide) (by rw [least_pool]; decide) (leastB (poolL (leastK nA nO)) nA nO) (by rw [least_pool]; decide)
    (fun B r M w0 w1 bs hE _ _ hl => by
      exact hE.least nA nO (by decide) (by decide) hl)
  rw [least_pool] at h
  exact h
end Go.Proofs.YtdalibfgkkgcpaaGreat
