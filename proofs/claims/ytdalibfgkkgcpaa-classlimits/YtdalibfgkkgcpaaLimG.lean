/- The walk of the law ClassLimits: handlers. -/
import Derived.Test.YtdalibfgkkgcpaaLimF
namespace Go.Proofs.Ytdalibfgkkgcpaa
open Go.RowKit
set_option linter.unusedVariables false

set_option maxRecDepth 100000 in
set_option maxHeartbeats 8000000 in
theorem lim_hands (what : Int) (n : Nat) (w : World) (hr : rnd what 6 = 5) (h2 : n + 1 ≤ 220) : Calls Try.prog 4 #[.int .i64 what, .int .i64 ((n : Int) + 1)] w fun e w' => e = .returned (.bool true) ∧ Ch w w' := by
  have hrd := round_six hr
  clear hr
  have t1 : decide (((n : Int) + 1) < 1) = false := by simp; omega
  have t2 : decide ((220 : Int) < ((n : Int) + 1)) = false := by simp; omega
  have hW5 := kept_at (limW_ch w) (limB_meth w)
  have hWK := kept_at (limW_ch w) (limB_code w)
  have hW6 := limW_box w
  have hC0 := (limB_ch w).trans (limW_ch w)
  go_enter Try.func4, Try.ntmps4
  go_wp2_with (first
    | (go_at_call 10; (with_reducible refine (hrd _).mono ?_); rintro e w2 ⟨rfl, hx⟩; have hx := hx.symm; subst hx))
  unfold methC at hW5
  unfold limW codeC methC leastC at hW5 hW6 hC0 hWK
  go_loopw [10] (fun i wr => ∃ (k : Nat) (v : Value), k ≤ n + 1 ∧ i = .int .i64 k ∧ wr.heap[w.heap.size + 1]? = some (.cells #[.string ⟨#[109]⟩, .string ⟨#[40, 41, 86]⟩, .bool true, .bool false, .int .i64 0, .int .i64 0, .slice (some ⟨w.heap.size, 0, none⟩) 1 1, v] 36) ∧ wr.heap[w.heap.size + 1 + 1]? = some (.cells #[.string nA, .string nO, .bool false, .bool false, .slice none 0 0, .slice none 0 0, .slice none 0 0] 26) ∧ wr.heap[w.heap.size]? = some (.cells codeC 32) ∧ wr.ownsRow w.heap.size 41 4 v (List.replicate k lH).length ((List.replicate k lH).flatMap hndL) ∧ Ch w wr) (fun i _ => n + 1 - (intOf i).toNat)
  case atStart => exact ⟨0, .slice none 0 0, Nat.zero_le _, rfl, hW5, hW6, hWK, World.ownsRow_nil _ _ _ _, hC0⟩
  case round =>
    clear hW5 hW6 hWK hC0 hrd
    obtain ⟨k, v, hk, rfl, hb5, hb6, hbk, ho, hc⟩ := hrel
    by_cases hlt : k < n + 1
    · have c7 := box_cell (i := 7) hb5 rfl
      have hls : (List.replicate k lH).length ≤ 1000 := by simp; omega
      have hlt' : (k : Int) < (n : Int) + 1 := by omega
      have hl5 : w.heap.size + 1 < wr.heap.size := (Array.getElem?_eq_some_iff.1 hb5).1
      have HB5 : Hid (wr.heap[w.heap.size + 1]? = some (.cells #[.string ⟨#[109]⟩, .string ⟨#[40, 41, 86]⟩, .bool true, .bool false, .int .i64 0, .int .i64 0, .slice (some ⟨w.heap.size, 0, none⟩) 1 1, v] 36)) := hb5
      have HB6 : Hid (wr.heap[w.heap.size + 1 + 1]? = some (.cells #[.string nA, .string nO, .bool false, .bool false, .slice none 0 0, .slice none 0 0, .slice none 0 0] 26)) := hb6
      have HBK : Hid (wr.heap[w.heap.size]? = some (.cells codeC 32)) := hbk
      clear hb5 hb6 hbk
      go_wp2_with (first
        | (at_builtin; refine wpList_append_one rfl (.tmp 89) (.tmp 91) 34 41 _ 4 40 inf41 Try.underlying34 rfl (by omega) (by omega) rfl w.heap.size hndL (fun _ => rfl) v (List.replicate k lH) lH rfl (ownsRow_keep ho ((Ch.refl _).alloc _)) wr.heap.size 1 rfl (heap_alloc_new _ _) (fun u hu => by simp [hndL] at hu; rcases hu with rfl | rfl | rfl | rfl <;> rfl) hls (by simp; omega) ?_; intro v' w3 ho3 hg3; obtain ⟨ao, c, rfl⟩ := own_form ho3; have hm5 := box_mid HB5.out ho (by decide) hg3; have hm6 := box_mid HB6.out ho (by decide) hg3; have hmk := box_mid HBK.out ho (by decide) hg3; have d7 := box_cell (i := 7) hm5 rfl; have f7 := box_fz (i := 7) hm5))
      have hla : (List.replicate k lH ++ [lH]).length = k + 1 := by simp
      rw [rep_snoc] at ho3
      go_roundw
      case rel => exact ⟨k + 1, _, by omega, by go_num, by simpa [hla] using box_set (i := 7) hm5, (Below.heap_setCell _ _ _ _ (by simp)).trans hm6, (Below.heap_setCell _ _ _ _ (by simp)).trans hmk, own_set hm5 (by simpa using ho3) (by decide), ((hc.alloc _).ownK (ownsRow_keep ho ((Ch.refl _).alloc _)) (Nat.le_refl _) hg3).setCell (by omega) _⟩
      case measure => simp [intOf]; omega
    · obtain rfl : k = n + 1 := by omega
      obtain ⟨ao, cv, hv⟩ := own_form ho
      rw [List.length_replicate] at hv
      subst hv
      have HSC : Hid (∀ W, W.heap[w.heap.size]? = some (.cells codeC 32) → W.ownsRow w.heap.size 41 4 (.slice ao (n + 1) cv) (List.replicate (n + 1) lH).length ((List.replicate (n + 1) lH).flatMap hndL) → Sl 6 RI W (.slice (some ⟨w.heap.size, 0, none⟩) 1 1) [lI 36] ∧ Sl 4 RH W (.slice ao (n + 1) cv) (List.replicate (n + 1) lH)) := fun W h1 h2 => ⟨sl_ins1 h1, sl_ownK hndL (fun _ => rfl) (fun _ _ => rfl) h2⟩
      have HFI : Hid (Fine (lC [] [lM 0 0 [lI 36] (List.replicate (n + 1) lH)])) := lC_fine _ _ (fun f hf => (by cases hf)) (fun m hm => by simp at hm; subst hm; exact lM_fine _ _ _ _ (fun x hx => by simp at hx; exact Or.inl hx) (fun h hx => List.eq_of_mem_replicate hx)) (by
        rw [clsX_one]
        show 2 + ([bl (⟨#[109]⟩ : ByteArray), bl (⟨#[40, 41, 86]⟩ : ByteArray)] ++ ([lI 36].flatMap insX ++ (List.replicate (n + 1) lH).flatMap hndX)).length ≤ 50000
        rw [List.flatMap_cons, insX_R]
        simp only [List.length_append, rep_flat_len]
        simp [hndX]
        omega)
      have hkk : ∀ (o : Obj) (G i : Nat) (u : Value), w.heap.size < G → ((wr.alloc o).setCell ⟨G, i, none⟩ u).heap[w.heap.size]? = some (.cells codeC 32) := fun o G i u hG => (Below.heap_setCell _ _ _ _ (fun e => Nat.ne_of_lt hG e)).trans (kept_at ((Ch.refl _).alloc _) hbk)
      have hoo : ∀ (o : Obj) (i : Nat) (u : Value), ((wr.alloc o).setCell ⟨w.heap.size + 1 + 1, i, none⟩ u).ownsRow w.heap.size 41 4 (.slice ao (n + 1) cv) (List.replicate (n + 1) lH).length ((List.replicate (n + 1) lH).flatMap hndL) := fun o i u => own_set (kept_at ((Ch.refl _).alloc _) hb6) (ownsRow_keep ho ((Ch.refl _).alloc _)) (by decide)
      have hmr : (wr.alloc (.cells #[.string ⟨#[109]⟩, .string ⟨#[40, 41, 86]⟩, .bool true, .bool false, .int .i64 0, .int .i64 0, (.slice (some ⟨w.heap.size, 0, none⟩) 1 1), (.slice ao (n + 1) cv)] 36)).heap[wr.heap.size]? = some (.cells (mthC (lM 0 0 [lI 36] (List.replicate (n + 1) lH)) (.slice (some ⟨w.heap.size, 0, none⟩) 1 1) (.slice ao (n + 1) cv)) 36) := heap_alloc_new _ _
      have hb6' : (wr.alloc (.cells #[.string ⟨#[109]⟩, .string ⟨#[40, 41, 86]⟩, .bool true, .bool false, .int .i64 0, .int .i64 0, (.slice (some ⟨w.heap.size, 0, none⟩) 1 1), (.slice ao (n + 1) cv)] 36)).heap[w.heap.size + 1 + 1]? = some (.cells #[.string nA, .string nO, .bool false, .bool false, .slice none 0 0, .slice none 0 0, .slice none 0 0] 26) := kept_at ((Ch.refl _).alloc _) hb6
      have hne6 : wr.heap.size ≠ w.heap.size + 1 + 1 := by have := (Array.getElem?_eq_some_iff.1 hb6).1; omega
      have hq1 := box_set (i := 6) (v := .slice (some ⟨wr.heap.size, 0, none⟩) 1 1) hb6'
      have hcS : Ch w ((wr.alloc (.cells #[.string ⟨#[109]⟩, .string ⟨#[40, 41, 86]⟩, .bool true, .bool false, .int .i64 0, .int .i64 0, (.slice (some ⟨w.heap.size, 0, none⟩) 1 1), (.slice ao (n + 1) cv)] 36)).setCell ⟨w.heap.size + 1 + 1, 6, none⟩ (.slice (some ⟨wr.heap.size, 0, none⟩) 1 1)) := (hc.alloc _).setCell (by omega) _
      have hmS : ((wr.alloc (.cells #[.string ⟨#[109]⟩, .string ⟨#[40, 41, 86]⟩, .bool true, .bool false, .int .i64 0, .int .i64 0, (.slice (some ⟨w.heap.size, 0, none⟩) 1 1), (.slice ao (n + 1) cv)] 36)).setCell ⟨w.heap.size + 1 + 1, 6, none⟩ (.slice (some ⟨wr.heap.size, 0, none⟩) 1 1)).heap[wr.heap.size]? = some (.cells (mthC (lM 0 0 [lI 36] (List.replicate (n + 1) lH)) (.slice (some ⟨w.heap.size, 0, none⟩) 1 1) (.slice ao (n + 1) cv)) 36) := (Below.heap_setCell _ _ _ _ (fun e => hne6 e)).trans hmr
      have hq1' : ((wr.alloc (.cells #[.string ⟨#[109]⟩, .string ⟨#[40, 41, 86]⟩, .bool true, .bool false, .int .i64 0, .int .i64 0, (.slice (some ⟨w.heap.size, 0, none⟩) 1 1), (.slice ao (n + 1) cv)] 36)).setCell ⟨w.heap.size + 1 + 1, 6, none⟩ (.slice (some ⟨wr.heap.size, 0, none⟩) 1 1)).heap[w.heap.size + 1 + 1]? = some (.cells #[.string nA, .string nO, .bool false, .bool false, .slice none 0 0, .slice none 0 0, .slice (some ⟨wr.heap.size, 0, none⟩) 1 1] 26) := hq1
      have hsc0 := HSC.out _ (hkk (.cells #[.string ⟨#[109]⟩, .string ⟨#[40, 41, 86]⟩, .bool true, .bool false, .int .i64 0, .int .i64 0, (.slice (some ⟨w.heap.size, 0, none⟩) 1 1), (.slice ao (n + 1) cv)] 36) (w.heap.size + 1 + 1) 6 (.slice (some ⟨wr.heap.size, 0, none⟩) 1 1) (by omega)) (hoo _ 6 _)
      have HCK : Hid (∀ w0, Ch ((wr.alloc (.cells #[.string ⟨#[109]⟩, .string ⟨#[40, 41, 86]⟩, .bool true, .bool false, .int .i64 0, .int .i64 0, (.slice (some ⟨w.heap.size, 0, none⟩) 1 1), (.slice ao (n + 1) cv)] 36)).setCell ⟨w.heap.size + 1 + 1, 6, none⟩ (.slice (some ⟨wr.heap.size, 0, none⟩) 1 1)) w0 → Calls Try.prog 11 #[.agg #[.string nA, .string nO, .bool false, .bool false, .slice none 0 0, .slice none 0 0, .slice (some ⟨wr.heap.size, 0, none⟩) 1 1]] w0 fun e w' => e = .returned (.int .i64 (if n + 1 ≤ 20 then 0 else 5)) ∧ Ch w0 w') := fun w0 k => by
        have hsc := hsc0
        have := check_cls (lC [] [lM 0 0 [lI 36] (List.replicate (n + 1) lH)]) (.slice none 0 0) (.slice none 0 0) (.slice (some ⟨wr.heap.size, 0, none⟩) 1 1) w0 ⟨nilSl _ _ _, nilSl _ _ _, (sl_mth1 hmS hsc.1 hsc.2).keepM k⟩ HFI.out
        rw [chk_hands (n + 1)] at this
        exact this
      have f6 := box_fz (i := 6) hb6'
      have d6 := box_cell (i := 6) hb6' rfl
      have c0 := box_cell (i := 0) hq1' rfl
      have c1 := box_cell (i := 1) hq1' rfl
      have c2 := box_cell (i := 2) hq1' rfl
      have c3 := box_cell (i := 3) hq1' rfl
      have c4 := box_cell (i := 4) hq1' rfl
      have c5 := box_cell (i := 5) hq1' rfl
      have c6 := box_cell (i := 6) hq1' rfl
      have m0 := box_cell (i := 0) hb5 rfl
      have m1 := box_cell (i := 1) hb5 rfl
      have m2 := box_cell (i := 2) hb5 rfl
      have m3 := box_cell (i := 3) hb5 rfl
      have m4 := box_cell (i := 4) hb5 rfl
      have m5 := box_cell (i := 5) hb5 rfl
      have m6 := box_cell (i := 6) hb5 rfl
      have m7 := box_cell (i := 7) hb5 rfl
      clear hmr hb6' hq1 hmS hq1' hb5 hb6 ho
      by_cases h20 : n + 1 ≤ 20
      · have hck := HCK.out
        rw [if_pos h20] at hck
        have h20' : (n : Int) + 1 ≤ 20 := by omega
        go_wp2_with (first
          | (go_at_call 11; (with_reducible refine (hck _ (Ch.refl _)).mono ?_); rintro e w5 ⟨rfl, hc5⟩)
          | (go_at_call 7; (with_reducible refine (awake_any _).mono ?_); rintro e w6 ⟨rfl, hc6⟩))
        go_ret
        exact ⟨rfl, (hcS.trans hc5).trans hc6⟩
      · have hck := HCK.out
        rw [if_neg h20] at hck
        have h20' : (20 : Int) < (n : Int) + 1 := by omega
        go_wp2_with (first
          | (go_at_call 11; (with_reducible refine (hck _ (Ch.refl _)).mono ?_); rintro e w5 ⟨rfl, hc5⟩)
          | (go_at_call 7; (with_reducible refine (awake_any _).mono ?_); rintro e w6 ⟨rfl, hc6⟩))
        go_ret
        exact ⟨rfl, (hcS.trans hc5).trans hc6⟩
end Go.Proofs.Ytdalibfgkkgcpaa
