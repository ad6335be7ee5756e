/- The walk of the law ClassLimits: many methods. -/
import Derived.Test.YtdalibfgkkgcpaaLimC
namespace Go.Proofs.Ytdalibfgkkgcpaa
open Go.RowKit
set_option linter.unusedVariables false

theorem sl_ins1 {w : World} {g : Nat} (h : w.heap[g]? = some (.cells codeC 32)) : Sl 6 RI w (.slice (some ⟨g, 0, none⟩) 1 1) [lI 36] := by
  refine ⟨_, _, rfl, Nat.le_refl _, by simp, fun _ => ⟨g, 0, rfl, fun i a hi => ?_⟩⟩
  match i, hi with
  | 0, hi =>
    cases hi
    refine ⟨_, rfl, fun j u hj => ?_⟩
    match j, hj with
    | 0, hj => cases hj; simp [World.cell?, h, codeC, lI]
    | 1, hj => cases hj; simp [World.cell?, h, codeC, lI]
    | 2, hj => cases hj; simp [World.cell?, h, codeC, lI]
    | 3, hj => cases hj; simp [World.cell?, h, codeC, lI]
    | 4, hj => cases hj; simp [World.cell?, h, codeC, lI]
    | 5, hj => cases hj; simp [World.cell?, h, codeC, lI]
theorem sl_mth1 {w : World} {g : Nat} {m : Mth} {vc vh : Value} (h : w.heap[g]? = some (.cells (mthC m vc vh) 36)) (h1 : Sl 6 RI w vc m.code) (h2 : Sl 4 RH w vh m.hs) : Sl 8 RM w (.slice (some ⟨g, 0, none⟩) 1 1) [m] := by
  obtain ⟨e0, e1, e2, e3, e4, e5, e6, e7⟩ := mthC_at h
  refine ⟨_, _, rfl, Nat.le_refl _, by simp, fun _ => ⟨g, 0, rfl, fun i a hi => ?_⟩⟩
  match i, hi with
  | 0, hi =>
    cases hi
    refine ⟨_, ⟨vc, vh, rfl, h1, h2⟩, fun j u hj => ?_⟩
    match j, hj with
    | 0, hj => cases hj; exact e0
    | 1, hj => cases hj; exact e1
    | 2, hj => cases hj; exact e2
    | 3, hj => cases hj; exact e3
    | 4, hj => cases hj; exact e4
    | 5, hj => cases hj; exact e5
    | 6, hj => cases hj; exact e6
    | 7, hj => cases hj; exact e7
def limB (w : World) : World := (w.alloc (.cells codeC 32)).alloc (.cells (methC (.slice (some ⟨w.heap.size, 0, none⟩) 1 1)) 36)
theorem limB_size (w : World) : (limB w).heap.size = w.heap.size + 1 + 1 := by simp [limB]
theorem limB_code (w : World) : (limB w).heap[w.heap.size]? = some (.cells codeC 32) := heap_alloc2_old _ _ _
theorem limB_meth (w : World) : (limB w).heap[w.heap.size + 1]? = some (.cells (methC (.slice (some ⟨w.heap.size, 0, none⟩) 1 1)) 36) := heap_alloc2_new _ _ _
theorem limB_ch (w : World) : Ch w (limB w) := ((Ch.refl w).alloc _).alloc _
theorem limW_box (w : World) : (limW w).heap[w.heap.size + 1 + 1]? = some (.cells #[.string nA, .string nO, .bool false, .bool false, .slice none 0 0, .slice none 0 0, .slice none 0 0] 26) := by
  unfold limW
  have e : w.heap.size + 1 + 1 = ((w.alloc (.cells codeC 32)).alloc (.cells (methC (.slice (some ⟨w.heap.size, 0, none⟩) 1 1)) 36)).heap.size := by simp
  rw [e]
  exact heap_alloc_new _ _
theorem limW_ch (w : World) : Ch (limB w) (limW w) := (Ch.refl _).alloc _

set_option maxRecDepth 100000 in
set_option maxHeartbeats 8000000 in
theorem lim_methods (what : Int) (n : Nat) (w : World) (hr : rnd what 6 = 1) (h2 : n + 1 ≤ 220) : Calls Try.prog 4 #[.int .i64 what, .int .i64 ((n : Int) + 1)] w fun e w' => e = .returned (.bool true) ∧ Ch w w' := by
  have hrd := round_six hr
  clear hr
  have t1 : decide (((n : Int) + 1) < 1) = false := by simp; omega
  have t2 : decide ((220 : Int) < ((n : Int) + 1)) = false := by simp; omega
  have HMB : Hid (∀ w', Ch (limB w) w' → _) := fun w' k => mthC_at (m := lM 0 0 [lI 36] []) (vc := .slice (some ⟨w.heap.size, 0, none⟩) 1 1) (vh := .slice none 0 0) (t := 36) (kept_at k (limB_meth w))
  have HSI : Hid (∀ w', Ch (limB w) w' → Sl 6 RI w' (.slice (some ⟨w.heap.size, 0, none⟩) 1 1) [lI 36]) := fun w' k => sl_ins1 (kept_at k (limB_code w))
  have hz := limB_size w
  have hCB := limB_ch w
  have hW0 := limW_box w
  have hC0 := limW_ch w
  go_enter Try.func4, Try.ntmps4
  go_wp2_with (first
    | (go_at_call 10; (with_reducible refine (hrd _).mono ?_); rintro e w2 ⟨rfl, hx⟩; have hx := hx.symm; subst hx))
  unfold limW codeC methC leastC at hW0 hC0
  generalize limB w = wB at *
  go_loopw [9] (fun i wr => ∃ (k : Nat) (v : Value), k ≤ n + 1 ∧ i = .int .i64 k ∧ wr.heap[w.heap.size + 1 + 1]? = some (.cells #[.string nA, .string nO, .bool false, .bool false, .slice none 0 0, .slice none 0 0, v] 26) ∧ wr.ownsRow (w.heap.size + 1 + 1) 36 8 v (List.replicate k (lM 0 0 [lI 36] [])).length ((List.replicate k (lM 0 0 [lI 36] [])).flatMap (mthL (.slice (some ⟨w.heap.size, 0, none⟩) 1 1) (.slice none 0 0))) ∧ Ch wB wr) (fun i _ => n + 1 - (intOf i).toNat)
  case atStart => exact ⟨0, .slice none 0 0, Nat.zero_le _, rfl, hW0, World.ownsRow_nil _ _ _ _, hC0⟩
  case round =>
    clear hW0 hC0 hrd
    obtain ⟨k, v, hk, rfl, hb, ho, hc⟩ := hrel
    have c6 := box_cell (i := 6) hb rfl
    by_cases hlt : k < n + 1
    · have hls : (List.replicate k (lM 0 0 [lI 36] [])).length ≤ 1000 := by simp; omega
      have hlt' : (k : Int) < (n : Int) + 1 := by omega
      have HB : Hid (wr.heap[w.heap.size + 1 + 1]? = some (.cells #[.string nA, .string nO, .bool false, .bool false, .slice none 0 0, .slice none 0 0, v] 26)) := hb
      have hlb : w.heap.size + 1 + 1 < wr.heap.size := (Array.getElem?_eq_some_iff.1 hb).1
      obtain ⟨m0, m1, m2, m3, m4, m5, m6, m7⟩ := HMB.out _ hc
      clear hb
      go_wp2_with (first
        | (at_builtin; refine wpList_append_one rfl (.tmp 46) (.tmp 48) 24 36 _ 8 104 inf36 Try.underlying24 rfl (by omega) (by omega) rfl (w.heap.size + 1 + 1) (mthL (.slice (some ⟨w.heap.size, 0, none⟩) 1 1) (.slice none 0 0)) (fun _ => rfl) v (List.replicate k (lM 0 0 [lI 36] [])) (lM 0 0 [lI 36] []) rfl (ownsRow_keep ho ((Ch.refl _).alloc _)) wr.heap.size 1 rfl (heap_alloc_new _ _) (fun u hu => by simp [mthL] at hu; rcases hu with rfl | rfl | rfl | rfl | rfl | rfl | rfl | rfl <;> rfl) hls (by simp; omega) ?_; intro v' w3 ho3 hg3; obtain ⟨ao, c, rfl⟩ := own_form ho3; have hm3 := box_mid HB.out ho (by decide) hg3; have d6 := box_cell (i := 6) hm3 rfl; have f6 := box_fz (i := 6) hm3))
      have hla : (List.replicate k (lM 0 0 [lI 36] []) ++ [lM 0 0 [lI 36] []]).length = k + 1 := by simp
      rw [rep_snoc] at ho3
      go_roundw
      case rel => exact ⟨k + 1, _, by omega, by go_num, by simpa [hla] using box_set (i := 6) hm3, own_set hm3 (by simpa using ho3) (by decide), ((hc.alloc _).ownK (ownsRow_keep ho ((Ch.refl _).alloc _)) (by omega) hg3).setCell (by omega) _⟩
      case measure => simp [intOf]; omega
    · obtain rfl : k = n + 1 := by omega
      have hS : Sl 8 RM wr v (List.replicate (n + 1) (lM 0 0 [lI 36] [])) := sl_ownK (mthL (.slice (some ⟨w.heap.size, 0, none⟩) 1 1) (.slice none 0 0)) (fun _ => rfl) (fun a ha => by rw [List.eq_of_mem_replicate ha]; exact ⟨_, _, rfl, HSI.out _ hc, nilSl _ _ _⟩) ho
      have hA : ClsAt wr (lC [] (List.replicate (n + 1) (lM 0 0 [lI 36] []))) (.slice none 0 0) (.slice none 0 0) v := ⟨nilSl _ _ _, nilSl _ _ _, hS⟩
      have hF : Fine (lC [] (List.replicate (n + 1) (lM 0 0 [lI 36] []))) := lC_fine _ _ (fun f hf => (by cases hf)) (fun m hm => by rw [List.eq_of_mem_replicate hm]; exact lM_fine _ _ _ _ (fun x hx => by simp at hx; exact Or.inl hx) (fun h hx => (by cases hx))) (by
        have hx : mthX (lM 0 0 [lI 36] []) = [[109], [40, 41, 86]] := by decide +kernel
        have : (clsX (lC [] (List.replicate (n + 1) (lM 0 0 [lI 36] [])))).length = 2 + (n + 1) * 2 := by
          show ([bl nA, bl nO] ++ (([] : List ByteArray).map bl ++ (([] : List Fld).flatMap fldX ++ (List.replicate (n + 1) (lM 0 0 [lI 36] [])).flatMap mthX))).length = _
          simp only [List.length_append, rep_flat_len, hx]
          simp
        omega)
      obtain ⟨ao, cv, hv⟩ := own_form ho
      rw [List.length_replicate] at hv
      subst hv
      have HCK : Hid (∀ w0, Ch wr w0 → Calls Try.prog 11 #[.agg #[.string nA, .string nO, .bool false, .bool false, .slice none 0 0, .slice none 0 0, .slice ao (n + 1) cv]] w0 fun e w' => e = .returned (.int .i64 (if n + 1 ≤ 20 then 0 else 5)) ∧ Ch w0 w') := fun w0 k => by
        have := check_cls (lC [] (List.replicate (n + 1) (lM 0 0 [lI 36] []))) (.slice none 0 0) (.slice none 0 0) (.slice ao (n + 1) cv) w0 (hA.keep k) hF
        rw [chk_methods n] at this
        exact this
      have c0 := box_cell (i := 0) hb rfl
      have c1 := box_cell (i := 1) hb rfl
      have c2 := box_cell (i := 2) hb rfl
      have c3 := box_cell (i := 3) hb rfl
      have c4 := box_cell (i := 4) hb rfl
      have c5 := box_cell (i := 5) hb rfl
      have hcw := hCB.trans hc
      clear hA hS hF ho hb hlt hk
      by_cases h20 : n + 1 ≤ 20
      · have hck := HCK.out
        rw [if_pos h20] at hck
        have h20' : (n : Int) + 1 ≤ 20 := by omega
        go_wp2_with (first
          | (go_at_call 11; (with_reducible refine (hck _ (Ch.refl _)).mono ?_); rintro e w5 ⟨rfl, hc5⟩)
          | (go_at_call 7; (with_reducible refine (awake_any _).mono ?_); rintro e w6 ⟨rfl, hc6⟩))
        go_ret
        exact ⟨rfl, (hcw.trans hc5).trans hc6⟩
      · have hck := HCK.out
        rw [if_neg h20] at hck
        have h20' : (20 : Int) < (n : Int) + 1 := by omega
        go_wp2_with (first
          | (go_at_call 11; (with_reducible refine (hck _ (Ch.refl _)).mono ?_); rintro e w5 ⟨rfl, hc5⟩)
          | (go_at_call 7; (with_reducible refine (awake_any _).mono ?_); rintro e w6 ⟨rfl, hc6⟩))
        go_ret
        exact ⟨rfl, (hcw.trans hc5).trans hc6⟩
end Go.Proofs.Ytdalibfgkkgcpaa
