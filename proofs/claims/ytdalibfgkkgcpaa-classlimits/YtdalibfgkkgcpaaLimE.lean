/- The walk of the law ClassLimits: much code. -/
import Derived.Test.YtdalibfgkkgcpaaLimG
namespace Go.Proofs.Ytdalibfgkkgcpaa
open Go.RowKit
set_option linter.unusedVariables false

theorem own_len33 {w : World} {base : Nat} {v : Value} {n : Nat} {xs : List Value} (h : w.ownsRow base 32 6 v n xs) (ty : TypeId) (W : World) : (Builtin.len_ #[33] ty #[v]).run Try.prog W = .ok (goInt n) W := by
  obtain ⟨ao, c, rfl⟩ := own_form h
  exact run_len_slice W 33 ty ao n c (by kernel_rfl)
/-- How long the slice in a box is. -/
def slLen (w : World) (G i : Nat) : Nat :=
  match w.heap[G]? with
  | some (.cells cs _ _) => match cs[i]? with
    | some (.slice _ n _) => n
    | _ => 0
  | _ => 0
theorem slLen_of {w : World} {G i n c : Nat} {ao : Option Addr} {cs : Array Value} {t : TypeId} (h : w.heap[G]? = some (.cells cs t)) (hi : cs[i]? = some (.slice ao n c)) : slLen w G i = n := by simp [slLen, h, hi]

set_option maxRecDepth 100000 in
set_option maxHeartbeats 8000000 in
theorem lim_code (what : Int) (n : Nat) (w : World) (hr : rnd what 6 = 2) (h2 : n + 1 ≤ 220) : Calls Try.prog 4 #[.int .i64 what, .int .i64 ((n : Int) + 1)] w fun e w' => e = .returned (.bool true) ∧ Ch w w' := by
  have hrd := round_six hr
  clear hr
  have t1 : decide (((n : Int) + 1) < 1) = false := by simp; omega
  have t2 : decide ((220 : Int) < ((n : Int) + 1)) = false := by simp; omega
  have hW5 := kept_at (limW_ch w) (limB_meth w)
  have hWK := kept_at (limW_ch w) (limB_code w)
  have hW6 := limW_box w
  have hC0 := (limB_ch w).trans (limW_ch w)
  have hO0 : (limW w).ownsRow w.heap.size 32 6 (.slice (some ⟨w.heap.size, 0, none⟩) 1 1) (lI 36 :: List.replicate 0 (lI 1)).length ((lI 36 :: List.replicate 0 (lI 1)).flatMap insL) := ⟨rfl, Or.inr ⟨w.heap.size, 1, codeC, rfl, Nat.le_refl _, hWK, Nat.le_refl _, by unfold maxLen; omega, rfl, rfl⟩⟩
  go_enter Try.func4, Try.ntmps4
  go_wp2_with (first
    | (go_at_call 10; (with_reducible refine (hrd _).mono ?_); rintro e w2 ⟨rfl, hx⟩; have hx := hx.symm; subst hx))
  unfold methC at hW5
  unfold limW codeC methC leastC at hW5 hW6 hC0 hO0
  clear hWK
  go_loopw [] (fun wr => ∃ (k : Nat) (v : Value), k ≤ n ∧ wr.heap[w.heap.size + 1]? = some (.cells #[.string ⟨#[109]⟩, .string ⟨#[40, 41, 86]⟩, .bool true, .bool false, .int .i64 0, .int .i64 0, v, .slice none 0 0] 36) ∧ wr.heap[w.heap.size + 1 + 1]? = some (.cells #[.string nA, .string nO, .bool false, .bool false, .slice none 0 0, .slice none 0 0, .slice none 0 0] 26) ∧ wr.ownsRow w.heap.size 32 6 v (lI 36 :: List.replicate k (lI 1)).length ((lI 36 :: List.replicate k (lI 1)).flatMap insL) ∧ Ch w wr) (fun wr => n + 1 - slLen wr (w.heap.size + 1) 6)
  case atStart => exact ⟨0, _, Nat.zero_le _, hW5, hW6, hO0, hC0⟩
  case round =>
    clear hW5 hW6 hO0 hC0 hrd
    obtain ⟨k, v, hk, hb5, hb6, ho, hc⟩ := hrel
    have hlenv := own_len33 ho
    have hll : (lI 36 :: List.replicate k (lI 1)).length = k + 1 := by simp
    rw [hll] at hlenv
    have hsl : slLen wr (w.heap.size + 1) 6 = k + 1 := by
      obtain ⟨ao, c, hv⟩ := own_form ho
      rw [hll] at hv
      exact slLen_of hb5 (by rw [hv]; rfl)
    have m6' := box_cell (i := 6) hb5 rfl
    by_cases hlt : k < n
    · have hls : (lI 36 :: List.replicate k (lI 1)).length ≤ 1000 := by simp; omega
      have hlt' : ((k + 1 : Nat) : Int) < (n : Int) + 1 := by omega
      have hl5 : w.heap.size + 1 < wr.heap.size := (Array.getElem?_eq_some_iff.1 hb5).1
      have HB5 : Hid (wr.heap[w.heap.size + 1]? = some (.cells #[.string ⟨#[109]⟩, .string ⟨#[40, 41, 86]⟩, .bool true, .bool false, .int .i64 0, .int .i64 0, v, .slice none 0 0] 36)) := hb5
      have HB6 : Hid (wr.heap[w.heap.size + 1 + 1]? = some (.cells #[.string nA, .string nO, .bool false, .bool false, .slice none 0 0, .slice none 0 0, .slice none 0 0] 26)) := hb6
      have HSL : Hid (slLen wr (w.heap.size + 1) 6 = k + 1) := hsl
      clear hb5 hb6 hsl
      go_wp2_with (first
        | (at_builtin; refine wpList_append_one rfl (.tmp 59) (.tmp 61) 33 32 _ 6 72 inf32 Try.underlying33 rfl (by omega) (by omega) rfl w.heap.size insL (fun _ => rfl) v (lI 36 :: List.replicate k (lI 1)) (lI 1) rfl (ownsRow_keep ho ((Ch.refl _).alloc _)) wr.heap.size 1 rfl (heap_alloc_new _ _) (fun u hu => by simp [insL] at hu; rcases hu with rfl | rfl | rfl | rfl | rfl | rfl <;> rfl) hls (by simp; omega) ?_; intro v' w3 ho3 hg3; obtain ⟨ao, c, rfl⟩ := own_form ho3; have hm5 := box_mid HB5.out ho (by decide) hg3; have hm6 := box_mid HB6.out ho (by decide) hg3; have d6 := box_cell (i := 6) hm5 rfl; have f6 := box_fz (i := 6) hm5))
      have hla : (lI 36 :: List.replicate k (lI 1) ++ [lI 1]).length = k + 1 + 1 := by simp
      have hx5 := box_set (i := 6) (v := .slice ao (lI 36 :: List.replicate k (lI 1) ++ [lI 1]).length c) hm5
      rw [hla] at hx5
      have hy3 : w3.ownsRow w.heap.size 32 6 (.slice ao (k + 1 + 1) c) (lI 36 :: List.replicate (k + 1) (lI 1)).length ((lI 36 :: List.replicate (k + 1) (lI 1)).flatMap insL) := by
        rw [hla] at ho3
        rw [List.cons_append, rep_snoc] at ho3
        have e : (lI 36 :: List.replicate (k + 1) (lI 1)).length = k + 1 + 1 := by simp
        rw [e]
        exact ho3
      go_roundw
      case rel => exact ⟨k + 1, .slice ao (k + 1 + 1) c, by omega, by simpa using hx5, (Below.heap_setCell _ _ _ _ (by simp)).trans hm6, own_set hm5 hy3 (by decide), ((hc.alloc _).ownK (ownsRow_keep ho ((Ch.refl _).alloc _)) (Nat.le_refl _) hg3).setCell (by omega) _⟩
      case measure =>
        have e2 := slLen_of (i := 6) (ao := ao) (n := k + 1 + 1) (c := c) hx5 (by rfl)
        have e1 := HSL.out
        simp at e1 e2 ⊢
        omega
    · have hkn : n = k := by omega
      clear hlt hk
      subst hkn
      clear hlenv m6' hsl
      obtain ⟨ao, cv, hv⟩ := own_form ho
      rw [hll] at hv
      subst hv
      have HSC : Hid (∀ W, W.ownsRow w.heap.size 32 6 (.slice ao (n + 1) cv) (lI 36 :: List.replicate n (lI 1)).length ((lI 36 :: List.replicate n (lI 1)).flatMap insL) → Sl 6 RI W (.slice ao (n + 1) cv) (lI 36 :: List.replicate n (lI 1)) ∧ Sl 4 RH W (.slice none 0 0) []) := fun W h2 => ⟨sl_ownK insL (fun _ => rfl) (fun _ _ => rfl) h2, nilSl _ _ _⟩
      have HFI : Hid (Fine (lC [] [lM 0 0 (lI 36 :: List.replicate n (lI 1)) []])) := lC_fine _ _ (fun f hf => (by cases hf)) (fun m hm => by simp at hm; subst hm; exact lM_fine _ _ _ _ (fun x hx => by rcases List.mem_cons.1 hx with h | h; exact Or.inl h; exact Or.inr (List.eq_of_mem_replicate h)) (fun h hx => (by cases hx))) (by
        rw [clsX_one]
        show 2 + ([bl (⟨#[109]⟩ : ByteArray), bl (⟨#[40, 41, 86]⟩ : ByteArray)] ++ ((lI 36 :: List.replicate n (lI 1)).flatMap insX ++ ([] : List Hnd).flatMap hndX)).length ≤ 50000
        rw [List.flatMap_cons, insX_R]
        simp only [List.length_append, rep_flat_len, insX_N]
        simp)
      have hoo : ∀ (o : Obj) (i : Nat) (u : Value), ((wr.alloc o).setCell ⟨w.heap.size + 1 + 1, i, none⟩ u).ownsRow w.heap.size 32 6 (.slice ao (n + 1) cv) (lI 36 :: List.replicate n (lI 1)).length ((lI 36 :: List.replicate n (lI 1)).flatMap insL) := fun o i u => own_set (kept_at ((Ch.refl _).alloc _) hb6) (ownsRow_keep ho ((Ch.refl _).alloc _)) (by decide)
      have hmr : (wr.alloc (.cells #[.string ⟨#[109]⟩, .string ⟨#[40, 41, 86]⟩, .bool true, .bool false, .int .i64 0, .int .i64 0, (.slice ao (n + 1) cv), (.slice none 0 0)] 36)).heap[wr.heap.size]? = some (.cells (mthC (lM 0 0 (lI 36 :: List.replicate n (lI 1)) []) (.slice ao (n + 1) cv) (.slice none 0 0)) 36) := heap_alloc_new _ _
      have hb6' : (wr.alloc (.cells #[.string ⟨#[109]⟩, .string ⟨#[40, 41, 86]⟩, .bool true, .bool false, .int .i64 0, .int .i64 0, (.slice ao (n + 1) cv), (.slice none 0 0)] 36)).heap[w.heap.size + 1 + 1]? = some (.cells #[.string nA, .string nO, .bool false, .bool false, .slice none 0 0, .slice none 0 0, .slice none 0 0] 26) := kept_at ((Ch.refl _).alloc _) hb6
      have hne6 : wr.heap.size ≠ w.heap.size + 1 + 1 := by have := (Array.getElem?_eq_some_iff.1 hb6).1; omega
      have hq1 := box_set (i := 6) (v := .slice (some ⟨wr.heap.size, 0, none⟩) 1 1) hb6'
      have hcS : Ch w ((wr.alloc (.cells #[.string ⟨#[109]⟩, .string ⟨#[40, 41, 86]⟩, .bool true, .bool false, .int .i64 0, .int .i64 0, (.slice ao (n + 1) cv), (.slice none 0 0)] 36)).setCell ⟨w.heap.size + 1 + 1, 6, none⟩ (.slice (some ⟨wr.heap.size, 0, none⟩) 1 1)) := (hc.alloc _).setCell (by omega) _
      have hmS : ((wr.alloc (.cells #[.string ⟨#[109]⟩, .string ⟨#[40, 41, 86]⟩, .bool true, .bool false, .int .i64 0, .int .i64 0, (.slice ao (n + 1) cv), (.slice none 0 0)] 36)).setCell ⟨w.heap.size + 1 + 1, 6, none⟩ (.slice (some ⟨wr.heap.size, 0, none⟩) 1 1)).heap[wr.heap.size]? = some (.cells (mthC (lM 0 0 (lI 36 :: List.replicate n (lI 1)) []) (.slice ao (n + 1) cv) (.slice none 0 0)) 36) := (Below.heap_setCell _ _ _ _ (fun e => hne6 e)).trans hmr
      have hq1' : ((wr.alloc (.cells #[.string ⟨#[109]⟩, .string ⟨#[40, 41, 86]⟩, .bool true, .bool false, .int .i64 0, .int .i64 0, (.slice ao (n + 1) cv), (.slice none 0 0)] 36)).setCell ⟨w.heap.size + 1 + 1, 6, none⟩ (.slice (some ⟨wr.heap.size, 0, none⟩) 1 1)).heap[w.heap.size + 1 + 1]? = some (.cells #[.string nA, .string nO, .bool false, .bool false, .slice none 0 0, .slice none 0 0, .slice (some ⟨wr.heap.size, 0, none⟩) 1 1] 26) := hq1
      have hsc0 := HSC.out _ (hoo (.cells #[.string ⟨#[109]⟩, .string ⟨#[40, 41, 86]⟩, .bool true, .bool false, .int .i64 0, .int .i64 0, (.slice ao (n + 1) cv), (.slice none 0 0)] 36) 6 (.slice (some ⟨wr.heap.size, 0, none⟩) 1 1))
      have HCK : Hid (∀ w0, Ch ((wr.alloc (.cells #[.string ⟨#[109]⟩, .string ⟨#[40, 41, 86]⟩, .bool true, .bool false, .int .i64 0, .int .i64 0, (.slice ao (n + 1) cv), (.slice none 0 0)] 36)).setCell ⟨w.heap.size + 1 + 1, 6, none⟩ (.slice (some ⟨wr.heap.size, 0, none⟩) 1 1)) w0 → Calls Try.prog 11 #[.agg #[.string nA, .string nO, .bool false, .bool false, .slice none 0 0, .slice none 0 0, .slice (some ⟨wr.heap.size, 0, none⟩) 1 1]] w0 fun e w' => e = .returned (.int .i64 (if n + 1 ≤ 200 then 0 else 5)) ∧ Ch w0 w') := fun w0 k => by
        have hsc := hsc0
        have := check_cls (lC [] [lM 0 0 (lI 36 :: List.replicate n (lI 1)) []]) (.slice none 0 0) (.slice none 0 0) (.slice (some ⟨wr.heap.size, 0, none⟩) 1 1) w0 ⟨nilSl _ _ _, nilSl _ _ _, (sl_mth1 hmS hsc.1 hsc.2).keepM k⟩ HFI.out
        rw [chk_code n] at this
        exact this
      have f6 := box_fz (i := 6) hb6'
      have d6 := box_cell (i := 6) hb6' rfl
      have c0 := box_cell (i := 0) hq1' rfl
      have c1 := box_cell (i := 1) hq1' rfl
      have c2 := box_cell (i := 2) hq1' rfl
      have c3 := box_cell (i := 3) hq1' rfl
      have c4 := box_cell (i := 4) hq1' rfl
      have c5 := box_cell (i := 5) hq1' rfl
      have c6 := box_cell (i := 6) hq1' rfl
      have m0 := box_cell (i := 0) hb5 rfl
      have m1 := box_cell (i := 1) hb5 rfl
      have m2 := box_cell (i := 2) hb5 rfl
      have m3 := box_cell (i := 3) hb5 rfl
      have m4 := box_cell (i := 4) hb5 rfl
      have m5 := box_cell (i := 5) hb5 rfl
      have m6 := box_cell (i := 6) hb5 rfl
      have m7 := box_cell (i := 7) hb5 rfl
      clear hmr hb6' hq1 hmS hq1' hb5 hb6 ho
      by_cases h20 : n + 1 ≤ 200
      · have hck := HCK.out
        rw [if_pos h20] at hck
        have h20' : (n : Int) + 1 ≤ 200 := by omega
        go_wp2_with (first
          | (go_at_call 11; (with_reducible refine (hck _ (Ch.refl _)).mono ?_); rintro e w5 ⟨rfl, hc5⟩)
          | (go_at_call 7; (with_reducible refine (awake_any _).mono ?_); rintro e w6 ⟨rfl, hc6⟩))
        go_ret
        exact ⟨rfl, (hcS.trans hc5).trans hc6⟩
      · have hck := HCK.out
        rw [if_neg h20] at hck
        have h20' : (200 : Int) < (n : Int) + 1 := by omega
        go_wp2_with (first
          | (go_at_call 11; (with_reducible refine (hck _ (Ch.refl _)).mono ?_); rintro e w5 ⟨rfl, hc5⟩)
          | (go_at_call 7; (with_reducible refine (awake_any _).mono ?_); rintro e w6 ⟨rfl, hc6⟩))
        go_ret
        exact ⟨rfl, (hcS.trans hc5).trans hc6⟩
end Go.Proofs.Ytdalibfgkkgcpaa
