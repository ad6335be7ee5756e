/- The walk of the law ClassLimits: many fields. -/
import Derived.Test.YtdalibfgkkgcpaaLimB
namespace Go.Proofs.Ytdalibfgkkgcpaa
open Go.RowKit
set_option linter.unusedVariables false

/-- A number from 0 to ahead of n. -/
def rnd (k n : Int) : Int := k % n
theorem tmod_emod (k n : Int) : k % n = (k.tmod n) % n := by
  have h := Int.tmod_add_mul_tdiv k n
  have e : k % n = (k.tmod n + n * k.tdiv n) % n := by rw [h]
  rw [e, Int.add_mul_emod_self_left]
theorem rnd_lo (k n : Int) (hn : 0 < n) (h : k.tmod n < 0) : k.tmod n + n = rnd k n := by
  have h3 := Int.lt_tmod_of_pos k hn
  rw [rnd, tmod_emod, ← Int.add_emod_right, Int.emod_eq_of_lt (by omega) (by omega)]
theorem rnd_hi (k n : Int) (hn : 0 < n) (h : 0 ≤ k.tmod n) : k.tmod n = rnd k n := by
  have h3 := Int.tmod_lt_of_pos k hn
  rw [rnd, tmod_emod, Int.emod_eq_of_lt (by omega) (by omega)]
theorem round_any (k n : Int) (w : World) (hn : 0 < n) (hn2 : n ≤ 140737488355329) :
    Calls Try.prog 10 #[.int .i64 k, .int .i64 n] w fun e w' => e = .returned (.int .i64 (rnd k n)) ∧ w' = w := by
  have hn0 : (n == 0) = false := by simp; omega
  have h1 := Int.tmod_lt_of_pos k hn
  have h3 := Int.lt_tmod_of_pos k hn
  go_enter Try.func10, Try.ntmps10
  go_wp2
  · go_ret
    exact ⟨congrArg (fun x => Ending.returned (.int .i64 x)) (rnd_lo k n hn ‹_›), rfl⟩
  · go_ret
    exact ⟨congrArg (fun x => Ending.returned (.int .i64 x)) (rnd_hi k n hn ‹_›), rfl⟩
theorem round_six {k r : Int} (h : rnd k 6 = r) (w : World) : Calls Try.prog 10 #[.int .i64 k, .int .i64 6] w fun e w' => e = .returned (.int .i64 r) ∧ w' = w := by
  have := round_any k 6 w (by omega) (by omega)
  rwa [h] at this

def codeC : Array Value := #[.int .i64 36, .int .i64 0, .int .i64 0, .string ⟨#[]⟩, .string ⟨#[]⟩, .string ⟨#[]⟩]
def methC (vc : Value) : Array Value := #[.string ⟨#[109]⟩, .string ⟨#[40, 41, 86]⟩, .bool true, .bool false, .int .i64 0, .int .i64 0, vc, .slice none 0 0]
def limW (w : World) : World := ((w.alloc (.cells codeC 32)).alloc (.cells (methC (.slice (some ⟨w.heap.size, 0, none⟩) 1 1)) 36)).alloc (.cells (leastC nA nO) 26)

theorem box_mid {w3 wr : World} {G base n : Nat} {cs : Array Value} {e t : TypeId} {k : Nat} {v : Value} {xs : List Value} {o : Obj} (hb : wr.heap[G]? = some (.cells cs t)) (ho : wr.ownsRow base e k v n xs) (het : e ≠ t) (hg : (wr.alloc o).grownBy w3 v.ownBlock) : w3.heap[G]? = some (.cells cs t) := by
  have hl := (Array.getElem?_eq_some_iff.1 hb).1
  refine (hg.block G (by simp; omega) (fun e' => ?_)).trans ((Below.heap_alloc _ _ _ hl).trans hb)
  obtain ⟨_, cur, hc⟩ := own_obj ho e'.symm
  rw [hb] at hc
  simp at hc
  exact het hc.2.symm
theorem box_cell {w : World} {G i : Nat} {cs : Array Value} {t : TypeId} {v : Value} (hb : w.heap[G]? = some (.cells cs t)) (hi : cs[i]? = some v) : w.cell? ⟨G, i, none⟩ = some v := by simp [World.cell?, hb, hi]
theorem box_fz {w : World} {G i : Nat} {cs : Array Value} {t : TypeId} (hb : w.heap[G]? = some (.cells cs t)) : w.frozen? ⟨G, i, none⟩ = false := by simp [World.frozen?, hb]
theorem box_set {w : World} {G i : Nat} {cs : Array Value} {t : TypeId} {v : Value} (hb : w.heap[G]? = some (.cells cs t)) : (w.setCell ⟨G, i, none⟩ v).heap[G]? = some (.cells (cs.setIfInBounds i v) t) := by simp [World.setCell, Array.getElem?_modify, hb]
theorem own_set {w : World} {G i base n : Nat} {cs : Array Value} {e t : TypeId} {k : Nat} {v u : Value} {xs : List Value} (hb : w.heap[G]? = some (.cells cs t)) (ho : w.ownsRow base e k v n xs) (het : e ≠ t) : (w.setCell ⟨G, i, none⟩ u).ownsRow base e k v n xs :=
  ownsRow_same ho (fun g hg => Below.heap_setCell _ _ _ _ (fun e' => by
    obtain ⟨_, cur, hc⟩ := own_obj ho hg
    have e'' : g = G := e'
    subst e''
    rw [hb] at hc
    simp at hc
    exact het hc.2.symm))
theorem Ch.setCell {a b : World} (h : Ch a b) {G i : Nat} (hG : a.heap.size ≤ G) (v : Value) : Ch a (b.setCell ⟨G, i, none⟩ v) := h.grown (grown_setCell _ _ _ _) (fun k hk => by have : G = k := by simpa using hk
                                                                                                                                                                                  omega)
theorem Ch.ownK {a b c : World} {v : Value} {n k : Nat} {e : TypeId} {xs : List Value} {base : Nat} (h : Ch a b) (ho : b.ownsRow base e k v n xs) (hb : a.heap.size ≤ base) (hg : b.grownBy c v.ownBlock) : Ch a c :=
  h.grown hg (fun g hk => Nat.le_trans hb (own_obj ho hk).1)

set_option maxRecDepth 100000 in
set_option maxHeartbeats 8000000 in
theorem lim_fields (what : Int) (n : Nat) (w : World) (hr : rnd what 6 = 0) (h2 : n + 1 ≤ 220) : Calls Try.prog 4 #[.int .i64 what, .int .i64 ((n : Int) + 1)] w fun e w' => e = .returned (.bool true) ∧ Ch w w' := by
  have hrd := round_six hr
  clear hr
  have t1 : decide (((n : Int) + 1) < 1) = false := by simp; omega
  have t2 : decide ((220 : Int) < ((n : Int) + 1)) = false := by simp; omega
  go_enter Try.func4, Try.ntmps4
  go_wp2_with (first
    | (go_at_call 10; (with_reducible refine (hrd _).mono ?_); rintro e w2 ⟨rfl, hx⟩; have hx := hx.symm; subst hx))
  have hW0 : (limW w).heap[w.heap.size + 1 + 1]? = some (.cells #[.string nA, .string nO, .bool false, .bool false, .slice none 0 0, .slice none 0 0, .slice none 0 0] 26) := by
    unfold limW
    have e : w.heap.size + 1 + 1 = ((w.alloc (.cells codeC 32)).alloc (.cells (methC (.slice (some ⟨w.heap.size, 0, none⟩) 1 1)) 36)).heap.size := by simp
    rw [e]
    exact heap_alloc_new _ _
  have hC0 : Ch w (limW w) := (((Ch.refl w).alloc _).alloc _).alloc _
  unfold limW codeC methC leastC at hW0 hC0
  go_loopw [8] (fun i wr => ∃ (k : Nat) (v : Value), k ≤ n + 1 ∧ i = .int .i64 k ∧ wr.heap[w.heap.size + 1 + 1]? = some (.cells #[.string nA, .string nO, .bool false, .bool false, .slice none 0 0, v, .slice none 0 0] 26) ∧ wr.ownsRow w.heap.size 39 3 v (List.replicate k lF).length ((List.replicate k lF).flatMap fldL) ∧ Ch w wr) (fun i _ => n + 1 - (intOf i).toNat)
  case atStart => exact ⟨0, .slice none 0 0, Nat.zero_le _, rfl, hW0, World.ownsRow_nil _ _ _ _, hC0⟩
  case round =>
    clear hW0 hC0 hrd
    obtain ⟨k, v, hk, rfl, hb, ho, hc⟩ := hrel
    have c5 := box_cell (i := 5) hb rfl
    by_cases hlt : k < n + 1
    · have hls : (List.replicate k lF).length ≤ 1000 := by simp; omega
      have hlt' : (k : Int) < (n : Int) + 1 := by omega
      have HB : Hid (wr.heap[w.heap.size + 1 + 1]? = some (.cells #[.string nA, .string nO, .bool false, .bool false, .slice none 0 0, v, .slice none 0 0] 26)) := hb
      have hlb : w.heap.size + 1 + 1 < wr.heap.size := (Array.getElem?_eq_some_iff.1 hb).1
      clear hb
      go_wp2_with (first
        | (at_builtin; refine wpList_append_one rfl (.tmp 33) (.tmp 35) 23 39 _ 3 40 inf39 Try.underlying23 rfl (by omega) (by omega) rfl w.heap.size fldL (fun _ => rfl) v (List.replicate k lF) lF rfl (ownsRow_keep ho ((Ch.refl _).alloc _)) wr.heap.size 1 rfl (heap_alloc_new _ _) (fun u hu => by simp [fldL] at hu; rcases hu with rfl | rfl | rfl <;> rfl) hls (by simp; omega) ?_; intro v' w3 ho3 hg3; obtain ⟨ao, c, rfl⟩ := own_form ho3; have hm3 := box_mid HB.out ho (by decide) hg3; have d5 := box_cell (i := 5) hm3 rfl; have f5 := box_fz (i := 5) hm3))
      have hla : (List.replicate k lF ++ [lF]).length = k + 1 := by simp
      rw [rep_snoc] at ho3
      go_roundw
      case rel => exact ⟨k + 1, _, by omega, by go_num, by simpa [hla] using box_set (i := 5) hm3, own_set hm3 (by simpa using ho3) (by decide), ((hc.alloc _).ownK (ownsRow_keep ho ((Ch.refl _).alloc _)) (Nat.le_refl _) hg3).setCell (by omega) _⟩
      case measure => simp [intOf]; omega
    · obtain rfl : k = n + 1 := by omega
      have hS : Sl 3 RF wr v (List.replicate (n + 1) lF) := sl_ownK fldL (fun _ => rfl) (fun _ _ => rfl) ho
      have hA : ClsAt wr (lC (List.replicate (n + 1) lF) []) (.slice none 0 0) v (.slice none 0 0) := ⟨nilSl _ _ _, hS, nilSl _ _ _⟩
      have hF : Fine (lC (List.replicate (n + 1) lF) []) := lC_fine _ _ (fun f hf => List.eq_of_mem_replicate hf) (fun m hm => (by cases hm)) (by
        have : (clsX (lC (List.replicate (n + 1) lF) [])).length = 2 + (n + 1) * 2 := by
          show ([bl nA, bl nO] ++ (([] : List ByteArray).map bl ++ ((List.replicate (n + 1) lF).flatMap fldX ++ ([] : List Mth).flatMap mthX))).length = _
          simp only [List.length_append, rep_flat_len]
          simp [fldX]
        omega)
      obtain ⟨ao, cv, hv⟩ := own_form ho
      rw [List.length_replicate] at hv
      subst hv
      have HCK : Hid (∀ w0, Ch wr w0 → Calls Try.prog 11 #[.agg #[.string nA, .string nO, .bool false, .bool false, .slice none 0 0, .slice ao (n + 1) cv, .slice none 0 0]] w0 fun e w' => e = .returned (.int .i64 (if n + 1 ≤ 20 then 0 else 5)) ∧ Ch w0 w') := fun w0 k => by
        have := check_cls (lC (List.replicate (n + 1) lF) []) (.slice none 0 0) (.slice ao (n + 1) cv) (.slice none 0 0) w0 (hA.keep k) hF
        rw [chk_fields n] at this
        exact this
      have c0 := box_cell (i := 0) hb rfl
      have c1 := box_cell (i := 1) hb rfl
      have c2 := box_cell (i := 2) hb rfl
      have c3 := box_cell (i := 3) hb rfl
      have c4 := box_cell (i := 4) hb rfl
      have c6 := box_cell (i := 6) hb rfl
      clear hA hS hF ho hb hlt hk
      by_cases h20 : n + 1 ≤ 20
      · have hck := HCK.out
        rw [if_pos h20] at hck
        have h20' : (n : Int) + 1 ≤ 20 := by omega
        go_wp2_with (first
          | (go_at_call 11; (with_reducible refine (hck _ (Ch.refl _)).mono ?_); rintro e w5 ⟨rfl, hc5⟩)
          | (go_at_call 7; (with_reducible refine (awake_any _).mono ?_); rintro e w6 ⟨rfl, hc6⟩))
        go_ret
        exact ⟨rfl, (hc.trans hc5).trans hc6⟩
      · have hck := HCK.out
        rw [if_neg h20] at hck
        have h20' : (20 : Int) < (n : Int) + 1 := by omega
        go_wp2_with (first
          | (go_at_call 11; (with_reducible refine (hck _ (Ch.refl _)).mono ?_); rintro e w5 ⟨rfl, hc5⟩)
          | (go_at_call 7; (with_reducible refine (awake_any _).mono ?_); rintro e w6 ⟨rfl, hc6⟩))
        go_ret
        exact ⟨rfl, (hc.trans hc5).trans hc6⟩
end Go.Proofs.Ytdalibfgkkgcpaa
