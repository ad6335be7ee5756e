/- For every class, every int and every byte the law ClassTurned of chapter 5 returns true and leaves its arguments as they were; no condition. -/
import Derived.Test.YtdalibfgkkgcpaaGreatKDecL
import Derived.Test.YtdalibfgkkgcpaaGreatKEqR
namespace Go.Proofs.YtdalibfgkkgcpaaGreat
open Go.RowKit
set_option linter.unusedVariables false

theorem xor_bits (a b : Nat) (ha : a < 256) (hb : b < 256) : bits .xor .u8 (a : Int) (b : Int) = ((a ^^^ b : Nat) : Int) := by
  have hx : a ^^^ b < 2 ^ 8 := Nat.xor_lt_two_pow (by omega) (by omega)
  have h1 : (BitVec.ofInt 8 (a : Int)).toNat = a := by simp; omega
  have h2 : (BitVec.ofInt 8 (b : Int)).toNat = b := by simp; omega
  show IntKind.u8.wrap (((BitVec.ofInt 8 (a : Int)) ^^^ (BitVec.ofInt 8 (b : Int))).toNat : Int) = _
  rw [BitVec.toNat_xor, h1, h2]
  exact wrap_u8 (by omega)
theorem xor_zero (a b : Nat) : (a ^^^ b = a) ↔ b = 0 := by
  refine ⟨fun h => ?_, fun h => by rw [h, Nat.xor_zero]⟩
  have : a ^^^ (a ^^^ b) = b := by rw [← Nat.xor_assoc, Nat.xor_self, Nat.zero_xor]
  rw [h, Nat.xor_self] at this
  exact this.symm
/-- A row of one's own of which one byte is turned. -/
theorem own_set {w : World} {base : Nat} {ao : Option Addr} {n cp : Nat} {E : List Int} (h : w.ownsRow base 5 1 (.slice ao n cp) E.length (E.map (Value.int .u8))) {K : Nat} (hK : K < E.length) :
    ∃ g, ao = some ⟨g, 0, none⟩ ∧ n = E.length ∧ base ≤ g ∧ w.cell? ⟨g, K, none⟩ = some (.int .u8 (E.getD K 0)) ∧ w.frozen? ⟨g, K, none⟩ = false ∧ cp ≤ 9223372036854775807 ∧ E.length ≤ cp ∧ ∀ r, Rb (w.setCell ⟨g, K, none⟩ (.int .u8 r)) (.slice (some ⟨g, 0, none⟩) E.length cp) (E.set K r) := by
  rcases h.2 with ⟨hv, h0⟩ | ⟨g, cap, cur, hv, hb, hg, hc1, hc2, hc3, ht⟩
  · rw [h0] at hK; omega
  · obtain ⟨rfl, rfl, rfl⟩ : ao = some ⟨g, 0, none⟩ ∧ n = E.length ∧ cp = cap := by simpa using hv
    have hcell : ∀ i x, E[i]? = some x → cur[i]? = some (Value.int .u8 x) := fun i x hx => by
      have hi := (List.getElem?_eq_some_iff.1 hx).1
      have e1 : (cur.toList.take (E.length * 1))[i]? = some (.int .u8 x) := by rw [ht, List.getElem?_map, hx]; rfl
      rw [List.getElem?_take_of_lt (by omega)] at e1
      simpa using e1
    refine ⟨g, rfl, rfl, hb, ?_, by simp [World.frozen?, hg], by unfold maxLen at hc2; omega, hc1, fun r => Or.inr ⟨⟨g, 0, none⟩, cp, by rw [List.length_set], by rw [List.length_set]; exact hc1, by unfold maxLen at hc2; omega, fun _ => ⟨g, 0, rfl, fun i x hx => ?_⟩⟩⟩
    · have := hcell K (E.getD K 0) (by simp [List.getD, hK])
      simp only [World.cell?, hg]
      simpa using this
    · have hg2 : (w.setCell ⟨g, K, none⟩ (.int .u8 r)).heap[g]? = some (.cells (cur.setIfInBounds K (.int .u8 r)) 5) := by simp [World.setCell, Array.getElem?_modify, hg]
      have hKc : K < cur.size := by
        have := hcell K (E.getD K 0) (by simp [List.getD, hK])
        exact (Array.getElem?_eq_some_iff.1 this).1
      simp only [World.cell?, hg2, Nat.zero_add]
      by_cases e : i = K
      · subst e
        rw [List.getElem?_set_self hK] at hx
        have hx : r = x := by simpa using hx
        subst hx
        simp [hKc]
      · rw [List.getElem?_set_ne (fun q => e q.symm)] at hx
        rw [Array.getElem?_setIfInBounds_ne (fun q => e q.symm)]
        exact hcell i x hx
theorem set_same {E : List Int} {K : Nat} (hK : K < E.length) (r : Int) : E.set K r = E ↔ r = E.getD K 0 := by
  refine ⟨fun h => ?_, fun h => ?_⟩
  · have : (E.set K r)[K]? = E[K]? := by rw [h]
    rw [List.getElem?_set_self hK] at this
    simp [List.getD, ← this]
  · rw [h]
    simp [List.getD, hK]
theorem set_sm {E : List Int} (h : Sm E) (K : Nat) (r : Int) (hr : 0 ≤ r ∧ r < 256) : Sm (E.set K r) := fun x hx => by
  rcases List.mem_or_eq_of_mem_set hx with h1 | h1
  · exact h x h1
  · rw [h1]; exact hr

set_option maxRecDepth 100000 in
set_option maxHeartbeats 32000000 in
theorem classTurned_main (c : Cls) (vi vf vm : Value) (k : Int) (xb : Nat) (hxb : xb < 256) (w : World) (h : ClsAt w c vi vf vm) :
    Calls Tryz.prog 6 #[.agg #[.string c.n, .string c.s, .bool c.it, .bool c.ab, vi, vf, vm], .int .i64 k, .int .u8 (xb : Int)] w fun e w' => e = .returned (.bool true) ∧ Ch w w' := by
  have hcW : Ch w (w.alloc (.cells (clsC c vi vf vm) 26)) := (Ch.refl w).alloc _
  have HB : Hid (∀ w', Ch (w.alloc (.cells (clsC c vi vf vm) 26)) w' → _) := fun w' k => clsC_at (kept_at k (heap_alloc_new w (.cells (clsC c vi vf vm) 26)))
  have hta : ∀ w0, Ch (w.alloc (.cells (clsC c vi vf vm) 26)) w0 → _ := fun w0 k => clsT_any c vi vf vm w0 (h.keep (hcW.trans k))
  have HRN : Hid (∀ w0, Ch w w0 → clsT c ≤ 12000 → chkE c ≠ 0 → _) := fun w0 k hT h0 => refEncode_no c vi vf vm w0 (h.keep k) (fine_of c hT) _ rfl h0
  have HRO : Hid (∀ w0, Ch w w0 → clsT c ≤ 12000 → chkE c = 0 → _) := fun w0 k hT h0 => refEncode_ok c vi vf vm w0 (h.keep k) hT h0
  have HS1 : Hid (∀ (y : Cls) a b d w0, Ch w w0 → ClsAt w0 y a b d → _) := fun y a b d w0 k hy => sameC_any c y vi vf vm a b d w0 (h.keep k) hy
  have HS2 : Hid (∀ (y : Cls) a b d w0, Ch w w0 → ClsAt w0 y a b d → _) := fun y a b d w0 k hy => refSame_any c y vi vf vm a b d w0 (h.keep k) hy
  obtain ⟨a1, c1, rfl, _, _⟩ := h.1.form
  obtain ⟨a2, c2, rfl, hf1, hf2⟩ := h.2.1.form
  obtain ⟨a3, c3, rfl, hm1, hm2⟩ := h.2.2.form
  clear h
  generalize c.im.length = l1 at *
  generalize c.fs.length = l2 at *
  generalize c.me.length = l3 at *
  unfold clsC at *
  go_enter Tryz.func6, Tryz.ntmps6
  go_wp2_with (first
    | (go_at_call 7; (with_reducible refine (hta _ (Ch.refl _)).mono ?_); rintro e w3 ⟨⟨m1, rfl, p1⟩, hc3⟩; obtain ⟨z0, z1, z2, z3, z4, z5, z6⟩ := HB.out _ hc3)
    | (go_at_call 8; (with_reducible refine (awake_any _).mono ?_); rintro e w9 ⟨rfl, hc9⟩)
    | (go_at_call 10; fail)
    | fail)
  · go_ret
    exact ⟨rfl, hcW.trans (hc3.trans hc9)⟩
  · have hT : clsT c ≤ 12000 := p1.small (by omega)
    have hw3 := hcW.trans hc3
    clear hta p1
    by_cases hok : chkE c = 0
    · have hre := HRO.out w3 hw3 hT hok
      have hE4 := encB_pos c
      have hE9 := encB_len c hT hok
      have hEs := encB_sm c
      have HTU : Hid (∀ bs same, ((bs = encB c) ↔ same = true) → _) := fun bs same hh => turned_dec c hok hT bs same hh
      clear HRN HRO
      generalize encB c = E at *
      have hrb := rnd_bd k (E.length : Int) (by omega)
      have hrn := fun w0 => round_any k (E.length : Int) w0 (by omega) (by omega)
      generalize rnd k (E.length : Int) = K0 at *
      obtain ⟨K, rfl⟩ := Int.eq_ofNat_of_zero_le hrb.1
      have hKE : K < E.length := by omega
      have hb0 := hEs (E.getD K 0) (by simp [List.getD, hKE])
      have HOS : Hid (∀ (w4 : World) (ao : Option Addr) (n cp : Nat), w4.ownsRow w3.heap.size 5 1 (.slice ao n cp) E.length (E.map (Value.int .u8)) → _) := fun w4 ao n cp ho => own_set (K := K) ho hKE
      obtain ⟨bv, hbv⟩ := Int.eq_ofNat_of_zero_le hb0.1
      have hbl : bv < 256 := by omega
      have hxr := xor_bits bv xb hbl hxb
      have hxl : bv ^^^ xb < 2 ^ 8 := Nat.xor_lt_two_pow (by omega) (by omega)
      have hss := set_same hKE ((bv ^^^ xb : Nat) : Int)
      have hsm := set_sm hEs K ((bv ^^^ xb : Nat) : Int) (by omega)
      have hlen : (E.set K ((bv ^^^ xb : Nat) : Int)).length = E.length := List.length_set ..
      obtain ⟨same, hsame⟩ : ∃ b, (xb == 0) = b := ⟨_, rfl⟩
      have hiff : (E.set K ((bv ^^^ xb : Nat) : Int) = E) ↔ same = true := by
        rw [hss, hbv, ← hsame]
        constructor
        · intro q
          have q : bv ^^^ xb = bv := by omega
          simpa using (xor_zero bv xb).1 q
        · intro q
          have q : xb = 0 := by simpa using q
          rw [q, Nat.xor_zero]
      rw [hbv] at HOS
      generalize bv ^^^ xb = rv at *
      obtain ⟨ht1, ht2⟩ := HTU.out _ same hiff
      have hdl : (E.set K (rv : Int)).length ≤ 90000 := by omega
      have HD : Hid (∀ w0 v, Rb w0 v (E.set K (rv : Int)) → _) := fun w0 v hr => decode_any v (E.set K (rv : Int)) w0 hr hsm hdl
      have HFI : Hid ((decR (E.set K (rv : Int)) (cl 0)).2.e = 0 → _) := fun he => dec_fine (E.set K (rv : Int)) hsm hdl he
      have hiv := dec_iv (E.set K (rv : Int))
      have hbad := dec_bad (E.set K (rv : Int))
      have HCV : Hid (∀ w0 v, Rb w0 v (E.set K (rv : Int)) → _) := fun w0 v hr => row_string hr.row
      obtain ⟨⟨y, z⟩, eZ⟩ : ∃ q, decR (E.set K (rv : Int)) (cl 0) = q := ⟨_, rfl⟩
      rw [eZ] at ht1 ht2 HD HFI hiv hbad
      dsimp only at ht1 ht2 HD HFI hiv hbad
      have hzl := hiv.ea
      rw [hlen] at hzl
      clear HTU hss hsm hiff hrb hiv eZ hEs hb0 hbv hxl
      generalize hBS : E.set K (rv : Int) = BS at *
      have HBS : Hid (E.set K (rv : Int) = BS) := hBS
      clear hBS
      by_cases he : z.e = 0
      · obtain ⟨hy1, hy2, hy3⟩ := ht2 he
        have hF := HFI.out he
        have hA : encA y = BS := by unfold encA; rw [if_pos hy1, hy2]
        have HEN : Hid (∀ w0 a b d, ClsAt w0 y a b d → Calls Tryz.prog 9 #[.agg #[.string y.n, .string y.s, .bool y.it, .bool y.ab, a, b, d]] w0 fun e w' => ∃ v, e = .returned (.tuple #[v, .int .i64 0]) ∧ w'.ownsRow w0.heap.size 5 1 v BS.length (BS.map (Value.int .u8)) ∧ Ch w0 w') := fun w0 a b d hh => by
          have := encode_gen y a b d w0 hh hF
          rw [hA, hy1] at this
          exact this
        have HS1y : Hid (∀ a b d w0, Ch w w0 → ClsAt w0 y a b d → _) := fun a b d w0 k hh => HS1.out y a b d w0 k hh
        have HS2y : Hid (∀ a b d w0, Ch w w0 → ClsAt w0 y a b d → _) := fun a b d w0 k hh => HS2.out y a b d w0 k hh
        rw [hy3] at HS1y HS2y
        have hxn : ((xb : Int) == 0) = same := by rw [← hsame]; cases hq : (xb == 0) <;> simp at hq ⊢ <;> omega
        have hxm : ((xb : Int) != 0) = !same := by rw [← hxn]; rfl
        rw [he] at HD
        clear ht1 ht2 HFI hbad HS1 HS2 hy1 hy2 hy3 hF hA hok hT hsame
        generalize z.ea = za0 at *
        go_wp2_with (first
          | (go_at_call 10; (with_reducible refine hre.mono ?_); rintro e w4 ⟨v4, rfl, ho4, hc4⟩; obtain ⟨ao4, cp4, rfl⟩ := own_form ho4; obtain ⟨g4, rfl, _, hg4, hcell, hfz, hcp, hcp2, hset⟩ := HOS.out _ _ _ _ ho4; have hw4 := hw3.trans hc4; have hw4s := ch_set (b := g4) hw4 (Nat.le_trans hw3.size hg4) K (.int .u8 (rv : Int)); have hbx4 := ch_set (b := g4) (hc3.trans hc4) (Nat.le_trans hc3.size hg4) K (.int .u8 (rv : Int)); have hrb4 := hset (rv : Int); rw [HBS.out] at hrb4)
          | (go_at_call 20; (with_reducible refine (hrn _).mono ?_); rintro e w0 ⟨rfl, hw⟩; have hw := hw.symm; subst hw)
          | (go_at_call 16; (with_reducible refine (HD.out _ _ hrb4).mono ?_); rintro e w5 ⟨xi, xf, xm, rfl, hX, hc5⟩; obtain ⟨xa, xc, rfl, _, _⟩ := hX.1.form; obtain ⟨ya, yc, rfl, _, _⟩ := hX.2.1.form; obtain ⟨wa, wc, rfl, _, _⟩ := hX.2.2.form; have hw5 := hw4s.trans hc5; have hbx5 := hbx4.trans hc5; have hrb5 := hrb4.keep hc5)
          | (refine wpList_store_row rfl 26 (.tmp 9) (.tmp 44) rfl w5.heap.size #[.string y.n, .string y.s, .bool y.it, .bool y.ab, .slice xa y.im.length xc, .slice ya y.fs.length yc, .slice wa y.me.length wc] rfl rfl 26 z26 (heap_alloc_new _ _) info26' rfl (one7 _ _ _ _ _ _ _ _ _ _ _ _ _) ?_; rw [setRow_alloc]; have hb6 : (w5.alloc (.cells #[.string y.n, .string y.s, .bool y.it, .bool y.ab, .slice xa y.im.length xc, .slice ya y.fs.length yc, .slice wa y.me.length wc] 26)).heap[w5.heap.size]? = some (.cells #[.string y.n, .string y.s, .bool y.it, .bool y.ab, .slice xa y.im.length xc, .slice ya y.fs.length yc, .slice wa y.me.length wc] 26) := heap_alloc_new _ _; have HB6 : Hid (∀ w', Ch (w5.alloc (.cells #[.string y.n, .string y.s, .bool y.it, .bool y.ab, .slice xa y.im.length xc, .slice ya y.fs.length yc, .slice wa y.me.length wc] 26)) w' → _) := (fun w_ k => clsC_at (c := y) (kept_at k hb6)); have hc56 : Ch w5 (w5.alloc (.cells #[.string y.n, .string y.s, .bool y.it, .bool y.ab, .slice xa y.im.length xc, .slice ya y.fs.length yc, .slice wa y.me.length wc] 26)) := (Ch.refl w5).alloc _; have hw6 := hw5.trans hc56; have hbx6 := hbx5.trans hc56; have hX6 := hX.keep hc56; obtain ⟨y0, y1, y2, y3, y4, y5, y6⟩ := HB6.out _ (Ch.refl _); have hrb6 := hrb5.keep hc56)
          | (go_at_call 9; (with_reducible refine (HEN.out _ _ _ _ hX6).mono ?_); rintro e w8 ⟨v8, rfl, ho8, hc8⟩; obtain ⟨a8, c8, rfl⟩ := own_form ho8; have hw8 := hw6.trans hc8; have hcbox := hbx6.trans hc8)
          | fail)
        have hC8 : Ch (w5.alloc (.cells #[.string y.n, .string y.s, .bool y.it, .bool y.ab, .slice xa y.im.length xc, .slice ya y.fs.length yc, .slice wa y.me.length wc] 26)) w8 := hc8
        have hcz : Ch (w.alloc (.cells #[.string c.n, .string c.s, .bool c.it, .bool c.ab, .slice a1 l1 c1, .slice a2 l2 c2, .slice a3 l3 c3] 26)) w8 := hcbox
        have HS : Hid (∀ w', Ch w8 w' → w'.cell? ⟨w.heap.size, 0, none⟩ = some (.string c.n) ∧ w'.cell? ⟨w.heap.size, 1, none⟩ = some (.string c.s) ∧ w'.cell? ⟨w.heap.size, 2, none⟩ = some (.bool c.it) ∧ w'.cell? ⟨w.heap.size, 3, none⟩ = some (.bool c.ab) ∧ w'.cell? ⟨w.heap.size, 4, none⟩ = some (.slice a1 l1 c1) ∧ w'.cell? ⟨w.heap.size, 5, none⟩ = some (.slice a2 l2 c2) ∧ w'.cell? ⟨w.heap.size, 6, none⟩ = some (.slice a3 l3 c3) ∧ w'.cell? ⟨w5.heap.size, 0, none⟩ = some (.string y.n) ∧ w'.cell? ⟨w5.heap.size, 1, none⟩ = some (.string y.s) ∧ w'.cell? ⟨w5.heap.size, 2, none⟩ = some (.bool y.it) ∧ w'.cell? ⟨w5.heap.size, 3, none⟩ = some (.bool y.ab) ∧ w'.cell? ⟨w5.heap.size, 4, none⟩ = some (.slice xa y.im.length xc) ∧ w'.cell? ⟨w5.heap.size, 5, none⟩ = some (.slice ya y.fs.length yc) ∧ w'.cell? ⟨w5.heap.size, 6, none⟩ = some (.slice wa y.me.length wc) ∧ (convert 29 9 (.slice a8 E.length c8)).run Tryz.prog w' = .ok (.string (strOfNums BS)) w' ∧ (convert 29 9 (.slice (some ⟨g4, 0, none⟩) E.length cp4)).run Tryz.prog w' = .ok (.string (strOfNums BS)) w') := fun w' k => by
          obtain ⟨y0, y1, y2, y3, y4, y5, y6⟩ := HB.out w' (hcz.trans k)
          obtain ⟨t0, t1, t2, t3, t4, t5, t6⟩ := HB6.out w' (hC8.trans k)
          exact ⟨y0, y1, y2, y3, y4, y5, y6, t0, t1, t2, t3, t4, t5, t6, (by have q := row_string (rb_own (ownsRow_keep ho8 k)).row; rw [hlen] at q; exact q), HCV.out w' _ (hrb6.keep (hC8.trans k))⟩
        have hy8 : ∀ w0, Ch w8 w0 → _ := fun w0 k => HS1y.out _ _ _ w0 (hw8.trans k) (hX6.keep (hC8.trans k))
        have hz8 : ∀ w0, Ch w8 w0 → _ := fun w0 k => HS2y.out _ _ _ w0 (hw8.trans k) (hX6.keep (hC8.trans k))
        have hdd := HS.out w8.drew (Ch.refl w8).drew
        clear HS1y HS2y HB HB6 HCV HEN HOS HBS HD hrb4 hrb5 hrb6 hX hX6 ho8 hc8 hb6 hset hcell hfz
        generalize strOfNums BS = TT at *
        go_region_held3 (fun w' => w'.cell? ⟨w.heap.size, 0, none⟩ = some (.string c.n) ∧ w'.cell? ⟨w.heap.size, 1, none⟩ = some (.string c.s) ∧ w'.cell? ⟨w.heap.size, 2, none⟩ = some (.bool c.it) ∧ w'.cell? ⟨w.heap.size, 3, none⟩ = some (.bool c.ab) ∧ w'.cell? ⟨w.heap.size, 4, none⟩ = some (.slice a1 l1 c1) ∧ w'.cell? ⟨w.heap.size, 5, none⟩ = some (.slice a2 l2 c2) ∧ w'.cell? ⟨w.heap.size, 6, none⟩ = some (.slice a3 l3 c3) ∧ w'.cell? ⟨w5.heap.size, 0, none⟩ = some (.string y.n) ∧ w'.cell? ⟨w5.heap.size, 1, none⟩ = some (.string y.s) ∧ w'.cell? ⟨w5.heap.size, 2, none⟩ = some (.bool y.it) ∧ w'.cell? ⟨w5.heap.size, 3, none⟩ = some (.bool y.ab) ∧ w'.cell? ⟨w5.heap.size, 4, none⟩ = some (.slice xa y.im.length xc) ∧ w'.cell? ⟨w5.heap.size, 5, none⟩ = some (.slice ya y.fs.length yc) ∧ w'.cell? ⟨w5.heap.size, 6, none⟩ = some (.slice wa y.me.length wc) ∧ (convert 29 9 (.slice a8 E.length c8)).run Tryz.prog w' = .ok (.string TT) w' ∧ (convert 29 9 (.slice (some ⟨g4, 0, none⟩) E.length cp4)).run Tryz.prog w' = .ok (.string TT) w') (first | assumption | (refine HS.out _ ?_; repeat (first | exact Ch.refl _ | refine Ch.drew ?_ | refine Ch.alloc ?_ _ | refine Ch.trans ?_ (by assumption))) | fail) (first
          | (go_at_call 18; (with_reducible refine (hy8 _ (Ch.refl w8).drew).mono ?_); rintro e w9 ⟨rfl, hc9⟩; have hC9 := (Ch.refl w8).drew.trans hc9; have hS9 := HS.out w9 hC9)
          | (go_at_call 17; (with_reducible refine (hz8 _ hC9).mono ?_); rintro e w10 ⟨rfl, hc10⟩; have hC10 := hC9.trans hc10; have hS10 := HS.out w10 hC10)
          | (go_at_call 18; (with_reducible refine (hy8 _ hC10).mono ?_); rintro e w11 ⟨rfl, hc11⟩; have hC11 := hC10.trans hc11; have hS11 := HS.out w11 hC11)
          | (go_at_call 8; (with_reducible refine (awake_any _).mono ?_); rintro e w12 ⟨rfl, hc12⟩; have hC12 := hC11.trans hc12; have hS12 := HS.out w12 hC12)
          | fail)
        go_wp2
        go_ret
        exact ⟨rfl, hw8.trans hC12⟩
      · have hsf := ht1 he
        subst hsf
        have hxm : ((xb : Int) != 0) = true := by simp at hsame ⊢; omega
        have hyn := hbad he
        subst hyn
        have q1 : (z.e == 0) = false := by simpa using he
        have q2 : (z.e != 0) = true := by simpa using he
        have q4 : decide ((0 : Int) ≤ (z.ea : Int)) = true := by simp
        clear ht1 ht2 HFI hbad HS1 HS2 hok hT hsame HCV
        generalize z.e = ze at *
        generalize z.ea = za0 at *
        clear he
        unfold noC at HD
        dsimp only at HD
        go_wp2_with (first
          | (go_at_call 10; (with_reducible refine hre.mono ?_); rintro e w4 ⟨v4, rfl, ho4, hc4⟩; obtain ⟨ao4, cp4, rfl⟩ := own_form ho4; obtain ⟨g4, rfl, _, hg4, hcell, hfz, hcp, hcp2, hset⟩ := HOS.out _ _ _ _ ho4; have hw4 := hw3.trans hc4; have hw4s := ch_set (b := g4) hw4 (Nat.le_trans hw3.size hg4) K (.int .u8 (rv : Int)); have hrb4 := hset (rv : Int); rw [HBS.out] at hrb4)
          | (go_at_call 20; (with_reducible refine (hrn _).mono ?_); rintro e w0 ⟨rfl, hw⟩; have hw := hw.symm; subst hw)
          | (go_at_call 16; (with_reducible refine (HD.out _ _ hrb4).mono ?_); rintro e w5 ⟨xi, xf, xm, rfl, hX, hc5⟩; obtain ⟨xa, xc, rfl, _, _⟩ := hX.1.form; obtain ⟨ya, yc, rfl, _, _⟩ := hX.2.1.form; obtain ⟨wa, wc, rfl, _, _⟩ := hX.2.2.form; have hw5 := hw4s.trans hc5)
          | (refine wpList_store_row rfl 26 (.tmp 9) (.tmp 44) rfl w5.heap.size #[.string ⟨#[]⟩, .string ⟨#[]⟩, .bool false, .bool false, .slice xa 0 xc, .slice ya 0 yc, .slice wa 0 wc] rfl rfl 26 z26 (heap_alloc_new _ _) info26' rfl (one7 _ _ _ _ _ _ _ _ _ _ _ _ _) ?_; rw [setRow_alloc]; have hw6 := hw5.alloc (.cells #[.string ⟨#[]⟩, .string ⟨#[]⟩, .bool false, .bool false, .slice xa 0 xc, .slice ya 0 yc, .slice wa 0 wc] 26))
          | (go_at_call 8; (with_reducible refine (awake_any _).mono ?_); rintro e w9 ⟨rfl, hc9⟩; have hwZ := hw6.trans hc9)
          | fail)
        go_ret
        exact ⟨rfl, hwZ⟩
    · have hre := HRN.out w3 hw3 hT hok
      have q9 : (chkE c == 0) = false := by simpa using hok
      have q8 : (chkE c != 0) = true := by simpa using hok
      generalize chkE c = ce at *
      clear HRO HRN hok
      go_wp2_with (first
        | (go_at_call 10; (with_reducible refine hre.mono ?_); rintro e w4 ⟨rfl, hc4⟩)
        | (go_at_call 8; (with_reducible refine (awake_any _).mono ?_); rintro e w9 ⟨rfl, hc9⟩)
        | fail)
      go_ret
      exact ⟨rfl, hw3.trans (hc4.trans hc9)⟩
end Go.Proofs.YtdalibfgkkgcpaaGreat
