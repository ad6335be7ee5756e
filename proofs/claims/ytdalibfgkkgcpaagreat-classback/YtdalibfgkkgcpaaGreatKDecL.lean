/- The walk of the law ClassReads. -/
import Derived.Test.YtdalibfgkkgcpaaGreatKDecJ
import Derived.Test.YtdalibfgkkgcpaaGreatKDecK
import Derived.Test.YtdalibfgkkgcpaaGreatKRowW
namespace Go.Proofs.YtdalibfgkkgcpaaGreat
open Go.RowKit
set_option linter.unusedVariables false

def rnd (k n : Int) : Int := k % n
theorem tmod_emod (k n : Int) : k % n = (k.tmod n) % n := by
  have h := Int.tmod_add_mul_tdiv k n
  have e : k % n = (k.tmod n + n * k.tdiv n) % n := by rw [h]
  rw [e, Int.add_mul_emod_self_left]
theorem rnd_lo (k n : Int) (hn : 0 < n) (h : k.tmod n < 0) : k.tmod n + n = rnd k n := by
  have h3 := Int.lt_tmod_of_pos k hn
  rw [rnd, tmod_emod, ← Int.add_emod_right, Int.emod_eq_of_lt (by omega) (by omega)]
theorem rnd_hi (k n : Int) (hn : 0 < n) (h : 0 ≤ k.tmod n) : k.tmod n = rnd k n := by
  have h3 := Int.tmod_lt_of_pos k hn
  rw [rnd, tmod_emod, Int.emod_eq_of_lt (by omega) (by omega)]
theorem rnd_bd (k n : Int) (hn : 0 < n) : 0 ≤ rnd k n ∧ rnd k n < n := ⟨Int.emod_nonneg _ (by omega), Int.emod_lt_of_pos _ hn⟩
theorem round_any (k n : Int) (w : World) (hn : 0 < n) (hn2 : n ≤ 140737488355329) :
    Calls Tryz.prog 20 #[.int .i64 k, .int .i64 n] w fun e w' => e = .returned (.int .i64 (rnd k n)) ∧ w' = w := by
  have hn0 : (n == 0) = false := by simp; omega
  have h1 := Int.tmod_lt_of_pos k hn
  have h3 := Int.lt_tmod_of_pos k hn
  go_enter Tryz.func20, Tryz.ntmps20
  go_wp2
  · go_ret
    exact ⟨congrArg (fun x => Ending.returned (.int .i64 x)) (rnd_lo k n hn ‹_›), rfl⟩
  · go_ret
    exact ⟨congrArg (fun x => Ending.returned (.int .i64 x)) (rnd_hi k n hn ‹_›), rfl⟩
theorem encF_no : EncF noC := encF_small (by decide)
theorem dec_fine (bs : List Int) (hs : Sm bs) (hl : bs.length ≤ 90000) (he : (decR bs (cl 0)).2.e = 0) : EncF (decR bs (cl 0)).1 := by
  rw [(dec_ok bs he).1]
  obtain ⟨⟨m, s1⟩, e1⟩ : ∃ q, iR bs (cl 0) = q := ⟨_, rfl⟩
  obtain ⟨⟨P, s2⟩, e2⟩ : ∃ q, listR 500 rtxR bs s1 = q := ⟨_, rfl⟩
  unfold preR bd
  rw [e1]
  dsimp only
  split
  · show EncF (fb noC (clsR (listR 500 rtxR bs s1).1) bs (listR 500 rtxR bs s1).2).1
    rw [e2]
    dsimp only
    unfold fb
    split
    · exact encF_no
    · have hP : ∀ t ∈ P, t.size ≤ 65535 := by
        have := listR_all (r := rtxR) (bs := bs) 500 (fun t : ByteArray => t.size ≤ 65535) (fun s0 => rtxR_size bs hs s0) s1
        rw [e2] at this
        exact this
      have hiv : Iv False bs.length s1 := by
        have := Kps.iR' (p := 0) False bs (cl 0) (Nat.zero_le _) ⟨Nat.zero_le _, Nat.zero_le _, Or.inl rfl, False.elim⟩
        rw [e1] at this; exact this
      have hw := pool_wt bs 500 s1 hiv
      rw [e2] at hw
      exact encF_read (P := P) bs (sy s2) hP (Nat.le_trans hw hl)
  · exact encF_no
theorem cls0_at {w : World} {g : Nat} {vi vf vm : Value} {t : TypeId} (h : w.heap[g]? = some (.cells #[.string ⟨#[]⟩, .string ⟨#[]⟩, .bool false, .bool false, vi, vf, vm] t)) :
    w.cell? ⟨g, 0, none⟩ = some (.string ⟨#[]⟩) ∧ w.cell? ⟨g, 1, none⟩ = some (.string ⟨#[]⟩) ∧ w.cell? ⟨g, 2, none⟩ = some (.bool false) ∧ w.cell? ⟨g, 3, none⟩ = some (.bool false) ∧ w.cell? ⟨g, 4, none⟩ = some vi ∧ w.cell? ⟨g, 5, none⟩ = some vf ∧ w.cell? ⟨g, 6, none⟩ = some vm := by
  refine ⟨?_, ?_, ?_, ?_, ?_, ?_, ?_⟩ <;> simp [World.cell?, h]
theorem one7 (a b : ByteArray) (c d : Bool) (p q r : Option Addr) (l1 c1 l2 c2 l3 c3 : Nat) : (#[Value.string a, .string b, .bool c, .bool d, .slice p l1 c1, .slice q l2 c2, .slice r l3 c3].all (·.oneCell')) = true := by kernel_rfl
theorem rb_take {w : World} {base : Nat} {ao : Option Addr} {L cb : Nat} {bs : List Int} (h : w.ownsRow base 5 1 (.slice ao L cb) bs.length (bs.map (Value.int .u8))) (k : Nat) (hk : k ≤ bs.length) (h0 : 0 < bs.length) : Rb w (.slice ao k cb) (bs.take k) := by
  rcases rb_own h with ⟨_, hn⟩ | ⟨a, cap, hv, h1, h2, hc⟩
  · rw [hn] at h0; simp at h0
  · obtain ⟨rfl, _, rfl⟩ : ao = some a ∧ L = bs.length ∧ cb = cap := by simpa using hv
    obtain ⟨g, off, rfl, hc'⟩ := hc h0
    refine Or.inr ⟨⟨g, off, none⟩, cb, by rw [List.length_take, Nat.min_eq_left hk], by rw [List.length_take]; omega, h2, fun _ => ⟨g, off, rfl, fun i x hx => hc' i x ?_⟩⟩
    have hik : i < k := by
      have := (List.getElem?_eq_some_iff.1 hx).1
      rw [List.length_take] at this; omega
    rwa [List.getElem?_take_of_lt hik] at hx

set_option maxRecDepth 100000 in
set_option maxHeartbeats 32000000 in
theorem classReads_main (u : Value) (bs : List Int) (c : Cls) (vi vf vm : Value) (k : Int) (w : World) (hu : Rb w u bs) (hs : Sm bs) (h : ClsAt w c vi vf vm) :
    Calls Tryz.prog 5 #[u, .agg #[.string c.n, .string c.s, .bool c.it, .bool c.ab, vi, vf, vm], .int .i64 k] w fun e w' => e = .returned (.bool true) ∧ Ch w w' := by
  have hcW : Ch w (w.alloc (.cells (clsC c vi vf vm) 26)) := (Ch.refl w).alloc _
  have HB : Hid (∀ w', Ch (w.alloc (.cells (clsC c vi vf vm) 26)) w' → _) := fun w' k => clsC_at (kept_at k (heap_alloc_new w (.cells (clsC c vi vf vm) 26)))
  have hta : ∀ w0, Ch (w.alloc (.cells (clsC c vi vf vm) 26)) w0 → _ := fun w0 k => clsT_any c vi vf vm w0 (h.keep (hcW.trans k))
  have HRN : Hid (∀ w0, Ch w w0 → clsT c ≤ 12000 → chkE c ≠ 0 → _) := fun w0 k hT h0 => refEncode_no c vi vf vm w0 (h.keep k) (fine_of c hT) _ rfl h0
  have HRO : Hid (∀ w0, Ch w w0 → clsT c ≤ 12000 → chkE c = 0 → _) := fun w0 k hT h0 => refEncode_ok c vi vf vm w0 (h.keep k) hT h0
  have HD1 : Hid (∀ w0, Ch w w0 → bs.length ≤ 90000 → _) := fun w0 k hl => decode_any u bs w0 (hu.keep k) hs hl
  have HUS : Hid (∀ w0, Ch w w0 → _) := fun w0 k => row_string (hu.keep k).row
  have HFI : Hid (bs.length ≤ 90000 → (decR bs (cl 0)).2.e = 0 → EncF (decR bs (cl 0)).1) := fun hl he => dec_fine bs hs hl he
  obtain ⟨a1, c1, rfl, _, _⟩ := h.1.form
  obtain ⟨a2, c2, rfl, hf1, hf2⟩ := h.2.1.form
  obtain ⟨a3, c3, rfl, hm1, hm2⟩ := h.2.2.form
  obtain ⟨au, cu, rfl, hu1, hu2⟩ := hu.form
  clear h hu hs
  generalize c.im.length = l1 at *
  generalize c.fs.length = l2 at *
  generalize c.me.length = l3 at *
  unfold clsC at *
  by_cases hl : bs.length ≤ 3000
  · have t0 : decide (3000 < (bs.length : Int)) = false := by simp; omega
    go_enter Tryz.func5, Tryz.ntmps5
    go_wp2_with (first
      | (go_at_call 7; (with_reducible refine (hta _ (Ch.refl _)).mono ?_); rintro e w3 ⟨⟨m1, rfl, p1⟩, hc3⟩; obtain ⟨z0, z1, z2, z3, z4, z5, z6⟩ := HB.out _ hc3)
      | (go_at_call 8; (with_reducible refine (awake_any _).mono ?_); rintro e w9 ⟨rfl, hc9⟩)
      | (go_at_call 16; fail)
      | fail)
    · go_ret
      exact ⟨rfl, hcW.trans (hc3.trans hc9)⟩
    · have hT : clsT c ≤ 12000 := p1.small (by omega)
      have hw3 := hcW.trans hc3
      have hl9 : bs.length ≤ 90000 := by omega
      have hde := HD1.out _ hw3 hl9
      have hfi := HFI.out hl9
      have hiv := dec_iv bs
      have hde0 := dec_enc bs
      have hea := dec_ea bs
      have hbad := dec_bad bs
      obtain ⟨⟨x, z⟩, eZ⟩ : ∃ q, decR bs (cl 0) = q := ⟨_, rfl⟩
      rw [eZ] at hde hfi hiv hde0 hea hbad
      dsimp only at hde hfi hiv hde0 hea hbad
      clear HD1 HFI hta t0 eZ p1
      have hzl := hiv.ea
      have hze := hiv.e
      clear hiv
      by_cases he : z.e = 0
      · by_cases hok : chkE c = 0
        · skip
          obtain ⟨hx1, hx2⟩ := hde0 he
          have hz0 := hea he
          have hF := hfi he
          rw [he, hz0] at hde
          have HRX : Hid (∀ w0 a b c, ClsAt w0 x a b c → Calls Tryz.prog 10 #[.agg #[.string x.n, .string x.s, .bool x.it, .bool x.ab, a, b, c]] w0 fun e w' => ∃ v, e = .returned (.tuple #[v, .int .i64 0]) ∧ w'.ownsRow w0.heap.size 5 1 v bs.length (bs.map (Value.int .u8)) ∧ Ch w0 w') := fun w0 a b c' hA => by
            have := refEncode_gen x a b c' w0 hA hF.fine (by rw [hx2]; omega) (fun s hs' => by have := pool_in x s hs'; rw [hx2] at this; omega) hx1
            rw [hx2] at this
            exact this
          clear hde0 hea hfi hbad hF hx1 hx2 hz0 hzl hze he

          have hE4 := encB_pos c
          have hE9 := encB_len c hT hok
          have HCUT : Hid (∀ K, K < (encB c).length → _) := fun K hK => cut_dec c hok hT K hK
          have hEs := encB_sm c
          have HROC : Hid (∀ w0, Ch w w0 → _) := fun w0 k => HRO.out w0 k hT hok
          generalize encB c = E at *
          have hrb := rnd_bd k (E.length : Int) (by omega)
          have hrn := fun w0 => round_any k (E.length : Int) w0 (by omega) (by omega)
          generalize rnd k (E.length : Int) = K0 at *
          obtain ⟨K, rfl⟩ := Int.eq_ofNat_of_zero_le hrb.1
          have hKE : K < E.length := by omega
          obtain ⟨hk2, hkea⟩ := HCUT.out K hKE
          have HD2 : Hid (∀ w0 v, Rb w0 v (E.take K) → _) := fun w0 v hr => decode_any v (E.take K) w0 hr (fun y hy => hEs y (List.mem_of_mem_take hy)) (by rw [List.length_take]; omega)
          obtain ⟨⟨x2, z2⟩, eZ2⟩ : ∃ q, decR (E.take K) (cl 0) = q := ⟨_, rfl⟩
          rw [eZ2] at HD2 hk2 hkea
          dsimp only at HD2 hk2 hkea
          rw [hk2] at HD2
          generalize z2.ea = ea2 at *
          have r1 : decide ((0 : Int) ≤ (ea2 : Int)) = true := by simp
          have r2 : decide ((ea2 : Int) ≤ (K : Int)) = true := by simp; omega
          clear HCUT HRO HRN hrb eZ2 hk2 r2
          go_wp2_with (first
            | (go_at_call 16; (with_reducible refine hde.mono ?_); rintro e w4 ⟨xi, xf, xm, rfl, hX, hc4⟩; obtain ⟨xa, xc, rfl, _, _⟩ := hX.1.form; obtain ⟨ya, yc, rfl, _, _⟩ := hX.2.1.form; obtain ⟨wa, wc, rfl, _, _⟩ := hX.2.2.form; have hw4 := hw3.trans hc4)
            | (refine wpList_store_row rfl 26 (.tmp 7) (.tmp 30) rfl w4.heap.size #[.string x.n, .string x.s, .bool x.it, .bool x.ab, .slice xa x.im.length xc, .slice ya x.fs.length yc, .slice wa x.me.length wc] rfl rfl 26 z26 (heap_alloc_new _ _) info26' rfl (one7 _ _ _ _ _ _ _ _ _ _ _ _ _) ?_; rw [setRow_alloc]; have hw5 := hw4.alloc (.cells #[.string x.n, .string x.s, .bool x.it, .bool x.ab, .slice xa x.im.length xc, .slice ya x.fs.length yc, .slice wa x.me.length wc] 26); have hb5 : (w4.alloc (.cells #[.string x.n, .string x.s, .bool x.it, .bool x.ab, .slice xa x.im.length xc, .slice ya x.fs.length yc, .slice wa x.me.length wc] 26)).heap[w4.heap.size]? = some (.cells #[.string x.n, .string x.s, .bool x.it, .bool x.ab, .slice xa x.im.length xc, .slice ya x.fs.length yc, .slice wa x.me.length wc] 26) := heap_alloc_new _ _; have HB5 : Hid (∀ w', Ch (w4.alloc (.cells #[.string x.n, .string x.s, .bool x.it, .bool x.ab, .slice xa x.im.length xc, .slice ya x.fs.length yc, .slice wa x.me.length wc] 26)) w' → _) := (fun w_ k => clsC_at (c := x) (kept_at k hb5)); obtain ⟨y0, y1, y2, y3, y4, y5, y6⟩ := HB5.out _ (Ch.refl _); have hX5 := hX.keep ((Ch.refl w4).alloc (.cells #[.string x.n, .string x.s, .bool x.it, .bool x.ab, .slice xa x.im.length xc, .slice ya x.fs.length yc, .slice wa x.me.length wc] 26)); obtain ⟨n0, n1, n2, n3, n4, n5, n6⟩ := HB.out _ ((hc3.trans hc4).alloc (.cells #[.string x.n, .string x.s, .bool x.it, .bool x.ab, .slice xa x.im.length xc, .slice ya x.fs.length yc, .slice wa x.me.length wc] 26)); obtain ⟨o0, o1, o2, o3, o4, o5, o6⟩ := HB.out _ (hc3.trans hc4); have hus := HUS.out _ hw5)
            | (go_at_call 10; (with_reducible refine (HRX.out _ _ _ _ hX5).mono ?_); rintro e w6 ⟨v6, rfl, ho6, hc6⟩; have hv6 := row_string (rb_own ho6).row; obtain ⟨a6, c6, rfl⟩ := own_form ho6; have hw6 := hw5.trans hc6; have hus6 := HUS.out _ hw6; obtain ⟨p0, p1, p2, p3, p4, p5, p6⟩ := HB.out _ (((hc3.trans hc4).alloc _).trans hc6))
            | (go_at_call 10; (with_reducible refine (HROC.out _ hw6).mono ?_); rintro e w12 ⟨v12, rfl, ho12, hc12⟩; have hw12 := hw6.trans hc12; obtain ⟨a12, c12, rfl⟩ := own_form ho12; have hsl := (fun W => slice_to (c := K) (L := E.length) ho12 (by omega) (by omega) W); have hrb12 := rb_take ho12 K (by omega) (by omega))
            | (go_at_call 20; (with_reducible refine (hrn _).mono ?_); rintro e w13 ⟨rfl, hw⟩; have hw := hw.symm; subst hw)
            | (go_at_call 16; (with_reducible refine (HD2.out _ _ hrb12).mono ?_); rintro e w14 ⟨xi2, xf2, xm2, rfl, hX2, hc14⟩; obtain ⟨xa2, xc2, rfl, _, _⟩ := hX2.1.form; obtain ⟨ya2, yc2, rfl, _, _⟩ := hX2.2.1.form; obtain ⟨wa2, wc2, rfl, _, _⟩ := hX2.2.2.form; have hw14 := hw12.trans hc14)
            | (refine wpList_store_row rfl 26 (.tmp 15) (.tmp 97) rfl w14.heap.size #[.string x2.n, .string x2.s, .bool x2.it, .bool x2.ab, .slice xa2 x2.im.length xc2, .slice ya2 x2.fs.length yc2, .slice wa2 x2.me.length wc2] rfl rfl 26 z26 (heap_alloc_new _ _) info26' rfl (one7 _ _ _ _ _ _ _ _ _ _ _ _ _) ?_; rw [setRow_alloc]; have hw15 := hw14.alloc (.cells #[.string x2.n, .string x2.s, .bool x2.it, .bool x2.ab, .slice xa2 x2.im.length xc2, .slice ya2 x2.fs.length yc2, .slice wa2 x2.me.length wc2] 26))
            | (go_at_call 8; (with_reducible refine (awake_any _).mono ?_); rintro e w9 ⟨rfl, hc9⟩; have hwZ := hw15.trans hc9)
            | fail)
          go_ret
          exact ⟨rfl, hwZ⟩
        · skip
          obtain ⟨hx1, hx2⟩ := hde0 he
          have hz0 := hea he
          have hF := hfi he
          rw [he, hz0] at hde
          have HRX : Hid (∀ w0 a b c, ClsAt w0 x a b c → Calls Tryz.prog 10 #[.agg #[.string x.n, .string x.s, .bool x.it, .bool x.ab, a, b, c]] w0 fun e w' => ∃ v, e = .returned (.tuple #[v, .int .i64 0]) ∧ w'.ownsRow w0.heap.size 5 1 v bs.length (bs.map (Value.int .u8)) ∧ Ch w0 w') := fun w0 a b c' hA => by
            have := refEncode_gen x a b c' w0 hA hF.fine (by rw [hx2]; omega) (fun s hs' => by have := pool_in x s hs'; rw [hx2] at this; omega) hx1
            rw [hx2] at this
            exact this
          clear hde0 hea hfi hbad hF hx1 hx2 hz0 hzl hze he

          have HRNC : Hid (∀ w0, Ch w w0 → _) := fun w0 k => HRN.out w0 k hT hok
          have q9 : (chkE c == 0) = false := by simpa using hok
          have q8 : (chkE c != 0) = true := by simpa using hok
          generalize chkE c = ce at *
          clear HRO HRN hok
          go_wp2_with (first
            | (go_at_call 16; (with_reducible refine hde.mono ?_); rintro e w4 ⟨xi, xf, xm, rfl, hX, hc4⟩; obtain ⟨xa, xc, rfl, _, _⟩ := hX.1.form; obtain ⟨ya, yc, rfl, _, _⟩ := hX.2.1.form; obtain ⟨wa, wc, rfl, _, _⟩ := hX.2.2.form; have hw4 := hw3.trans hc4)
            | (refine wpList_store_row rfl 26 (.tmp 7) (.tmp 30) rfl w4.heap.size #[.string x.n, .string x.s, .bool x.it, .bool x.ab, .slice xa x.im.length xc, .slice ya x.fs.length yc, .slice wa x.me.length wc] rfl rfl 26 z26 (heap_alloc_new _ _) info26' rfl (one7 _ _ _ _ _ _ _ _ _ _ _ _ _) ?_; rw [setRow_alloc]; have hw5 := hw4.alloc (.cells #[.string x.n, .string x.s, .bool x.it, .bool x.ab, .slice xa x.im.length xc, .slice ya x.fs.length yc, .slice wa x.me.length wc] 26); have hb5 : (w4.alloc (.cells #[.string x.n, .string x.s, .bool x.it, .bool x.ab, .slice xa x.im.length xc, .slice ya x.fs.length yc, .slice wa x.me.length wc] 26)).heap[w4.heap.size]? = some (.cells #[.string x.n, .string x.s, .bool x.it, .bool x.ab, .slice xa x.im.length xc, .slice ya x.fs.length yc, .slice wa x.me.length wc] 26) := heap_alloc_new _ _; have HB5 : Hid (∀ w', Ch (w4.alloc (.cells #[.string x.n, .string x.s, .bool x.it, .bool x.ab, .slice xa x.im.length xc, .slice ya x.fs.length yc, .slice wa x.me.length wc] 26)) w' → _) := (fun w_ k => clsC_at (c := x) (kept_at k hb5)); obtain ⟨y0, y1, y2, y3, y4, y5, y6⟩ := HB5.out _ (Ch.refl _); have hX5 := hX.keep ((Ch.refl w4).alloc (.cells #[.string x.n, .string x.s, .bool x.it, .bool x.ab, .slice xa x.im.length xc, .slice ya x.fs.length yc, .slice wa x.me.length wc] 26)); obtain ⟨n0, n1, n2, n3, n4, n5, n6⟩ := HB.out _ ((hc3.trans hc4).alloc (.cells #[.string x.n, .string x.s, .bool x.it, .bool x.ab, .slice xa x.im.length xc, .slice ya x.fs.length yc, .slice wa x.me.length wc] 26)); obtain ⟨o0, o1, o2, o3, o4, o5, o6⟩ := HB.out _ (hc3.trans hc4); have hus := HUS.out _ hw5)
            | (go_at_call 10; (with_reducible refine (HRX.out _ _ _ _ hX5).mono ?_); rintro e w6 ⟨v6, rfl, ho6, hc6⟩; have hv6 := row_string (rb_own ho6).row; obtain ⟨a6, c6, rfl⟩ := own_form ho6; have hw6 := hw5.trans hc6; have hus6 := HUS.out _ hw6; obtain ⟨p0, p1, p2, p3, p4, p5, p6⟩ := HB.out _ (((hc3.trans hc4).alloc _).trans hc6))
            | (go_at_call 10; (with_reducible refine (HRNC.out _ hw6).mono ?_); rintro e w12 ⟨rfl, hc12⟩; have hw12 := hw6.trans hc12)
            | (go_at_call 8; (with_reducible refine (awake_any _).mono ?_); rintro e w9 ⟨rfl, hc9⟩; have hwZ := hw12.trans hc9)
            | fail)
          go_ret
          exact ⟨rfl, hwZ⟩
      · by_cases hok : chkE c = 0
        · skip
          have hxn := hbad he
          subst hxn
          have q1 : (z.e == 0) = false := by simpa using he
          have q2 : decide (z.e < 2) = false := by simp; omega
          have q3 : decide (7 < z.e) = false := by simp; omega
          have q4 : decide ((z.ea : Int) < 0) = false := by simp
          have q5 : decide ((bs.length : Int) < (z.ea : Int)) = false := by simp; omega
          clear hde0 hea hfi hbad
          generalize z.e = ze at *
          generalize z.ea = za0 at *
          clear hze he q5
          unfold noC at hde
          dsimp only at hde

          have hE4 := encB_pos c
          have hE9 := encB_len c hT hok
          have HCUT : Hid (∀ K, K < (encB c).length → _) := fun K hK => cut_dec c hok hT K hK
          have hEs := encB_sm c
          have HROC : Hid (∀ w0, Ch w w0 → _) := fun w0 k => HRO.out w0 k hT hok
          generalize encB c = E at *
          have hrb := rnd_bd k (E.length : Int) (by omega)
          have hrn := fun w0 => round_any k (E.length : Int) w0 (by omega) (by omega)
          generalize rnd k (E.length : Int) = K0 at *
          obtain ⟨K, rfl⟩ := Int.eq_ofNat_of_zero_le hrb.1
          have hKE : K < E.length := by omega
          obtain ⟨hk2, hkea⟩ := HCUT.out K hKE
          have HD2 : Hid (∀ w0 v, Rb w0 v (E.take K) → _) := fun w0 v hr => decode_any v (E.take K) w0 hr (fun y hy => hEs y (List.mem_of_mem_take hy)) (by rw [List.length_take]; omega)
          obtain ⟨⟨x2, z2⟩, eZ2⟩ : ∃ q, decR (E.take K) (cl 0) = q := ⟨_, rfl⟩
          rw [eZ2] at HD2 hk2 hkea
          dsimp only at HD2 hk2 hkea
          rw [hk2] at HD2
          generalize z2.ea = ea2 at *
          have r1 : decide ((0 : Int) ≤ (ea2 : Int)) = true := by simp
          have r2 : decide ((ea2 : Int) ≤ (K : Int)) = true := by simp; omega
          clear HCUT HRO HRN hrb eZ2 hk2 r2
          go_wp2_with (first
            | (go_at_call 16; (with_reducible refine hde.mono ?_); rintro e w4 ⟨xi, xf, xm, rfl, hX, hc4⟩; obtain ⟨xa, xc, rfl, _, _⟩ := hX.1.form; obtain ⟨ya, yc, rfl, _, _⟩ := hX.2.1.form; obtain ⟨wa, wc, rfl, _, _⟩ := hX.2.2.form; have hw4 := hw3.trans hc4)
            | (refine wpList_store_row rfl 26 (.tmp 7) (.tmp 30) rfl w4.heap.size #[.string ⟨#[]⟩, .string ⟨#[]⟩, .bool false, .bool false, .slice xa 0 xc, .slice ya 0 yc, .slice wa 0 wc] rfl rfl 26 z26 (heap_alloc_new _ _) info26' rfl (one7 _ _ _ _ _ _ _ _ _ _ _ _ _) ?_; rw [setRow_alloc]; have hw5 := hw4.alloc (.cells #[.string ⟨#[]⟩, .string ⟨#[]⟩, .bool false, .bool false, .slice xa 0 xc, .slice ya 0 yc, .slice wa 0 wc] 26); have hb5 : (w4.alloc (.cells #[.string ⟨#[]⟩, .string ⟨#[]⟩, .bool false, .bool false, .slice xa 0 xc, .slice ya 0 yc, .slice wa 0 wc] 26)).heap[w4.heap.size]? = some (.cells #[.string ⟨#[]⟩, .string ⟨#[]⟩, .bool false, .bool false, .slice xa 0 xc, .slice ya 0 yc, .slice wa 0 wc] 26) := heap_alloc_new _ _; have HB5 : Hid (∀ w', Ch (w4.alloc (.cells #[.string ⟨#[]⟩, .string ⟨#[]⟩, .bool false, .bool false, .slice xa 0 xc, .slice ya 0 yc, .slice wa 0 wc] 26)) w' → _) := (fun w_ k => cls0_at (kept_at k hb5)); obtain ⟨y0, y1, y2, y3, y4, y5, y6⟩ := HB5.out _ (Ch.refl _); have hX5 := hX.keep ((Ch.refl w4).alloc (.cells #[.string ⟨#[]⟩, .string ⟨#[]⟩, .bool false, .bool false, .slice xa 0 xc, .slice ya 0 yc, .slice wa 0 wc] 26)); obtain ⟨n0, n1, n2, n3, n4, n5, n6⟩ := HB.out _ ((hc3.trans hc4).alloc (.cells #[.string ⟨#[]⟩, .string ⟨#[]⟩, .bool false, .bool false, .slice xa 0 xc, .slice ya 0 yc, .slice wa 0 wc] 26)); obtain ⟨o0, o1, o2, o3, o4, o5, o6⟩ := HB.out _ (hc3.trans hc4); have hus := HUS.out _ hw5)
            | (go_at_call 10; (with_reducible refine (HROC.out _ hw5).mono ?_); rintro e w12 ⟨v12, rfl, ho12, hc12⟩; have hw12 := hw5.trans hc12; obtain ⟨a12, c12, rfl⟩ := own_form ho12; have hsl := (fun W => slice_to (c := K) (L := E.length) ho12 (by omega) (by omega) W); have hrb12 := rb_take ho12 K (by omega) (by omega))
            | (go_at_call 20; (with_reducible refine (hrn _).mono ?_); rintro e w13 ⟨rfl, hw⟩; have hw := hw.symm; subst hw)
            | (go_at_call 16; (with_reducible refine (HD2.out _ _ hrb12).mono ?_); rintro e w14 ⟨xi2, xf2, xm2, rfl, hX2, hc14⟩; obtain ⟨xa2, xc2, rfl, _, _⟩ := hX2.1.form; obtain ⟨ya2, yc2, rfl, _, _⟩ := hX2.2.1.form; obtain ⟨wa2, wc2, rfl, _, _⟩ := hX2.2.2.form; have hw14 := hw12.trans hc14)
            | (refine wpList_store_row rfl 26 (.tmp 15) (.tmp 97) rfl w14.heap.size #[.string x2.n, .string x2.s, .bool x2.it, .bool x2.ab, .slice xa2 x2.im.length xc2, .slice ya2 x2.fs.length yc2, .slice wa2 x2.me.length wc2] rfl rfl 26 z26 (heap_alloc_new _ _) info26' rfl (one7 _ _ _ _ _ _ _ _ _ _ _ _ _) ?_; rw [setRow_alloc]; have hw15 := hw14.alloc (.cells #[.string x2.n, .string x2.s, .bool x2.it, .bool x2.ab, .slice xa2 x2.im.length xc2, .slice ya2 x2.fs.length yc2, .slice wa2 x2.me.length wc2] 26))
            | (go_at_call 8; (with_reducible refine (awake_any _).mono ?_); rintro e w9 ⟨rfl, hc9⟩; have hwZ := hw15.trans hc9)
            | fail)
          go_ret
          exact ⟨rfl, hwZ⟩
        · skip
          have hxn := hbad he
          subst hxn
          have q1 : (z.e == 0) = false := by simpa using he
          have q2 : decide (z.e < 2) = false := by simp; omega
          have q3 : decide (7 < z.e) = false := by simp; omega
          have q4 : decide ((z.ea : Int) < 0) = false := by simp
          have q5 : decide ((bs.length : Int) < (z.ea : Int)) = false := by simp; omega
          clear hde0 hea hfi hbad
          generalize z.e = ze at *
          generalize z.ea = za0 at *
          clear hze he q5
          unfold noC at hde
          dsimp only at hde

          have HRNC : Hid (∀ w0, Ch w w0 → _) := fun w0 k => HRN.out w0 k hT hok
          have q9 : (chkE c == 0) = false := by simpa using hok
          have q8 : (chkE c != 0) = true := by simpa using hok
          generalize chkE c = ce at *
          clear HRO HRN hok
          go_wp2_with (first
            | (go_at_call 16; (with_reducible refine hde.mono ?_); rintro e w4 ⟨xi, xf, xm, rfl, hX, hc4⟩; obtain ⟨xa, xc, rfl, _, _⟩ := hX.1.form; obtain ⟨ya, yc, rfl, _, _⟩ := hX.2.1.form; obtain ⟨wa, wc, rfl, _, _⟩ := hX.2.2.form; have hw4 := hw3.trans hc4)
            | (refine wpList_store_row rfl 26 (.tmp 7) (.tmp 30) rfl w4.heap.size #[.string ⟨#[]⟩, .string ⟨#[]⟩, .bool false, .bool false, .slice xa 0 xc, .slice ya 0 yc, .slice wa 0 wc] rfl rfl 26 z26 (heap_alloc_new _ _) info26' rfl (one7 _ _ _ _ _ _ _ _ _ _ _ _ _) ?_; rw [setRow_alloc]; have hw5 := hw4.alloc (.cells #[.string ⟨#[]⟩, .string ⟨#[]⟩, .bool false, .bool false, .slice xa 0 xc, .slice ya 0 yc, .slice wa 0 wc] 26); have hb5 : (w4.alloc (.cells #[.string ⟨#[]⟩, .string ⟨#[]⟩, .bool false, .bool false, .slice xa 0 xc, .slice ya 0 yc, .slice wa 0 wc] 26)).heap[w4.heap.size]? = some (.cells #[.string ⟨#[]⟩, .string ⟨#[]⟩, .bool false, .bool false, .slice xa 0 xc, .slice ya 0 yc, .slice wa 0 wc] 26) := heap_alloc_new _ _; have HB5 : Hid (∀ w', Ch (w4.alloc (.cells #[.string ⟨#[]⟩, .string ⟨#[]⟩, .bool false, .bool false, .slice xa 0 xc, .slice ya 0 yc, .slice wa 0 wc] 26)) w' → _) := (fun w_ k => cls0_at (kept_at k hb5)); obtain ⟨y0, y1, y2, y3, y4, y5, y6⟩ := HB5.out _ (Ch.refl _); have hX5 := hX.keep ((Ch.refl w4).alloc (.cells #[.string ⟨#[]⟩, .string ⟨#[]⟩, .bool false, .bool false, .slice xa 0 xc, .slice ya 0 yc, .slice wa 0 wc] 26)); obtain ⟨n0, n1, n2, n3, n4, n5, n6⟩ := HB.out _ ((hc3.trans hc4).alloc (.cells #[.string ⟨#[]⟩, .string ⟨#[]⟩, .bool false, .bool false, .slice xa 0 xc, .slice ya 0 yc, .slice wa 0 wc] 26)); obtain ⟨o0, o1, o2, o3, o4, o5, o6⟩ := HB.out _ (hc3.trans hc4); have hus := HUS.out _ hw5)
            | (go_at_call 10; (with_reducible refine (HRNC.out _ hw5).mono ?_); rintro e w12 ⟨rfl, hc12⟩; have hw12 := hw5.trans hc12)
            | (go_at_call 8; (with_reducible refine (awake_any _).mono ?_); rintro e w9 ⟨rfl, hc9⟩; have hwZ := hw12.trans hc9)
            | fail)
          go_ret
          exact ⟨rfl, hwZ⟩
  · have t0 : decide (3000 < (bs.length : Int)) = true := by simp; omega
    clear HB hta HRN HRO HD1 HUS HFI
    go_enter Tryz.func5, Tryz.ntmps5
    go_wp2_with (first
      | (go_at_call 8; (with_reducible refine (awake_any _).mono ?_); rintro e w9 ⟨rfl, hc9⟩)
      | fail)
    go_ret
    exact ⟨rfl, hcW.trans hc9⟩
end Go.Proofs.YtdalibfgkkgcpaaGreat
