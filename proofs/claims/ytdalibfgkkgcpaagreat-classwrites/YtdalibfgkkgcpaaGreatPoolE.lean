/- The pool of a class: the walk. -/
import Derived.Test.YtdalibfgkkgcpaaGreatPoolD
namespace Go.Proofs.YtdalibfgkkgcpaaGreat
open Go.RowKit
set_option linter.unusedVariables false

def poolW (w : World) (box : Array Value) : World :=
  (((w.alloc (.cells box 26)).alloc (.cells #[.slice none 0 0, .map none] 58)).alloc (.map #[] 0)).alloc (.cells #[.slice none 0 0, .map (some (w.heap.size + 1 + 1))] 58)
theorem poolW_at (w : World) (box : Array Value) (L : List (List UInt8)) (hl : L.length ≤ 50000) : At (w.heap.size + 1 + 1) (w.heap.size + 1 + 1 + 1) (w.heap.size + 1 + 1) (poolW w box) (poolW w box) L (addL [] L) := by
  refine ⟨⟨.slice none 0 0, [], ⟨?_, World.ownsRow_nil _ _ _ _, ?_, by omega, by omega⟩, rfl, by simp; omega⟩, Kp.refl _ _ _, by simp [poolW]⟩
  · unfold poolW
    have e : w.heap.size + 1 + 1 + 1 = (((w.alloc (.cells box 26)).alloc (.cells #[.slice none 0 0, .map none] 58)).alloc (.map #[] 0)).heap.size := by simp
    rw [e]
    exact heap_alloc_new _ _
  · have e : w.heap.size + 1 + 1 = ((w.alloc (.cells box 26)).alloc (.cells #[.slice none 0 0, .map none] 58)).heap.size := by simp
    unfold poolW
    rw [e]
    exact (Mp.made _).keep (Below.heap_alloc _ _ _ (by simp))
theorem poolW_ch (w : World) (box : Array Value) : Ch (w.alloc (.cells box 26)) (poolW w box) := (((Ch.refl _).alloc _).alloc _).alloc _
theorem poolW_res (w : World) (box : Array Value) : (poolW w box).heap[w.heap.size + 1]? = some (.cells #[.slice none 0 0, .map none] 58) := by
  have e : w.heap.size + 1 = (w.alloc (.cells box 26)).heap.size := by simp
  unfold poolW
  rw [e]
  exact kept_at (((Ch.refl _).alloc _).alloc _) (heap_alloc_new _ _)

theorem one2 (ao : Option Addr) (n c M : Nat) : (#[Value.slice ao n c, .map (some M)].all (·.oneCell')) = true := by kernel_rfl

set_option maxRecDepth 100000 in
set_option maxHeartbeats 8000000 in
theorem poolOf_any (c : Cls) (vi vf vm : Value) (w : World) (h : ClsAt w c vi vf vm) (hF : Fine c) :
    Calls Tryz.prog 23 #[.agg #[.string c.n, .string c.s, .bool c.it, .bool c.ab, vi, vf, vm]] w (PoolR w (poolL c)) := by
  have hmk := run_mk61
  have hA0 := poolW_at w (clsC c vi vf vm) (clsX c) hF.all
  have hC0 := poolW_ch w (clsC c vi vf vm)
  have HR : Hid ((poolW w (clsC c vi vf vm)).heap[w.heap.size + 1]? = some (.cells #[.slice none 0 0, .map none] 58)) := poolW_res _ _
  have HB : Hid ((w.alloc (.cells (clsC c vi vf vm) 26)).heap[w.heap.size]? = some (.cells (clsC c vi vf vm) 26)) := heap_alloc_new _ _
  obtain ⟨hi, hf, hm⟩ := h
  have hbi := sl_lt hi (fun cs a h => by rw [h]; simp)
  obtain ⟨ai, ci, rfl, hi1, hi2⟩ := hi.form
  obtain ⟨af, cf, rfl, hf1, hf2⟩ := hf.form
  obtain ⟨am, cm, rfl, hm1, hm2⟩ := hm.form
  have hsw : Ch w (w.alloc (.cells (clsC c (.slice ai c.im.length ci) (.slice af c.fs.length cf) (.slice am c.me.length cm)) 26)) := (Ch.refl w).alloc _
  have hzw : (w.alloc (.cells (clsC c (.slice ai c.im.length ci) (.slice af c.fs.length cf) (.slice am c.me.length cm)) 26)).heap.size = w.heap.size + 1 := by simp
  have hA0' : At (w.heap.size + 1 + 1) (w.heap.size + 1 + 1 + 1) (w.heap.size + 1 + 1) _ _ (bl c.n :: bl c.s :: (c.im.map bl ++ (c.fs.flatMap fldX ++ c.me.flatMap mthX))) (poolL c) := hA0
  have hfirst := hA0'.add2 hF.n hF.s (w.heap.size + 1 + 1 + 1 + 1) (by simp [poolW])
  have HPW : Hid (∀ W, Ch (poolW w (clsC c (.slice ai c.im.length ci) (.slice af c.fs.length cf) (.slice am c.me.length cm))) W → True) := fun _ _ => trivial
  clear hA0 hA0'
  go_enter Tryz.func23, Tryz.ntmps23
  go_wp2_with fail
  refine hfirst.mono ?_
  rintro e w2 ⟨rfl, hA2, hk2⟩
  clear hfirst HPW hmk hk2
  generalize poolW w (clsC c (.slice ai c.im.length ci) (.slice af c.fs.length cf) (.slice am c.me.length cm)) = w1 at *
  generalize hBB : w.heap.size + 1 + 1 = B at *
  have hBw : w.heap.size + 1 < B := by omega
  clear hBB
  have HC : Hid (∀ W rest goal, At B (B + 1) B w1 W rest goal → Ch (w.alloc (.cells (clsC c (.slice ai c.im.length ci) (.slice af c.fs.length cf) (.slice am c.me.length cm)) 26)) W) := fun W rest goal hA => Kp.ch hC0 hA.kp (by rw [hzw]; omega)
  generalize w.alloc (.cells (clsC c (.slice ai c.im.length ci) (.slice af c.fs.length cf) (.slice am c.me.length cm)) 26) = wb at *
  have hcb2 := HC.out w2 _ _ hA2
  obtain ⟨e0, e1, e2, e3, e4, e5, e6⟩ := clsC_at (kept_at hcb2 HB.out)
  have hI2 := hi.keepS (hsw.trans hcb2)
  have hbi2 : ∀ b off n cc, Value.slice ai c.im.length ci = .slice (some ⟨b, off, none⟩) n cc → 0 < c.im.length → b < B := fun b off n cc e hp => by
    have := hbi b off n cc e hp
    omega
  have him := hA2.addS hI2 hbi2 hF.im
  clear hI2 hbi2 hbi hA2
  go_wp2_with fail
  refine him.mono ?_
  rintro e w3 ⟨rfl, hA3, _⟩
  clear him e0 e1 e2 e3 e4 e5 e6 hcb2
  have hcb3 := HC.out w3 _ _ hA3
  obtain ⟨e0, e1, e2, e3, e4, e5, e6⟩ := clsC_at (kept_at hcb3 HB.out)
  go_wp2
  go_loopw [26] (fun i wr => ∃ k : Nat, k ≤ c.fs.length ∧ i = .int .i64 k ∧ At B (B + 1) B w1 wr ((c.fs.drop k).flatMap fldX ++ c.me.flatMap mthX) (poolL c)) (fun i _ => c.fs.length - (intOf i).toNat)
  case atStart => exact ⟨0, Nat.zero_le _, rfl, by simpa using hA3⟩
  case round =>
    clear e0 e1 e2 e3 e4 e5 e6 hA3 hcb3
    obtain ⟨k, hk, rfl, hA⟩ := hrel
    have hcb := HC.out wr _ _ hA
    by_cases hlt : k < c.fs.length
    · obtain ⟨x, hx⟩ : ∃ a, c.fs[k]? = some a := ⟨_, List.getElem?_eq_getElem hlt⟩
      obtain ⟨x1, x2⟩ := hF.fs x (List.mem_of_getElem? hx)
      obtain ⟨b, off, hao, d0, d1, d2⟩ := (hf.keepF (hsw.trans hcb)).atF hx
      rw [flat_step fldX hx] at hA
      have hA' : At B (B + 1) B w1 (wr.alloc (.cells #[.string x.n, .string x.d, .bool x.st] 54)) (bl x.n :: bl x.d :: ((c.fs.drop (k + 1)).flatMap fldX ++ c.me.flatMap mthX)) (poolL c) := At.chr (by simpa [fldX] using hA) ((Ch.refl wr).alloc _)
      have hadd := hA'.add2 x1 x2 (wr.heap.size + 1) (by simp)
      have HF' : Hid (Fine c) := hF
      clear hA hA' hx hF
      subst hao
      go_wp2_with (first
        | (go_at_call 59; refine hadd.mono ?_; rintro e w4 ⟨rfl, hA4, _⟩))
      go_roundw
      case rel => exact ⟨k + 1, by omega, by go_num, hA4⟩
      case measure => simp [intOf]; omega
    · obtain rfl : k = c.fs.length := by omega
      rw [flat_end fldX (Nat.le_refl _), List.nil_append] at hA
      obtain ⟨e0, e1, e2, e3, e4, e5, e6⟩ := clsC_at (kept_at hcb HB.out)
      go_wp2
      go_loopw [40] (fun i wr2 => ∃ k : Nat, k ≤ c.me.length ∧ i = .int .i64 k ∧ At B (B + 1) B w1 wr2 ((c.me.drop k).flatMap mthX) (poolL c)) (fun i _ => c.me.length - (intOf i).toNat)
      case atStart => exact ⟨0, Nat.zero_le _, rfl, by simpa using hA⟩
      case round =>
        clear e0 e1 e2 e3 e4 e5 e6 hA hcb hlt hk
        obtain ⟨k, hk, rfl, hA⟩ := hrel
        have hcb := HC.out wr _ _ hA
        by_cases hlt : k < c.me.length
        · obtain ⟨m, hx⟩ : ∃ a, c.me[k]? = some a := ⟨_, List.getElem?_eq_getElem hlt⟩
          have hMF := hF.me m (List.mem_of_getElem? hx)
          obtain ⟨b, off, vc, vh, hao, hsc, hsh, z0, z1, z2, z3, z4, z5, z6, z7⟩ := hm.atM hx
          have hcw := hsw.trans hcb
          have d0 := cell_keep hcw z0
          have d1 := cell_keep hcw z1
          have d2 := cell_keep hcw z2
          have d3 := cell_keep hcw z3
          have d4 := cell_keep hcw z4
          have d5 := cell_keep hcw z5
          have d6 := cell_keep hcw z6
          have d7 := cell_keep hcw z7
          clear z0 z1 z2 z3 z4 z5 z6 z7 hcw
          rw [flat_step mthX hx] at hA
          obtain ⟨RR, hRR⟩ : ∃ l, l = (c.me.drop (k + 1)).flatMap mthX := ⟨_, rfl⟩
          rw [← hRR] at hA
          have HRR : Hid (RR = (c.me.drop (k + 1)).flatMap mthX) := hRR
          have hA' : At B (B + 1) B w1 (wr.alloc (.cells (mthC m vc vh) 45)) (bl m.n :: bl m.d :: (m.code.flatMap insX ++ (m.hs.flatMap hndX ++ RR))) (poolL c) := At.chr (by simpa [mthX] using hA) ((Ch.refl wr).alloc _)
          have hadd := hA'.add2 hMF.n (Nat.le_trans hMF.d (by omega)) (wr.heap.size + 1) (by simp)
          have HKB : Hid ((wr.alloc (.cells (mthC m vc vh) 45)).heap[wr.heap.size]? = some (.cells (mthC m vc vh) 45)) := heap_alloc_new _ _
          have HF' : Hid (Fine c) := hF
          have HMF : Hid (MFine m) := hMF
          have HSI : Hid (Sl 6 RI w vc m.code) := hsc
          have HSH : Hid (Sl 4 RH w vh m.hs) := hsh
          obtain ⟨aco, cco, rfl, hq1, hq2⟩ := hsc.form
          obtain ⟨aho, cho, rfl, hq3, hq4⟩ := hsh.form
          have hwr := hA.bw
          clear hA hA' hx hF hMF hsc hsh hRR hi hf
          subst hao
          go_wp2_with (first
            | (go_at_call 59; refine hadd.mono ?_; rintro e w4 ⟨rfl, hA4, hk4⟩; have hb4 := Kp.cells hk4 HKB.out (by decide); obtain ⟨_, _, _, _, _, _, g6, g7⟩ := mthC_at hb4; have hlt4 : wr.heap.size < w4.heap.size := (Array.getElem?_eq_some_iff.1 hb4).1))
          clear hadd
          obtain ⟨G, hG⟩ : ∃ G, G = wr.heap.size := ⟨_, rfl⟩
          rw [← hG] at hb4 g6 g7 hlt4 ⊢
          clear hk4 hG HKB d0 d1 d2 d3 d4 d5 d6 d7
          have hAk : k + 1 ≤ c.me.length := by omega
          go_loopw [53] (fun i wr2 => ∃ k : Nat, k ≤ m.code.length ∧ i = .int .i64 k ∧ At B (B + 1) B w1 wr2 ((m.code.drop k).flatMap insX ++ (m.hs.flatMap hndX ++ RR)) (poolL c) ∧ wr2.heap[G]? = some (.cells (mthC m (.slice aco m.code.length cco) (.slice aho m.hs.length cho)) 45)) (fun i _ => m.code.length - (intOf i).toNat)
          case atStart => exact ⟨0, Nat.zero_le _, rfl, by simpa using hA4, hb4⟩
          case round =>
            clear hA4 hb4 g6 g7 hlt4 hcb hwr
            obtain ⟨j, hj, rfl, hA, hbox⟩ := hrel
            have hcb := HC.out wr _ _ hA
            by_cases hltj : j < m.code.length
            · obtain ⟨x, hx⟩ : ∃ a, m.code[j]? = some a := ⟨_, List.getElem?_eq_getElem hltj⟩
              have hxs := HMF.out.code x (List.mem_of_getElem? hx)
              obtain ⟨b2, off2, hao, d0, d1, d2, d3, d4, d5⟩ := (HSI.out.keepI (hsw.trans hcb)).atI hx
              rw [flat_step insX hx, List.append_assoc] at hA
              have hA' : At B (B + 1) B w1 (wr.alloc (.cells (insC x.op x.a x.b x.c x.n x.d) 47)) (insX x ++ ((m.code.drop (j + 1)).flatMap insX ++ (m.hs.flatMap hndX ++ RR))) (poolL c) := hA.chr ((Ch.refl wr).alloc _)
              have HKW : Hid ((wr.alloc (.cells (insC x.op x.a x.b x.c x.n x.d) 47)).heap[G]? = some (.cells (mthC m (.slice aco m.code.length cco) (.slice aho m.hs.length cho)) 45)) := kept_at ((Ch.refl wr).alloc _) hbox
              have hox := ownX_any x
              unfold Ins.v at hox
              have hix := insX_sz hxs
              clear hA hx hxs
              subst hao
              go_wp2_with (first
                | (go_at_call 60; (with_reducible refine (hox _).mono ?_); rintro e w5 ⟨v5, rfl, ho5, hc5⟩)
                | (go_at_call 59; refine (hA'.addO hc5 ho5 hix).mono ?_; rintro e w6 ⟨rfl, hA6, hk6⟩; have hb6 := Kp.cells hk6 (kept_at hc5 HKW.out) (by decide)))
              go_roundw
              case rel => exact ⟨j + 1, by omega, by go_num, hA6, hb6⟩
              case measure => simp [intOf]; omega
            · obtain rfl : j = m.code.length := by omega
              rw [flat_end insX (Nat.le_refl _), List.nil_append] at hA
              obtain ⟨_, _, _, _, _, _, g6, g7⟩ := mthC_at hbox
              go_wp2
              go_loopw [64] (fun i wr2 => ∃ k : Nat, k ≤ m.hs.length ∧ i = .int .i64 k ∧ At B (B + 1) B w1 wr2 ((m.hs.drop k).flatMap hndX ++ RR) (poolL c)) (fun i _ => m.hs.length - (intOf i).toNat)
              case atStart => exact ⟨0, Nat.zero_le _, rfl, by simpa using hA⟩
              case round =>
                clear hA hbox g6 g7 hcb hltj hj
                obtain ⟨j, hj, rfl, hA⟩ := hrel
                have hcb := HC.out wr _ _ hA
                by_cases hltj : j < m.hs.length
                · obtain ⟨x, hx⟩ : ∃ a, m.hs[j]? = some a := ⟨_, List.getElem?_eq_getElem hltj⟩
                  have hxs := HMF.out.hs x (List.mem_of_getElem? hx)
                  obtain ⟨b2, off2, hao, d0, d1, d2, d3⟩ := (HSH.out.keepH (hsw.trans hcb)).atH hx
                  rw [flat_step hndX hx, List.append_assoc] at hA
                  have hA' : At B (B + 1) B w1 (wr.alloc (.cells #[.int .i64 x.fr, .int .i64 x.to, .int .i64 x.pl, .string x.c] 77)) (bl x.c :: ((m.hs.drop (j + 1)).flatMap hndX ++ RR)) (poolL c) := At.chr (by simpa [hndX] using hA) ((Ch.refl wr).alloc _)
                  have hadd := hA'.add1 hxs (wr.heap.size + 1) (by simp)
                  clear hA hA' hx hxs
                  subst hao
                  go_wp2_with (first
                    | (go_at_call 59; refine hadd.mono ?_; rintro e w6 ⟨rfl, hA6, _⟩))
                  go_roundw
                  case rel => exact ⟨j + 1, by omega, by go_num, hA6⟩
                  case measure => simp [intOf]; omega
                · obtain rfl : j = m.hs.length := by omega
                  rw [flat_end hndX (Nat.le_refl _), List.nil_append] at hA
                  go_wp2
                  go_roundw
                  case rel => exact ⟨k + 1, hAk, by go_num, by rw [← HRR.out]; exact hA⟩
                  case measure => simp [intOf]; omega
        · obtain rfl : k = c.me.length := by omega
          rw [flat_end mthX (Nat.le_refl _)] at hA
          obtain ⟨⟨vt, ts, hP, hts, _⟩, hkp, hbw⟩ := hA
          rw [addL] at hts
          subst hts
          have c0 := hP.c0
          have c1 := hP.c1
          have hres := (hkp.block (w.heap.size + 1) (Array.getElem?_eq_some_iff.1 HR.out).1 (Or.inl hBw)).trans HR.out
          have HRES : Hid (wr.heap[w.heap.size + 1]? = some (.cells #[.slice none 0 0, .map none] 58)) := hres
          have HP : Hid (Po B wr (B + 1) B vt (poolL c)) := hP
          obtain ⟨av, cv, rfl⟩ := own_form hP.own
          have hcw : Ch w wr := hsw.trans hcb
          clear hP hres hkp hcb hF
          go_wp2_with (first
            | (refine wpList_store_row rfl 58 (.tmp 2) (.tmp 74) rfl (w.heap.size + 1) #[.slice av (poolL c).length cv, .map (some B)] rfl rfl 58 #[.slice none 0 0, .map none] HRES.out info58 rfl (one2 _ _ _ _) ?_))
          refine bodyPost_ret (results_cell_row rfl _ _ (w.heap.size + 1) 58 _ (0, 0) _ rfl (setRow_heap _ _ _ _ _ _ HRES.out) Tryz.underlying58 rfl info58) rfl ?_
          have hne : ∀ g, B ≤ g → (wr.setRow (w.heap.size + 1) #[.slice av (poolL c).length cv, .map (some B)]).heap[g]? = wr.heap[g]? := fun g hg => setRow_other _ _ _ _ (by omega)
          refine ⟨_, B, rfl, ?_, ?_, by omega, hcw.setRow _ _ (by omega)⟩
          · exact ownsRow_base (ownsRow_same HP.out.own (fun g hg => hne g (own_obj HP.out.own hg).1)) (by omega)
          · exact HP.out.mp.keep (hne B (Nat.le_refl _))
end Go.Proofs.YtdalibfgkkgcpaaGreat
