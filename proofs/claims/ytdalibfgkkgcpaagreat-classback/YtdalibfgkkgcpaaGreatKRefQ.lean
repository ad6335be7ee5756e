/- The document's own pool of a class. -/
import Derived.Test.YtdalibfgkkgcpaaGreatKApp
import Derived.Test.YtdalibfgkkgcpaaGreatKPoolE
import Derived.Test.YtdalibfgkkgcpaaGreatKPure
import Derived.Deep.RegionHeld3
import Derived.Deep.DrawnRows
namespace Go.Proofs.YtdalibfgkkgcpaaGreat
open Go.RowKit
set_option linter.unusedVariables false
attribute [local go_sem ↓] Go.wp_at_zero Go.wp_at_succ

theorem Tx.rebase {B : Nat} {W w : World} {v : Value} {ts : List (List UInt8)} (h : Tx B W w v ts) : Tx B w w v ts := ⟨h.own, Kp.refl _ _ _, h.bw⟩
theorem Tx.back {B : Nat} {W V w : World} {v : Value} {ts : List (List UInt8)} (h : Tx B V w v ts) (k : Kp B [9] W V) : Tx B W w v ts := ⟨h.own, k.trans h.kp, h.bw⟩
theorem in_neg (ts : List (List UInt8)) (s : ByteArray) : decide (inI (ts.map ms) s 0 < 0) = !isIn ts (bl s) := by
  rw [inI_eq, ms_bl_map, isIn]
  by_cases h : bl s ∈ ts
  · rw [if_pos h]; simp [h]
  · rw [if_neg h]; simp [h]

set_option maxRecDepth 100000 in
set_option maxHeartbeats 32000000 in
theorem refPool_any (c : Cls) (vi vf vm : Value) (w : World) (h : ClsAt w c vi vf vm) (hF : Fine c) :
    Calls Tryz.prog 15 #[.agg #[.string c.n, .string c.s, .bool c.it, .bool c.ab, vi, vf, vm]] w fun e w' => ∃ v, e = .returned v ∧ w'.ownsRow w.heap.size 9 1 v (poolL c).length ((poolL c).map strV) ∧ Ch w w' := by
  have hcW : Ch w (w.alloc (.cells (clsC c vi vf vm) 26)) := (Ch.refl w).alloc _
  have hzW : (w.alloc (.cells (clsC c vi vf vm) 26)).heap.size = w.heap.size + 1 := by simp
  have HB : Hid (∀ w', Ch (w.alloc (.cells (clsC c vi vf vm) 26)) w' → _) := fun w' k => clsC_at (kept_at k (heap_alloc_new w (.cells (clsC c vi vf vm) 26)))
  have HK : Hid (∀ w0, Ch (w.alloc (.cells (clsC c vi vf vm) 26)) w0 → ClsAt w0 c vi vf vm) := fun w0 k => h.keep (hcW.trans k)
  obtain ⟨G, hG⟩ : ∃ G, clsX c = G := ⟨_, rfl⟩
  have hGl : G.length ≤ 50000 := by rw [← hG]; exact hF.all
  have HG0 : Hid ([bl c.n, bl c.s] ++ (c.im.map bl ++ (c.fs.flatMap fldX ++ c.me.flatMap mthX)) = G) := hG
  have HP : Hid (poolL c = addL [] G) := by show _ = _; rw [poolL, hG]
  clear hG
  obtain ⟨a1, c1, rfl, _, _⟩ := h.1.form
  obtain ⟨a2, c2, rfl, hf1, hf2⟩ := h.2.1.form
  obtain ⟨a3, c3, rfl, hm1, hm2⟩ := h.2.2.form
  have HFM : Hid (∀ m ∈ c.me, MFine m) := hF.me
  clear h hF
  unfold clsC at *
  generalize hWB : w.alloc (.cells #[.string c.n, .string c.s, .bool c.it, .bool c.ab, .slice a1 c.im.length c1, .slice a2 c.fs.length c2, .slice a3 c.me.length c3] 26) = wb at *
  have hT0 : Tx wb.heap.size (wb.alloc (.cells #[.string c.n, .string c.s] 9)) (wb.alloc (.cells #[.string c.n, .string c.s] 9)) (.slice (some ⟨wb.heap.size, 0, none⟩) 2 2) [bl c.n, bl c.s] := ⟨by
    have e := World.ownsRow_lit (base := wb.heap.size) (e := 9) (size := 1) wb #[.string c.n, .string c.s] 2 (Nat.le_refl _) (by unfold maxLen; omega) rfl
    simpa [strV, ms_bl] using e, Kp.refl _ _ _, by simp⟩
  have HC : Hid (∀ w', Kp wb.heap.size [9] (wb.alloc (.cells #[.string c.n, .string c.s] 9)) w' → Ch wb w') := fun w' k => Kp.ch ((Ch.refl wb).alloc _) k (Nat.le_refl _)
  have hS0 := (HK.out _ ((Ch.refl wb).alloc (.cells #[.string c.n, .string c.s] 9))).1
  obtain ⟨z0, z1, z2, z3, z4, z5, z6⟩ := HB.out wb (Ch.refl _)
  have hil : 2 + c.im.length ≤ 50000 := by
    have e := congrArg List.length HG0.out
    simp only [List.length_append, List.length_map, List.length_cons, List.length_nil] at e
    omega
  have hlb : w.heap.size < wb.heap.size := by rw [hzW]; omega
  rw [hzW] at hT0 HC
  go_enter Tryz.func15, Tryz.ntmps15
  go_wp2_with (first
    | (at_builtin; refine (Tx.wpL hT0 rfl (.tmp 18) (.tmp 20) rfl rfl rfl hS0 (by simp; omega) ?_); intro v4 w4 hT4))
  clear hT0 hS0 z0 z1 z2 z3 z4 z5 z6 hWB
  generalize wb.alloc (.cells #[.string c.n, .string c.s] 9) = W at *
  obtain ⟨B, hB⟩ : ∃ B, B = w.heap.size + 1 := ⟨_, rfl⟩
  rw [← hB] at hT4 HC
  have hBw : w.heap.size ≤ B := by omega
  clear hB hzW
  have HGL : Hid (∀ (a b : List (List UInt8)), a ++ b = G → a.length + b.length ≤ 50000) := fun a b e => by rw [← List.length_append, e]; exact hGl
  go_loopw [3, 4] (fun l i wr => ∃ (k : Nat) (ts : List (List UInt8)), k ≤ c.fs.length ∧ i = .int .i64 k ∧ Tx B W wr l ts ∧ ts ++ ((c.fs.drop k).flatMap fldX ++ c.me.flatMap mthX) = G) (fun _ i _ => c.fs.length - (intOf i).toNat)
  case atStart => exact ⟨0, _, Nat.zero_le _, rfl, hT4, by have e := HG0.out; simpa [List.append_assoc] using e⟩
  case round =>
    clear hT4
    rename_i lv iv
    obtain ⟨k, ts, hk, rfl, hT, hg⟩ := hrel
    have hcb := HC.out wr hT.kp
    obtain ⟨z0, z1, z2, z3, z4, z5, z6⟩ := HB.out wr hcb
    by_cases hlt : k < c.fs.length
    · obtain ⟨x, hx⟩ : ∃ a, c.fs[k]? = some a := ⟨_, List.getElem?_eq_getElem hlt⟩
      obtain ⟨b, off, hao, d0, d1, d2⟩ := (HK.out wr hcb).2.1.atF hx
      rw [flat_step fldX hx] at hg
      have hlen := HGL.out _ _ hg
      have hts : ts.length + 2 ≤ 50000 := by simp [fldX] at hlen; omega
      have HG1 : Hid (ts ++ [bl x.n, bl x.d] ++ ((c.fs.drop (k + 1)).flatMap fldX ++ c.me.flatMap mthX) = G) := by show _ = _; rw [← hg]; simp [fldX]
      have hTa := (hT.chr (Ch.refl wr).drew).chr ((Ch.refl wr.drew).alloc (.cells #[.string x.n, .string x.d] 9))
      subst hao
      have HTK : Hid (∀ w', Kp B [9] W w' → w'.cell? ⟨w.heap.size, 5, none⟩ = some (.slice (some ⟨b, off, none⟩) c.fs.length c2) ∧ w'.cell? ⟨b, off + k * 3, none⟩ = some (.string x.n) ∧ w'.cell? ⟨b, off + k * 3 + 1, none⟩ = some (.string x.d)) := fun w' kk => by
        obtain ⟨_, _, _, _, _, y5, _⟩ := HB.out w' (HC.out w' kk)
        obtain ⟨b', off', hao', e0, e1, _⟩ := (HK.out w' (HC.out w' kk)).2.1.atF hx
        obtain ⟨rfl, rfl⟩ : b = b' ∧ off = off' := by simpa using hao'
        exact ⟨y5, e0, e1⟩
      clear hx hlen hg
      have HT : Hid (∀ w', Ch wr w' → w'.cell? ⟨w.heap.size, 5, none⟩ = some (.slice (some ⟨b, off, none⟩) c.fs.length c2) ∧ w'.cell? ⟨b, off + k * 3, none⟩ = some (.string x.n) ∧ w'.cell? ⟨b, off + k * 3 + 1, none⟩ = some (.string x.d)) := fun w' hw => ⟨cell_keep hw z5, cell_keep hw d0, cell_keep hw d1⟩
      have t1 : (0 : Int) ≤ (k : Int) := by omega
      have t2 : (k : Int) < (c.fs.length : Int) := by omega
      go_wp2_with fail
      go_region_held3 (fun w' => w'.cell? ⟨w.heap.size, 5, none⟩ = some (.slice (some ⟨b, off, none⟩) c.fs.length c2) ∧ w'.cell? ⟨b, off + k * 3, none⟩ = some (.string x.n) ∧ w'.cell? ⟨b, off + k * 3 + 1, none⟩ = some (.string x.d)) (first | assumption | (refine HT.out _ ?_; repeat (first | exact Ch.refl _ | refine Ch.drew ?_ | refine Ch.alloc ?_ _ | refine Ch.trans ?_ (by assumption)))) ((refine (Tx.stp hTa rfl (.tmp 29) (.tmp 42) (by rfl) (by rfl) (by rfl) (sl_row (xs := [x.n, x.d]) (heap_alloc_new _ _) 2 rfl (by omega)) (by simp; omega) ?_); intro v5 w5 hT5; have hS5 := HTK.out w5 hT5.kp))
      go_wp2
      go_roundw
      case rel => exact ⟨k + 1, _, by omega, by go_num, hT5, HG1.out⟩
      case measure => simp [intOf]; omega
    · obtain rfl : k = c.fs.length := by omega
      rw [flat_end fldX (Nat.le_refl _), List.nil_append] at hg
      clear hlt hk
      go_wp2
      clear z0 z1 z2 z3 z4 z5 z6 hcb
      go_loopw [3, 5] (fun l i wr => ∃ (k : Nat) (ts : List (List UInt8)), k ≤ c.me.length ∧ i = .int .i64 k ∧ Tx B W wr l ts ∧ ts ++ (c.me.drop k).flatMap mthX = G) (fun _ i _ => c.me.length - (intOf i).toNat)
      case atStart => exact ⟨0, _, Nat.zero_le _, rfl, hT, by simpa using hg⟩
      case round =>
        clear hT hg
        obtain ⟨k, ts, hk, rfl, hT, hg⟩ := hrel
        have hcb := HC.out wr hT.kp
        obtain ⟨z0, z1, z2, z3, z4, z5, z6⟩ := HB.out wr hcb
        by_cases hlt : k < c.me.length
        · obtain ⟨m, hx⟩ : ∃ a, c.me[k]? = some a := ⟨_, List.getElem?_eq_getElem hlt⟩
          obtain ⟨b, off, vc, vh, hao, hsc, hsh, d0, d1, d2, d3, d4, d5, d6, d7⟩ := (HK.out wr hcb).2.2.atM hx
          rw [flat_step mthX hx] at hg
          obtain ⟨RR, hRR⟩ : ∃ l, l = (c.me.drop (k + 1)).flatMap mthX := ⟨_, rfl⟩
          rw [← hRR] at hg
          have HRR : Hid (RR = (c.me.drop (k + 1)).flatMap mthX) := hRR
          have hlen := HGL.out _ _ hg
          have hts : ts.length + 2 ≤ 50000 := by simp [mthX] at hlen; omega
          have HG1 : Hid (ts ++ [bl m.n, bl m.d] ++ (m.code.flatMap insX ++ (m.hs.flatMap hndX ++ RR)) = G) := by show _ = _; rw [← hg]; simp [mthX, List.append_assoc]
          have hMF := HFM.out m (List.mem_of_getElem? hx)
          have HMF : Hid (MFine m) := hMF
          have HSI : Hid (∀ w', Kp B [9] W w' → Sl 6 RI w' vc m.code ∧ Sl 4 RH w' vh m.hs) := fun w' kk => by
            obtain ⟨b', off', vc', vh', hao', hsc', hsh', _, _, _, _, _, _, e6, e7⟩ := (HK.out w' (HC.out w' kk)).2.2.atM hx
            obtain ⟨_, _, vc2, vh2, hao2, _, _, _, _, _, _, _, _, f6, f7⟩ := (HK.out wb (Ch.refl _)).2.2.atM hx
            have g6 := cell_keep (HC.out w' kk) f6
            have g7 := cell_keep (HC.out w' kk) f7
            have p6 := cell_keep hcb f6
            have p7 := cell_keep hcb f7
            rw [hao] at hao2 hao'
            obtain ⟨rfl, rfl⟩ := (by simpa using hao' : b = b' ∧ off = off')
            obtain ⟨rfl, rfl⟩ := (by simpa using hao2 : b = _ ∧ off = _)
            rw [d6] at p6
            rw [d7] at p7
            rw [e6] at g6
            rw [e7] at g7
            have q1 : vc' = vc := by simp at g6 p6; rw [g6, p6]
            have q2 : vh' = vh := by simp at g7 p7; rw [g7, p7]
            rw [← q1, ← q2]
            exact ⟨hsc', hsh'⟩
          have hTm := hT.chr ((Ch.refl wr).alloc (.cells (mthC m vc vh) 45))
          have hTa := hTm.rebase.chr ((Ch.refl _).alloc (.cells #[.string m.n, .string m.d] 9))
          have HKV : Hid (Kp B [9] W (wr.alloc (.cells (mthC m vc vh) 45))) := hTm.kp
          have HMB : Hid (∀ w', Kp B [9] (wr.alloc (.cells (mthC m vc vh) 45)) w' → _) := fun w' kk => mthC_at (kk.cells (heap_alloc_new wr (.cells (mthC m vc vh) 45)) (by decide))
          obtain ⟨ac, cc, rfl, _, _⟩ := hsc.form
          obtain ⟨ah, chh, rfl, _, _⟩ := hsh.form
          clear hx hlen hg hRR hMF hsc hsh hTm hT
          subst hao
          unfold mthC at *
          go_wp2_with (first
            | (at_builtin; refine (Tx.wpL hTa rfl (.tmp 56) (.tmp 61) rfl rfl rfl (sl_row (xs := [m.n, m.d]) (alloc_at _ _ _ (by simp)) 2 rfl (by omega)) (by simp; omega) ?_); intro v6 w6 hT6))
          generalize wr.alloc (.cells #[.string m.n, .string m.d, .bool m.st, .bool m.ab, .int .i64 m.sk, .int .i64 m.lo, .slice ac m.code.length cc, .slice ah m.hs.length chh] 45) = V at *
          clear hTa z0 z1 z2 z3 z4 z5 z6 d0 d1 d2 d3 d4 d5 d6 d7 hcb
          have hAk : k + 1 ≤ c.me.length := by omega
          obtain ⟨GB, hGB⟩ : ∃ g, g = wr.heap.size := ⟨_, rfl⟩
          rw [← hGB] at HMB ⊢
          clear hGB
          go_loopw [3, 7] (fun l i wr2 => ∃ (k : Nat) (ts : List (List UInt8)), k ≤ m.code.length ∧ i = .int .i64 k ∧ Tx B V wr2 l ts ∧ ts ++ ((m.code.drop k).flatMap insX ++ (m.hs.flatMap hndX ++ RR)) = G) (fun _ i _ => m.code.length - (intOf i).toNat)
          case atStart => exact ⟨0, _, Nat.zero_le _, rfl, hT6, by simpa using HG1.out⟩
          case round =>
            clear hT6
            obtain ⟨j, ts2, hj, rfl, hT, hg⟩ := hrel
            obtain ⟨_, _, _, _, _, _, g6, g7⟩ := HMB.out wr hT.kp
            have hSS := HSI.out wr (HKV.out.trans hT.kp)
            by_cases hltj : j < m.code.length
            · obtain ⟨x, hx⟩ : ∃ a, m.code[j]? = some a := ⟨_, List.getElem?_eq_getElem hltj⟩
              obtain ⟨b2, off2, hao, d0, d1, d2, d3, d4, d5⟩ := hSS.1.atI hx
              rw [flat_step insX hx, List.append_assoc] at hg
              have hlen := HGL.out _ _ hg
              obtain ⟨R2, hR2⟩ : ∃ l, l = (m.code.drop (j + 1)).flatMap insX ++ (m.hs.flatMap hndX ++ RR) := ⟨_, rfl⟩
              have HR2 : Hid (R2 = (m.code.drop (j + 1)).flatMap insX ++ (m.hs.flatMap hndX ++ RR)) := hR2
              have HG2 : Hid (ts2 ++ insX x ++ R2 = G) := by show _ = _; rw [← hg, hR2]; simp [List.append_assoc]
              clear hR2
              unfold insX at HG2
              have hts2 : ts2.length ≤ 50000 := by omega
              have hof := fun w0 => refShape_any x.op w0
              unfold shR at hof
              have hpt := pat3 (kd_range (ix x.op))
              have HKW : Hid (Kp B [9] V (wr.alloc (.cells (insC x.op x.a x.b x.c x.n x.d) 47))) := hT.kp.chr ((Ch.refl wr).alloc _)
              have hTi := hT.chr ((Ch.refl wr).alloc (.cells (insC x.op x.a x.b x.c x.n x.d) 47))
              have HIB : Hid ((wr.alloc (.cells (insC x.op x.a x.b x.c x.n x.d) 47)).heap[wr.heap.size]? = some (.cells (insC x.op x.a x.b x.c x.n x.d) 47)) := heap_alloc_new _ _
              generalize kd (ix x.op) = kk at *
              generalize sA kk = s1 at *
              generalize sB kk = s2 at *
              generalize sC kk = s3 at *
              generalize sN kk = s4 at *
              generalize sD kk = s5 at *
              generalize isOp x.op = iso at *
              clear hx hlen hg hSS hT
              subst hao
              unfold insC at *
              rcases hpt with ⟨rfl, rfl, rfl⟩ | ⟨rfl, rfl, rfl⟩ | ⟨rfl, rfl, rfl⟩ | ⟨rfl, rfl, rfl⟩
              · go_wp2_with (first
                  | (go_at_call 33; (with_reducible refine (hof _).mono ?_); rintro e w3 ⟨rfl, hc3⟩; obtain ⟨r0, r1, r2, r3, r4, r5⟩ := insC_at (kept_at hc3 HIB.out); have hlt3 : wr.heap.size < w3.heap.size := World.block_lt_of_cell? _ _ r0))
                go_roundw
                case rel => exact ⟨j + 1, _, by omega, by go_num, (hTi.chr hc3).chr ((Ch.refl _).alloc _), by rw [← HR2.out]; simpa [pickL] using HG2.out⟩
                case measure => simp [intOf]; omega
              · go_wp2_with (first
                  | (go_at_call 33; (with_reducible refine (hof _).mono ?_); rintro e w3 ⟨rfl, hc3⟩; obtain ⟨r0, r1, r2, r3, r4, r5⟩ := insC_at (kept_at hc3 HIB.out); have hlt3 : wr.heap.size < w3.heap.size := World.block_lt_of_cell? _ _ r0)
                  | (at_builtin; refine (Tx.wpL ((Tx.rebase ((hTi.chr hc3).chr ((Ch.refl w3).alloc _))).chr ((Ch.refl _).alloc _)) rfl (.tmp 83) (.tmp 86) rfl rfl rfl (sl_row (xs := [x.c]) (alloc_at _ _ _ (by simp)) 1 rfl (by omega)) (by simp; omega) ?_); intro v4 w4 hT4; obtain ⟨y0, y1, y2, y3, y4⟩ := shC_at (hT4.kp.cells (heap_alloc_new _ _) (by decide)); obtain ⟨q0, q1, q2, q3, q4, q5⟩ := insC_at (hT4.kp.cells (kept_at ((Ch.refl w3).alloc _) (kept_at hc3 HIB.out)) (by decide)); have hlt4 : wr.heap.size < w4.heap.size := World.block_lt_of_cell? _ _ q0; have hlt5 : w3.heap.size < w4.heap.size := World.block_lt_of_cell? _ _ y0))
                go_roundw
                case rel => exact ⟨j + 1, _, by omega, by go_num, hT4.back ((HKW.out.chr hc3).chr ((Ch.refl _).alloc _)), by rw [← HR2.out]; simpa [pickL] using HG2.out⟩
                case measure => simp [intOf]; omega
              · go_wp2_with (first
                  | (go_at_call 33; (with_reducible refine (hof _).mono ?_); rintro e w3 ⟨rfl, hc3⟩; obtain ⟨r0, r1, r2, r3, r4, r5⟩ := insC_at (kept_at hc3 HIB.out); have hlt3 : wr.heap.size < w3.heap.size := World.block_lt_of_cell? _ _ r0)
                  | (at_builtin; refine (Tx.wpL ((Tx.rebase ((hTi.chr hc3).chr ((Ch.refl w3).alloc _))).chr ((Ch.refl _).alloc _)) rfl (.tmp 97) (.tmp 100) rfl rfl rfl (sl_row (xs := [x.d]) (alloc_at _ _ _ (by simp)) 1 rfl (by omega)) (by simp; omega) ?_); intro v4 w4 hT4; obtain ⟨y0, y1, y2, y3, y4⟩ := shC_at (hT4.kp.cells (heap_alloc_new _ _) (by decide)); obtain ⟨q0, q1, q2, q3, q4, q5⟩ := insC_at (hT4.kp.cells (kept_at ((Ch.refl w3).alloc _) (kept_at hc3 HIB.out)) (by decide)); have hlt4 : wr.heap.size < w4.heap.size := World.block_lt_of_cell? _ _ q0; have hlt5 : w3.heap.size < w4.heap.size := World.block_lt_of_cell? _ _ y0))
                go_roundw
                case rel => exact ⟨j + 1, _, by omega, by go_num, hT4.back ((HKW.out.chr hc3).chr ((Ch.refl _).alloc _)), by rw [← HR2.out]; simpa [pickL] using HG2.out⟩
                case measure => simp [intOf]; omega
              · go_wp2_with (first
                  | (go_at_call 33; (with_reducible refine (hof _).mono ?_); rintro e w3 ⟨rfl, hc3⟩; obtain ⟨r0, r1, r2, r3, r4, r5⟩ := insC_at (kept_at hc3 HIB.out); have hlt3 : wr.heap.size < w3.heap.size := World.block_lt_of_cell? _ _ r0)
                  | (at_builtin; refine (Tx.wpL ((Tx.rebase ((hTi.chr hc3).chr ((Ch.refl w3).alloc _))).chr ((Ch.refl _).alloc _)) rfl (.tmp 83) (.tmp 86) rfl rfl rfl (sl_row (xs := [x.c]) (alloc_at _ _ _ (by simp)) 1 rfl (by omega)) (by simp; omega) ?_); intro v4 w4 hT4; obtain ⟨y0, y1, y2, y3, y4⟩ := shC_at (hT4.kp.cells (heap_alloc_new _ _) (by decide)); obtain ⟨q0, q1, q2, q3, q4, q5⟩ := insC_at (hT4.kp.cells (kept_at ((Ch.refl w3).alloc _) (kept_at hc3 HIB.out)) (by decide)); have hlt4 : wr.heap.size < w4.heap.size := World.block_lt_of_cell? _ _ q0; have hlt5 : w3.heap.size < w4.heap.size := World.block_lt_of_cell? _ _ y0)
                  | (at_builtin; refine (Tx.wpL (hT4.chr ((Ch.refl _).alloc _)) rfl (.tmp 90) (.tmp 93) rfl rfl rfl (sl_row (xs := [x.n]) (alloc_at _ _ _ (by simp)) 1 rfl (by omega)) (by simp; omega) ?_); intro v5 w5 hT5; obtain ⟨y0, y1, y2, y3, y4⟩ := shC_at (hT5.kp.cells (heap_alloc_new _ _) (by decide)); obtain ⟨q0, q1, q2, q3, q4, q5⟩ := insC_at (hT5.kp.cells (kept_at ((Ch.refl w3).alloc _) (kept_at hc3 HIB.out)) (by decide)); have hlt6 : wr.heap.size < w5.heap.size := World.block_lt_of_cell? _ _ q0; have hlt7 : w3.heap.size < w5.heap.size := World.block_lt_of_cell? _ _ y0)
                  | (at_builtin; refine (Tx.wpL (hT5.chr ((Ch.refl _).alloc _)) rfl (.tmp 97) (.tmp 100) rfl rfl rfl (sl_row (xs := [x.d]) (alloc_at _ _ _ (by simp)) 1 rfl (by omega)) (by simp; omega) ?_); intro v6 w6 hT6; obtain ⟨y0, y1, y2, y3, y4⟩ := shC_at (hT6.kp.cells (heap_alloc_new _ _) (by decide)); obtain ⟨q0, q1, q2, q3, q4, q5⟩ := insC_at (hT6.kp.cells (kept_at ((Ch.refl w3).alloc _) (kept_at hc3 HIB.out)) (by decide)); have hlt6 : wr.heap.size < w6.heap.size := World.block_lt_of_cell? _ _ q0; have hlt7 : w3.heap.size < w6.heap.size := World.block_lt_of_cell? _ _ y0))
                go_roundw
                case rel => exact ⟨j + 1, _, by omega, by go_num, hT6.back ((HKW.out.chr hc3).chr ((Ch.refl _).alloc _)), by rw [← HR2.out]; simpa [pickL] using HG2.out⟩
                case measure => simp [intOf]; omega
            · obtain rfl : j = m.code.length := by omega
              rw [flat_end insX (Nat.le_refl _), List.nil_append] at hg
              clear hltj hj
              go_wp2
              clear g6 g7 hSS
              go_loopw [3, 11] (fun l i wr2 => ∃ (k : Nat) (ts : List (List UInt8)), k ≤ m.hs.length ∧ i = .int .i64 k ∧ Tx B V wr2 l ts ∧ ts ++ ((m.hs.drop k).flatMap hndX ++ RR) = G) (fun _ i _ => m.hs.length - (intOf i).toNat)
              case atStart => exact ⟨0, _, Nat.zero_le _, rfl, hT, by simpa using hg⟩
              case round =>
                clear hT hg
                obtain ⟨j, ts2, hj, rfl, hT, hg⟩ := hrel
                obtain ⟨_, _, _, _, _, _, g6, g7⟩ := HMB.out wr hT.kp
                have hSS := HSI.out wr (HKV.out.trans hT.kp)
                by_cases hltj : j < m.hs.length
                · obtain ⟨x, hx⟩ : ∃ a, m.hs[j]? = some a := ⟨_, List.getElem?_eq_getElem hltj⟩
                  obtain ⟨b2, off2, hao, d0, d1, d2, d3⟩ := hSS.2.atH hx
                  rw [flat_step hndX hx, List.append_assoc] at hg
                  have hlen := HGL.out _ _ hg
                  have hts2 : ts2.length ≤ 50000 := by omega
                  have HG2 : Hid (ts2 ++ [bl x.c] ++ ((m.hs.drop (j + 1)).flatMap hndX ++ RR) = G) := by show _ = _; rw [← hg]; simp [hndX, List.append_assoc]
                  have hTa := hT.chr ((Ch.refl wr).alloc (.cells #[.string x.c] 9))
                  clear hx hlen hg hSS hT
                  subst hao
                  go_wp2_with (first
                    | (at_builtin; refine (Tx.wpL hTa rfl (.tmp 109) (.tmp 116) rfl rfl rfl (sl_row (xs := [x.c]) (alloc_at _ _ _ (by simp)) 1 rfl (by omega)) (by simp; omega) ?_); intro v4 w4 hT4))
                  go_roundw
                  case rel => exact ⟨j + 1, _, by omega, by go_num, hT4, HG2.out⟩
                  case measure => simp [intOf]; omega
                · obtain rfl : j = m.hs.length := by omega
                  rw [flat_end hndX (Nat.le_refl _), List.nil_append, HRR.out] at hg
                  go_wp2
                  go_roundw
                  case rel => exact ⟨k + 1, _, hAk, by go_num, hT.back HKV.out, hg⟩
                  case measure => simp [intOf]; omega
        · obtain rfl : k = c.me.length := by omega
          rw [flat_end mthX (Nat.le_refl _), List.append_nil] at hg
          subst hg
          have hS := sl_own hT.own
          obtain ⟨al, cl, rfl⟩ := own_form hT.own
          have HS : Hid (∀ w', Ch wr w' → Sl 1 RS w' (.slice al ts.length cl) (ts.map ms)) := fun w' kk => hS.keepS kk
          have HWR : Hid (Ch wb wr) := hcb
          clear hlt hk hS
          go_wp2
          clear z0 z1 z2 z3 z4 z5 z6
          obtain ⟨w1, hw1⟩ : ∃ u, u = wr := ⟨_, rfl⟩
          rw [← hw1] at HS HWR ⊢
          have hn50 : ts.length ≤ 50000 := hGl
          go_loopw [12, 13] (fun o i wr2 => ∃ (k : Nat) (t2 : List (List UInt8)), k ≤ ts.length ∧ i = .int .i64 k ∧ Tx w1.heap.size w1 wr2 o t2 ∧ addL t2 (ts.drop k) = addL [] ts ∧ t2.length ≤ k) (fun _ i _ => ts.length - (intOf i).toNat)
          case atStart => exact ⟨0, [], Nat.zero_le _, rfl, ⟨World.ownsRow_nil _ _ _ _, Kp.refl _ _ _, Nat.le_refl _⟩, by simp, by simp⟩
          case round =>
            clear hw1 hT hcb
            obtain ⟨k, t2, hk, rfl, hT, hg, ht2⟩ := hrel
            have hcr : Ch w1 wr := Kp.ch (Ch.refl w1) hT.kp (Nat.le_refl _)
            have hSr := HS.out wr hcr
            by_cases hlt : k < ts.length
            · obtain ⟨g, hx⟩ : ∃ a, ts[k]? = some a := ⟨_, List.getElem?_eq_getElem hlt⟩
              have hxm : (ts.map ms)[k]? = some (ms g) := by rw [List.getElem?_map, hx]; rfl
              obtain ⟨b, off, hao, d0⟩ := hSr.atS hxm
              have hin := in_any (t2.map ms) (ms g) _ wr (sl_own hT.own)
              have hng := in_neg t2 (ms g)
              rw [bl_ms] at hng
              have hd : ts.drop k = g :: ts.drop (k + 1) := by
                obtain ⟨h1, e1⟩ := List.getElem?_eq_some_iff.1 hx
                rw [List.drop_eq_getElem_cons h1, e1]
              rw [hd, addL] at hg
              have HG3 : Hid (addL (if isIn t2 g then t2 else t2 ++ [g]) (ts.drop (k + 1)) = addL [] ts) := hg
              have hTa := hT.chr ((Ch.refl wr).alloc (.cells #[.string (ms g)] 9))
              obtain ⟨ao, co, hov⟩ := own_form hT.own
              generalize inI (t2.map ms) (ms g) 0 = r at *
              obtain ⟨q, hq⟩ : ∃ q, isIn t2 g = q := ⟨_, rfl⟩
              have HQ : Hid (isIn t2 g = q) := hq
              have HT0 : Hid (Tx w1.heap.size w1 wr _ t2) := hT
              rw [hq] at hng
              clear hx hxm hSr hd hg hq hT
              subst hao
              subst hov
              cases q
              · go_wp2_with (first
                  | (go_at_call 44; (with_reducible refine hin.mono ?_); rintro e w' ⟨rfl, hw⟩; have hw := hw.symm; subst hw)
                  | (at_builtin; refine (Tx.wpL hTa rfl (.tmp 131) (.tmp 136) rfl rfl rfl (sl_row (xs := [ms g]) (alloc_at _ _ _ (by simp)) 1 rfl (by omega)) (by simp; omega) ?_); intro v4 w4 hT4))
                go_roundw
                case rel => exact ⟨k + 1, _, by omega, by go_num, hT4, by have e := HG3.out; rw [HQ.out] at e; simpa [bl_ms] using e, by simp; omega⟩
                case measure => simp [intOf]; omega
              · go_wp2_with (first
                  | (go_at_call 44; (with_reducible refine hin.mono ?_); rintro e w' ⟨rfl, hw⟩; have hw := hw.symm; subst hw))
                go_roundw
                case rel => exact ⟨k + 1, _, by omega, by go_num, HT0.out, by have e := HG3.out; rw [HQ.out] at e; simpa using e, by omega⟩
                case measure => simp [intOf]; omega
            · obtain rfl : k = ts.length := by omega
              rw [List.drop_length, addL] at hg
              subst hg
              go_wp2
              go_ret
              have hw1w : w.heap.size ≤ w1.heap.size := Nat.le_trans (Nat.le_of_lt hlb) HWR.out.size
              refine ⟨_, rfl, ?_, hcW.trans (HWR.out.trans hcr)⟩
              rw [HP.out]
              exact ownsRow_base hT.own hw1w
end Go.Proofs.YtdalibfgkkgcpaaGreat
