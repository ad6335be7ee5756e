/- The encoder: a method. -/
import Derived.Test.YtdalibfgkkgcpaaGreatKEncI
import Derived.Test.YtdalibfgkkgcpaaGreatKEncE
namespace Go.Proofs.YtdalibfgkkgcpaaGreat
open Go.RowKit
set_option linter.unusedVariables false

structure HOk (h : Hnd) : Prop where
  fr : 0 ≤ h.fr ∧ h.fr ≤ 65535
  to : 0 ≤ h.to ∧ h.to ≤ 65535
  pl : 0 ≤ h.pl ∧ h.pl ≤ 65535
structure MOk (m : Mth) : Prop where
  sk : 0 ≤ m.sk ∧ m.sk ≤ 255
  lo : 0 ≤ m.lo ∧ m.lo ≤ 255
  cl : m.code.length ≤ 200
  hl : m.hs.length ≤ 20
  code : ∀ x ∈ m.code, InsOk x
  hs : ∀ h ∈ m.hs, HOk h
theorem take_le {α β : Type} (f : α → List β) (n : Nat) (h : ∀ x, (f x).length ≤ n) (l : List α) (k : Nat) (N : Nat) (hk : k ≤ N) : ((l.take k).flatMap f).length ≤ n * N := by
  have h1 := flat_le f n h (l.take k)
  have h2 : (l.take k).length ≤ N := Nat.le_trans (List.length_take_le k l) hk
  exact Nat.le_trans h1 (Nat.mul_le_mul_left n h2)
theorem hndB_len (L : List (List UInt8)) (h : Hnd) : (hndB L h).length ≤ 8 := by simp [hndB, be_len, pB_len]
theorem hC_at {w : World} {g : Nat} {a b c : Int} {d : ByteArray} {t : TypeId} (h : w.heap[g]? = some (.cells #[.int .i64 a, .int .i64 b, .int .i64 c, .string d] t)) :
    w.cell? ⟨g, 0, none⟩ = some (.int .i64 a) ∧ w.cell? ⟨g, 1, none⟩ = some (.int .i64 b) ∧ w.cell? ⟨g, 2, none⟩ = some (.int .i64 c) ∧ w.cell? ⟨g, 3, none⟩ = some (.string d) := by
  refine ⟨?_, ?_, ?_, ?_⟩ <;> simp [World.cell?, h]

variable {B r M : Nat} {L : List (List UInt8)} {w0 w : World} {bs : List Int}
set_option maxRecDepth 100000 in
set_option maxHeartbeats 16000000 in
theorem Es.mth (h : Es B r M L w0 w bs) (wc : World) (hcw : Ch wc w) (hcB : wc.heap.size ≤ B) (m : Mth) (vc vh : Value) (hsc : Sl 6 RI wc vc m.code) (hsh : Sl 4 RH wc vh m.hs) (hok : MOk m) (hF : MFine m) (hl : bs.length + 4000 ≤ 2000000) :
    Calls Tryz.prog 65 #[.pointer (some ⟨r, 0, none⟩), .agg #[.string m.n, .string m.d, .bool m.st, .bool m.ab, .int .i64 m.sk, .int .i64 m.lo, vc, vh]] w fun e w' => e = .returned (.tuple #[]) ∧ Put B r M L w0 (bs ++ mthB L m) w w' := by
  have hE1 : Es B r M L w0 (w.alloc (.cells (mthC m vc vh) 45)) bs := h.chr ((Ch.refl w).alloc _)
  have HB : Hid (∀ w', Kp B [5, 63] (w.alloc (.cells (mthC m vc vh) 45)) w' → _) := fun w' k => mthC_at (k.cells (heap_alloc_new w (.cells (mthC m vc vh) 45)) (by decide))
  have HW : Hid (Kp B [5, 63] w (w.alloc (.cells (mthC m vc vh) 45))) := Kp.of_ch ((Ch.refl w).alloc _)
  have HC : Hid (∀ w', Kp B [5, 63] (w.alloc (.cells (mthC m vc vh) 45)) w' → Ch wc w') := fun w' k => Kp.ch hcw (HW.out.trans k) hcB
  have hsz1 : (w.alloc (.cells (mthC m vc vh) 45)).heap.size = w.heap.size + 1 := by simp
  have HSI : Hid (Sl 6 RI wc vc m.code) := hsc
  have HSH : Hid (Sl 4 RH wc vh m.hs) := hsh
  obtain ⟨aco, cco, rfl, hq1, hq2⟩ := hsc.form
  obtain ⟨aho, cho, rfl, hq3, hq4⟩ := hsh.form
  have ht := hE1.texts2 m.n m.d (w.heap.size + 1) hsz1.symm hF.n (Nat.le_trans hF.d (by omega)) (by omega)
  have HOK : Hid (MOk m) := hok
  have HFF : Hid (MFine m) := hF
  have hcl : m.code.length ≤ 200 := hok.cl
  have hhl : m.hs.length ≤ 20 := hok.hl
  clear h hsc hsh hok hF hcw hcB
  unfold mthC at *
  go_enter Tryz.func65, Tryz.ntmps65
  go_wp2_with fail
  generalize w.alloc (.cells #[.string m.n, .string m.d, .bool m.st, .bool m.ab, .int .i64 m.sk, .int .i64 m.lo, .slice aco m.code.length cco, .slice aho m.hs.length cho] 45) = W at *
  refine ht.mono ?_
  rintro e w2 ⟨rfl, hE2, hk2⟩
  obtain ⟨b2, hb2⟩ : ∃ l, l = bs ++ (pB L (bl m.n) ++ pB L (bl m.d)) := ⟨_, rfl⟩
  rw [← hb2] at hE2
  have hl2 : b2.length + 3996 ≤ 2000000 := by rw [hb2]; simp only [List.length_append, pB_len]; omega
  clear ht hE1 hsz1
  obtain ⟨g0, g1, g2, g3, g4, g5, g6, g7⟩ := HB.out w2 hk2
  have hy := hE2.yes m.st (by omega)
  go_wp2_with fail
  refine hy.mono ?_
  rintro e w3 ⟨rfl, hE3, hk3⟩
  have hk03 := hk2.trans hk3
  have hl3 : (b2 ++ yB m.st).length + 3995 ≤ 2000000 := by simp only [List.length_append, yB, be_len]; omega
  obtain ⟨b3, hb3⟩ : ∃ l, l = b2 ++ yB m.st := ⟨_, rfl⟩
  rw [← hb3] at hE3 hl3
  clear g0 g1 g2 g3 g4 g5 g6 g7 hy hE2 hk2 hk3
  obtain ⟨g0, g1, g2, g3, g4, g5, g6, g7⟩ := HB.out w3 hk03
  have hy := hE3.yes m.ab (by omega)
  go_wp2_with fail
  refine hy.mono ?_
  rintro e w4 ⟨rfl, hE4, hk4⟩
  have hk04 := hk03.trans hk4
  have hl4 : (b3 ++ yB m.ab).length + 3994 ≤ 2000000 := by simp only [List.length_append, yB, be_len]; omega
  obtain ⟨b4, hb4⟩ : ∃ l, l = b3 ++ yB m.ab := ⟨_, rfl⟩
  rw [← hb4] at hE4 hl4
  clear g0 g1 g2 g3 g4 g5 g6 g7 hy hE3 hk03 hk4
  obtain ⟨g0, g1, g2, g3, g4, g5, g6, g7⟩ := HB.out w4 hk04
  have hu := (hE4.chr (Ch.refl w4).drew).u1 m.sk HOK.out.sk (by omega)
  have HT : Hid (∀ w', Ch w4 w' → w'.cell? ⟨w.heap.size, 4, none⟩ = some (.int .i64 m.sk) ∧ w'.cell? ⟨w.heap.size, 5, none⟩ = some (.int .i64 m.lo)) := fun w' hw => ⟨cell_keep hw g4, cell_keep hw g5⟩
  have hlo := HOK.out.lo
  have HLO : Hid (0 ≤ m.lo ∧ m.lo ≤ 255) := hlo
  clear hlo
  go_wp2_with fail
  go_region_held (fun w' => w'.cell? ⟨w.heap.size, 4, none⟩ = some (.int .i64 m.sk) ∧ w'.cell? ⟨w.heap.size, 5, none⟩ = some (.int .i64 m.lo)) (first | assumption | (refine HT.out _ ?_; repeat (first | exact Ch.refl _ | refine Ch.drew ?_ | refine Ch.alloc ?_ _ | refine Ch.trans ?_ (by assumption)))) (first
    | (go_at_call 102; (with_reducible refine hu.mono ?_); rintro e w5 ⟨rfl, hE5, hk5⟩; have hk05 := (hk04.chr (Ch.refl w4).drew).trans hk5; have hT5 : w5.cell? ⟨w.heap.size, 4, none⟩ = some (.int .i64 m.sk) ∧ w5.cell? ⟨w.heap.size, 5, none⟩ = some (.int .i64 m.lo) := (And.intro (HB.out w5 hk05).2.2.2.2.1 (HB.out w5 hk05).2.2.2.2.2.1); have hu5 := hE5.u1 m.lo HLO.out (by simp only [List.length_append, be_len]; omega))
    | (go_at_call 102; (with_reducible refine hu5.mono ?_); rintro e w6 ⟨rfl, hE6, hk6⟩; have hk06 := hk05.trans hk6; have hT6 : w6.cell? ⟨w.heap.size, 4, none⟩ = some (.int .i64 m.sk) ∧ w6.cell? ⟨w.heap.size, 5, none⟩ = some (.int .i64 m.lo) := (And.intro (HB.out w6 hk06).2.2.2.2.1 (HB.out w6 hk06).2.2.2.2.2.1)))
  have hl6 : ((b4 ++ be m.sk 1) ++ be m.lo 1).length + 3992 ≤ 2000000 := by simp only [List.length_append, be_len]; omega
  obtain ⟨b6, hb6⟩ : ∃ l, l = (b4 ++ be m.sk 1) ++ be m.lo 1 := ⟨_, rfl⟩
  rw [← hb6] at hE6 hl6
  clear hu HT hT5 hT6 hE5 hk05 hk5 hk6 hE4 g0 g1 g2 g3 g4 g5 g6 g7 hu5 HLO hk04
  obtain ⟨g0, g1, g2, g3, g4, g5, g6, g7⟩ := HB.out w6 hk06
  have hu := (hE6.chr (Ch.refl w6).drew).u2 (m.code.length : Int) (by omega) (by omega)
  have HT : Hid (∀ w', Ch w6 w' → w'.cell? ⟨w.heap.size, 6, none⟩ = some (.slice aco m.code.length cco)) := fun w' hw => cell_keep hw g6
  go_wp2_with fail
  go_region_held (fun w' => w'.cell? ⟨w.heap.size, 6, none⟩ = some (.slice aco m.code.length cco)) (first | assumption | (refine HT.out _ ?_; repeat (first | exact Ch.refl _ | refine Ch.drew ?_ | refine Ch.alloc ?_ _ | refine Ch.trans ?_ (by assumption)))) (first
    | (go_at_call 25; (with_reducible refine hu.mono ?_); rintro e w7 ⟨rfl, hE7, hk7⟩; have hk07 := (hk06.chr (Ch.refl w6).drew).trans hk7; have hT7 := (HB.out w7 hk07).2.2.2.2.2.2.1))
  have hl7 : (b6 ++ be (m.code.length : Int) 2).length + 3990 ≤ 2000000 := by simp only [List.length_append, be_len]; omega
  obtain ⟨b7, hb7⟩ : ∃ l, l = b6 ++ be (m.code.length : Int) 2 := ⟨_, rfl⟩
  rw [← hb7] at hE7 hl7
  clear hu HT hT7 hE6 hk06 hk7 g0 g1 g2 g3 g4 g5 g6 g7
  obtain ⟨g0, g1, g2, g3, g4, g5, g6, g7⟩ := HB.out w7 hk07
  go_wp2
  clear g0 g1 g2 g3 g4 g5 g6 g7
  go_loopw [42] (fun i wr => ∃ k : Nat, k ≤ m.code.length ∧ i = .int .i64 k ∧ Put B r M L w0 (b7 ++ (m.code.take k).flatMap (insB L)) W wr) (fun i _ => m.code.length - (intOf i).toNat)
  case atStart => exact ⟨0, Nat.zero_le _, rfl, by simpa using hE7, hk07⟩
  case round =>
    clear hE7 hk07
    obtain ⟨k, hk, rfl, hE, hkr⟩ := hrel
    by_cases hlt : k < m.code.length
    · obtain ⟨x, hx⟩ : ∃ a, m.code[k]? = some a := ⟨_, List.getElem?_eq_getElem hlt⟩
      have hxs := HFF.out.code x (List.mem_of_getElem? hx)
      have hxo := HOK.out.code x (List.mem_of_getElem? hx)
      obtain ⟨b, off, hao, d0, d1, d2, d3, d4, d5⟩ := (HSI.out.keepI (HC.out wr hkr)).atI hx
      have hle := take_le (insB L) 15 (insB_le L) m.code k 200 (by omega)
      have hadd := (hE.chr ((Ch.refl wr).alloc (.cells (insC x.op x.a x.b x.c x.n x.d) 47))).ins x hxo hxs (by simp only [List.length_append]; omega)
      rw [List.append_assoc, ← flat_take (insB L) hx] at hadd
      have HKR : Hid (Kp B [5, 63] W (wr.alloc (.cells (insC x.op x.a x.b x.c x.n x.d) 47))) := hkr.chr ((Ch.refl wr).alloc _)
      unfold insC at hadd HKR
      clear hx hxs hxo hE hkr hle
      subst hao
      go_wp2_with (first
        | (go_at_call 103; (with_reducible refine hadd.mono ?_); rintro e w8 ⟨rfl, hE8, hk8⟩))
      go_roundw
      case rel => exact ⟨k + 1, by omega, by go_num, hE8, HKR.out.trans hk8⟩
      case measure => simp [intOf]; omega
    · obtain rfl : k = m.code.length := by omega
      rw [List.take_length] at hE
      have hle := flat_le (insB L) 15 (insB_le L) m.code
      have hl8 : (b7 ++ m.code.flatMap (insB L)).length + 900 ≤ 2000000 := by simp only [List.length_append]; omega
      obtain ⟨b8, hb8⟩ : ∃ l, l = b7 ++ m.code.flatMap (insB L) := ⟨_, rfl⟩
      rw [← hb8] at hE hl8
      obtain ⟨g0, g1, g2, g3, g4, g5, g6, g7⟩ := HB.out wr hkr
      have hu := (hE.chr (Ch.refl wr).drew).u2 (m.hs.length : Int) (by omega) (by omega)
      have HT : Hid (∀ w', Ch wr w' → w'.cell? ⟨w.heap.size, 7, none⟩ = some (.slice aho m.hs.length cho)) := fun w' hw => cell_keep hw g7
      clear hle hlt hk
      go_wp2_with fail
      go_region_held (fun w' => w'.cell? ⟨w.heap.size, 7, none⟩ = some (.slice aho m.hs.length cho)) (first | assumption | (refine HT.out _ ?_; repeat (first | exact Ch.refl _ | refine Ch.drew ?_ | refine Ch.alloc ?_ _ | refine Ch.trans ?_ (by assumption)))) (first
        | (go_at_call 25; (with_reducible refine hu.mono ?_); rintro e w9 ⟨rfl, hE9, hk9⟩; have hk09 := (hkr.chr (Ch.refl wr).drew).trans hk9; have hT9 := (HB.out w9 hk09).2.2.2.2.2.2.2))
      have hl9 : (b8 ++ be (m.hs.length : Int) 2).length + 898 ≤ 2000000 := by simp only [List.length_append, be_len]; omega
      obtain ⟨b9, hb9⟩ : ∃ l, l = b8 ++ be (m.hs.length : Int) 2 := ⟨_, rfl⟩
      rw [← hb9] at hE9 hl9
      clear hu HT hT9 hE hkr hk9 g0 g1 g2 g3 g4 g5 g6 g7
      obtain ⟨g0, g1, g2, g3, g4, g5, g6, g7⟩ := HB.out w9 hk09
      go_wp2
      clear g0 g1 g2 g3 g4 g5 g6 g7
      go_loopw [60] (fun i wr => ∃ k : Nat, k ≤ m.hs.length ∧ i = .int .i64 k ∧ Put B r M L w0 (b9 ++ (m.hs.take k).flatMap (hndB L)) W wr) (fun i _ => m.hs.length - (intOf i).toNat)
      case atStart => exact ⟨0, Nat.zero_le _, rfl, by simpa using hE9, hk09⟩
      case round =>
        clear hE9 hk09
        obtain ⟨k, hk, rfl, hE, hkr⟩ := hrel
        by_cases hlt : k < m.hs.length
        · obtain ⟨x, hx⟩ : ∃ a, m.hs[k]? = some a := ⟨_, List.getElem?_eq_getElem hlt⟩
          have hxs := HFF.out.hs x (List.mem_of_getElem? hx)
          have hxo := HOK.out.hs x (List.mem_of_getElem? hx)
          obtain ⟨b, off, hao, d0, d1, d2, d3⟩ := (HSH.out.keepH (HC.out wr hkr)).atH hx
          have hle := take_le (hndB L) 8 (hndB_len L) m.hs k 20 (by omega)
          have HKR : Hid (Kp B [5, 63] W (wr.alloc (.cells #[.int .i64 x.fr, .int .i64 x.to, .int .i64 x.pl, .string x.c] 77))) := hkr.chr ((Ch.refl wr).alloc _)
          have HX : Hid (m.hs[k]? = some x) := hx
          have hE1 := hE.chr ((Ch.refl wr).alloc (.cells #[.int .i64 x.fr, .int .i64 x.to, .int .i64 x.pl, .string x.c] 77))
          have HBX : Hid (∀ w', Kp B [5, 63] (wr.alloc (.cells #[.int .i64 x.fr, .int .i64 x.to, .int .i64 x.pl, .string x.c] 77)) w' → _) := fun w' k => hC_at (k.cells (heap_alloc_new wr (.cells #[.int .i64 x.fr, .int .i64 x.to, .int .i64 x.pl, .string x.c] 77)) (by decide))
          have hlr : (b9 ++ (m.hs.take k).flatMap (hndB L)).length + 100 ≤ 2000000 := by simp only [List.length_append]; omega
          obtain ⟨br, hbr⟩ : ∃ l, l = b9 ++ (m.hs.take k).flatMap (hndB L) := ⟨_, rfl⟩
          rw [← hbr] at hE1 hlr
          have HO1 : Hid (0 ≤ x.fr ∧ x.fr ≤ 65535) := hxo.fr
          have HO2 : Hid (0 ≤ x.to ∧ x.to ≤ 65535) := hxo.to
          have HO3 : Hid (0 ≤ x.pl ∧ x.pl ≤ 65535) := hxo.pl
          clear hx hxo hE hkr hle
          subst hao
          go_wp2_with fail
          generalize wr.alloc (.cells #[.int .i64 x.fr, .int .i64 x.to, .int .i64 x.pl, .string x.c] 77) = V at *
          obtain ⟨y0, y1, y2, y3⟩ := HBX.out V (Kp.refl _ _ _)
          have hu1 := (hE1.chr (Ch.refl V).drew).u2 x.fr HO1.out (by omega)
          have HT : Hid (∀ w', Ch V w' → w'.cell? ⟨wr.heap.size, 0, none⟩ = some (.int .i64 x.fr) ∧ w'.cell? ⟨wr.heap.size, 1, none⟩ = some (.int .i64 x.to) ∧ w'.cell? ⟨wr.heap.size, 2, none⟩ = some (.int .i64 x.pl)) := fun w' hw => ⟨cell_keep hw y0, cell_keep hw y1, cell_keep hw y2⟩
          have HTK : Hid (∀ w', Kp B [5, 63] V w' → w'.cell? ⟨wr.heap.size, 0, none⟩ = some (.int .i64 x.fr) ∧ w'.cell? ⟨wr.heap.size, 1, none⟩ = some (.int .i64 x.to) ∧ w'.cell? ⟨wr.heap.size, 2, none⟩ = some (.int .i64 x.pl)) := fun w' k => ⟨(HBX.out w' k).1, (HBX.out w' k).2.1, (HBX.out w' k).2.2.1⟩
          go_region_held (fun w' => w'.cell? ⟨wr.heap.size, 0, none⟩ = some (.int .i64 x.fr) ∧ w'.cell? ⟨wr.heap.size, 1, none⟩ = some (.int .i64 x.to) ∧ w'.cell? ⟨wr.heap.size, 2, none⟩ = some (.int .i64 x.pl)) (first | assumption | (refine HT.out _ ?_; repeat (first | exact Ch.refl _ | refine Ch.drew ?_ | refine Ch.alloc ?_ _ | refine Ch.trans ?_ (by assumption)))) (first
            | (go_at_call 25; (with_reducible refine hu1.mono ?_); rintro e w10 ⟨rfl, hE10, hk10⟩; have hk010 := (Kp.of_ch (Ch.refl V).drew).trans hk10; have hT10 := HTK.out w10 hk010; have hu2 := hE10.u2 x.to HO2.out (by simp only [List.length_append, be_len]; omega))
            | (go_at_call 25; (with_reducible refine hu2.mono ?_); rintro e w11 ⟨rfl, hE11, hk11⟩; have hk011 := hk010.trans hk11; have hT11 := HTK.out w11 hk011; have hu3 := hE11.u2 x.pl HO3.out (by simp only [List.length_append, be_len]; omega))
            | (go_at_call 25; (with_reducible refine hu3.mono ?_); rintro e w12 ⟨rfl, hE12, hk12⟩; have hk012 := hk011.trans hk12; have hT12 := HTK.out w12 hk012))
          clear hu1 hu2 hu3 HT HTK hT10 hT11 hT12 hE10 hE11 hE1 y0 y1 y2 y3
          obtain ⟨y0, y1, y2, y3⟩ := HBX.out w12 hk012
          have ht := hE12.texts1 x.c w12.heap.size rfl hxs (by simp only [List.length_append, be_len]; omega)
          go_wp2_with (first
            | (go_at_call 63; (with_reducible refine ht.mono ?_); rintro e w13 ⟨rfl, hE13, hk13⟩))
          go_roundw
          case rel =>
            refine ⟨k + 1, by omega, by go_num, ?_, (HKR.out.trans hk012).trans hk13⟩
            rw [hbr] at hE13
            rw [flat_take (hndB L) HX.out]
            simpa [hndB, List.append_assoc] using hE13
          case measure => simp [intOf]; omega
        · obtain rfl : k = m.hs.length := by omega
          rw [List.take_length] at hE
          go_wp2
          go_end0
          refine ⟨rfl, ?_, HW.out.trans hkr⟩
          rw [hb9, hb8, hb7, hb6, hb4, hb3, hb2] at hE
          simpa [mthB, List.append_assoc] using hE
end Go.Proofs.YtdalibfgkkgcpaaGreat
