/- A class that may be; its bytes. -/
import Derived.Test.YtdalibfgkkgcpaaGreatKEncM
import Derived.Test.YtdalibfgkkgcpaaGreatKAwB
namespace Go.Proofs.YtdalibfgkkgcpaaGreat
open Go.RowKit
set_option linter.unusedVariables false

structure COk (c : Cls) : Prop where
  il : c.im.length ≤ 30
  fl : c.fs.length ≤ 20
  ml : c.me.length ≤ 20
  me : ∀ m ∈ c.me, MOk m
theorem fldB_len (L : List (List UInt8)) (f : Fld) : (fldB L f).length ≤ 5 := by simp [fldB, yB, be_len, pB_len]
theorem mthB_len (L : List (List UInt8)) (m : Mth) (h : MOk m) : (mthB L m).length ≤ 3400 := by
  have h1 := flat_le (insB L) 15 (insB_le L) m.code
  have h2 := flat_le (hndB L) 8 (hndB_len L) m.hs
  have := h.cl; have := h.hl
  simp only [mthB, yB, List.length_append, be_len, pB_len]
  omega
theorem flat_le' {α β : Type} (f : α → List β) (n : Nat) : ∀ l : List α, (∀ x ∈ l, (f x).length ≤ n) → (l.flatMap f).length ≤ n * l.length
  | [], _ => by simp
  | x :: l, h => by
    have h1 := flat_le' f n l (fun y hy => h y (List.mem_cons_of_mem _ hy))
    have h2 := h x (List.mem_cons_self ..)
    rw [List.flatMap_cons, List.length_append, List.length_cons, Nat.mul_add]
    omega
theorem mths_le (L : List (List UInt8)) (c : Cls) (h : COk c) (k : Nat) : ((c.me.take k).flatMap (mthB L)).length ≤ 68000 := by
  have h1 := flat_le' (mthB L) 3400 (c.me.take k) (fun m hm => mthB_len L m (h.me m (List.mem_of_mem_take hm)))
  have h2 : (c.me.take k).length ≤ 20 := by rw [List.length_take]; have := h.ml; omega
  omega
theorem fC_at {w : World} {g : Nat} {a b : ByteArray} {c : Bool} {t : TypeId} (h : w.heap[g]? = some (.cells #[.string a, .string b, .bool c] t)) :
    w.cell? ⟨g, 0, none⟩ = some (.string a) ∧ w.cell? ⟨g, 1, none⟩ = some (.string b) ∧ w.cell? ⟨g, 2, none⟩ = some (.bool c) := by
  refine ⟨?_, ?_, ?_⟩ <;> simp [World.cell?, h]

variable {B r M : Nat} {L : List (List UInt8)} {w0 w : World} {bs : List Int}
set_option maxRecDepth 100000 in
set_option maxHeartbeats 16000000 in
theorem Es.cls (h : Es B r M L w0 w bs) (wc : World) (hcw : Ch wc w) (hcB : wc.heap.size ≤ B) (c : Cls) (vi vf vm : Value) (hC : ClsAt wc c vi vf vm) (hok : COk c) (hF : Fine c) (hl : bs.length + 100000 ≤ 2000000) :
    Calls Tryz.prog 27 #[.pointer (some ⟨r, 0, none⟩), .agg #[.string c.n, .string c.s, .bool c.it, .bool c.ab, vi, vf, vm]] w fun e w' => e = .returned (.tuple #[]) ∧ Put B r M L w0 (bs ++ clsB L c) w w' := by
  have hE1 : Es B r M L w0 (w.alloc (.cells (clsC c vi vf vm) 26)) bs := h.chr ((Ch.refl w).alloc _)
  have HB : Hid (∀ w', Kp B [5, 63] (w.alloc (.cells (clsC c vi vf vm) 26)) w' → _) := fun w' k => clsC_at (k.cells (heap_alloc_new w (.cells (clsC c vi vf vm) 26)) (by decide))
  have HW : Hid (Kp B [5, 63] w (w.alloc (.cells (clsC c vi vf vm) 26))) := Kp.of_ch ((Ch.refl w).alloc _)
  have HC : Hid (∀ w', Kp B [5, 63] (w.alloc (.cells (clsC c vi vf vm) 26)) w' → Ch wc w') := fun w' k => Kp.ch hcw (HW.out.trans k) hcB
  have hsz1 : (w.alloc (.cells (clsC c vi vf vm) 26)).heap.size = w.heap.size + 1 := by simp
  obtain ⟨hsi, hsf, hsm⟩ := hC
  have HSS : Hid (∀ b off n c', vi = .slice (some ⟨b, off, none⟩) n c' → 0 < c.im.length → b < B) := fun b off n c' e hp => Nat.lt_of_lt_of_le (sl_lt hsi (fun cs a h => by rw [h]; simp) b off n c' e hp) hcB
  have HSI : Hid (Sl 1 RS wc vi c.im) := hsi
  have HSF : Hid (Sl 3 RF wc vf c.fs) := hsf
  have HSM : Hid (Sl 8 RM wc vm c.me) := hsm
  obtain ⟨ai, ci, rfl, hq1, hq2⟩ := hsi.form
  obtain ⟨af, cf, rfl, hq3, hq4⟩ := hsf.form
  obtain ⟨am, cm, rfl, hq5, hq6⟩ := hsm.form
  have ht := hE1.texts2 c.n c.s (w.heap.size + 1) hsz1.symm hF.n hF.s (by omega)
  have HOK : Hid (COk c) := hok
  have HFF : Hid (Fine c) := hF
  have HCB : Hid (wc.heap.size ≤ B) := hcB
  have hil : c.im.length ≤ 30 := hok.il
  have hfl : c.fs.length ≤ 20 := hok.fl
  have hml : c.me.length ≤ 20 := hok.ml
  clear h hsi hsf hsm hok hF hcw hcB
  unfold clsC at *
  go_enter Tryz.func27, Tryz.ntmps27
  go_wp2_with fail
  generalize w.alloc (.cells #[.string c.n, .string c.s, .bool c.it, .bool c.ab, .slice ai c.im.length ci, .slice af c.fs.length cf, .slice am c.me.length cm] 26) = W at *
  refine ht.mono ?_
  rintro e w2 ⟨rfl, hE2, hk2⟩
  obtain ⟨b2, hb2⟩ : ∃ l, l = bs ++ (pB L (bl c.n) ++ pB L (bl c.s)) := ⟨_, rfl⟩
  rw [← hb2] at hE2
  have hl2 : b2.length + 99996 ≤ 2000000 := by rw [hb2]; simp only [List.length_append, pB_len]; omega
  clear ht hE1 hsz1
  obtain ⟨g0, g1, g2, g3, g4, g5, g6⟩ := HB.out w2 hk2
  have hy := hE2.yes c.it (by omega)
  go_wp2_with fail
  refine hy.mono ?_
  rintro e w3 ⟨rfl, hE3, hk3⟩
  have hk03 := hk2.trans hk3
  have hl3 : (b2 ++ yB c.it).length + 99995 ≤ 2000000 := by simp only [List.length_append, yB, be_len]; omega
  obtain ⟨b3, hb3⟩ : ∃ l, l = b2 ++ yB c.it := ⟨_, rfl⟩
  rw [← hb3] at hE3 hl3
  clear g0 g1 g2 g3 g4 g5 g6 hy hE2 hk2 hk3
  obtain ⟨g0, g1, g2, g3, g4, g5, g6⟩ := HB.out w3 hk03
  have hy := hE3.yes c.ab (by omega)
  go_wp2_with fail
  refine hy.mono ?_
  rintro e w4 ⟨rfl, hE4, hk4⟩
  have hk04 := hk03.trans hk4
  have hl4 : (b3 ++ yB c.ab).length + 99994 ≤ 2000000 := by simp only [List.length_append, yB, be_len]; omega
  obtain ⟨b4, hb4⟩ : ∃ l, l = b3 ++ yB c.ab := ⟨_, rfl⟩
  rw [← hb4] at hE4 hl4
  clear g0 g1 g2 g3 g4 g5 g6 hy hE3 hk03 hk4
  obtain ⟨g0, g1, g2, g3, g4, g5, g6⟩ := HB.out w4 hk04
  have hu := (hE4.chr (Ch.refl w4).drew).u2 (c.im.length : Int) (by omega) (by omega)
  have HT : Hid (∀ w', Ch w4 w' → w'.cell? ⟨w.heap.size, 4, none⟩ = some (.slice ai c.im.length ci)) := fun w' hw => cell_keep hw g4
  go_wp2_with fail
  go_region_held (fun w' => w'.cell? ⟨w.heap.size, 4, none⟩ = some (.slice ai c.im.length ci)) (first | assumption | (refine HT.out _ ?_; repeat (first | exact Ch.refl _ | refine Ch.drew ?_ | refine Ch.alloc ?_ _ | refine Ch.trans ?_ (by assumption)))) (first
    | (go_at_call 25; (with_reducible refine hu.mono ?_); rintro e w5 ⟨rfl, hE5, hk5⟩; have hk05 := (hk04.chr (Ch.refl w4).drew).trans hk5; have hT5 := (HB.out w5 hk05).2.2.2.2.1))
  have hl5 : (b4 ++ be (c.im.length : Int) 2).length + 99992 ≤ 2000000 := by simp only [List.length_append, be_len]; omega
  obtain ⟨b5, hb5⟩ : ∃ l, l = b4 ++ be (c.im.length : Int) 2 := ⟨_, rfl⟩
  rw [← hb5] at hE5 hl5
  clear hu HT hT5 hE4 hk04 hk5 g0 g1 g2 g3 g4 g5 g6
  obtain ⟨g0, g1, g2, g3, g4, g5, g6⟩ := HB.out w5 hk05
  have ht := hE5.texts c.im (.slice ai c.im.length ci) (HSI.out.keepS (HC.out w5 hk05)) (fun b off n c' e hp => Or.inl (HSS.out b off n c' e hp)) HFF.out.im (by omega)
  go_wp2_with fail
  refine ht.mono ?_
  rintro e w6 ⟨rfl, hE6, hk6⟩
  have hk06 := hk05.trans hk6
  have hl6 : (b5 ++ (c.im.map bl).flatMap (pB L)).length + 99932 ≤ 2000000 := by
    have := flat_le (pB L) 2 (fun s => by rw [pB_len]; omega) (c.im.map bl)
    rw [List.length_map] at this
    simp only [List.length_append]; omega
  obtain ⟨b6, hb6⟩ : ∃ l, l = b5 ++ (c.im.map bl).flatMap (pB L) := ⟨_, rfl⟩
  rw [← hb6] at hE6 hl6
  clear ht hE5 hk05 hk6 g0 g1 g2 g3 g4 g5 g6
  obtain ⟨g0, g1, g2, g3, g4, g5, g6⟩ := HB.out w6 hk06
  have hu := (hE6.chr (Ch.refl w6).drew).u2 (c.fs.length : Int) (by omega) (by omega)
  have HT : Hid (∀ w', Ch w6 w' → w'.cell? ⟨w.heap.size, 5, none⟩ = some (.slice af c.fs.length cf)) := fun w' hw => cell_keep hw g5
  go_wp2_with fail
  go_region_held (fun w' => w'.cell? ⟨w.heap.size, 5, none⟩ = some (.slice af c.fs.length cf)) (first | assumption | (refine HT.out _ ?_; repeat (first | exact Ch.refl _ | refine Ch.drew ?_ | refine Ch.alloc ?_ _ | refine Ch.trans ?_ (by assumption)))) (first
    | (go_at_call 25; (with_reducible refine hu.mono ?_); rintro e w7 ⟨rfl, hE7, hk7⟩; have hk07 := (hk06.chr (Ch.refl w6).drew).trans hk7; have hT7 := (HB.out w7 hk07).2.2.2.2.2.1))
  have hl7 : (b6 ++ be (c.fs.length : Int) 2).length + 99930 ≤ 2000000 := by simp only [List.length_append, be_len]; omega
  obtain ⟨b7, hb7⟩ : ∃ l, l = b6 ++ be (c.fs.length : Int) 2 := ⟨_, rfl⟩
  rw [← hb7] at hE7 hl7
  clear hu HT hT7 hE6 hk06 hk7 g0 g1 g2 g3 g4 g5 g6
  obtain ⟨g0, g1, g2, g3, g4, g5, g6⟩ := HB.out w7 hk07
  go_wp2
  clear g0 g1 g2 g3 g4 g5 g6
  go_loopw [44] (fun i wr => ∃ k : Nat, k ≤ c.fs.length ∧ i = .int .i64 k ∧ Put B r M L w0 (b7 ++ (c.fs.take k).flatMap (fldB L)) W wr) (fun i _ => c.fs.length - (intOf i).toNat)
  case atStart => exact ⟨0, Nat.zero_le _, rfl, by simpa using hE7, hk07⟩
  case round =>
    clear hE7 hk07
    obtain ⟨k, hk, rfl, hE, hkr⟩ := hrel
    by_cases hlt : k < c.fs.length
    · obtain ⟨x, hx⟩ : ∃ a, c.fs[k]? = some a := ⟨_, List.getElem?_eq_getElem hlt⟩
      obtain ⟨hxn, hxd⟩ := HFF.out.fs x (List.mem_of_getElem? hx)
      obtain ⟨b, off, hao, d0, d1, d2⟩ := (HSF.out.keepF (HC.out wr hkr)).atF hx
      have hle := take_le (fldB L) 5 (fldB_len L) c.fs k 20 (by omega)
      have HKR : Hid (Kp B [5, 63] W (wr.alloc (.cells #[.string x.n, .string x.d, .bool x.st] 54))) := hkr.chr ((Ch.refl wr).alloc _)
      have HX : Hid (c.fs[k]? = some x) := hx
      have hE1 := hE.chr ((Ch.refl wr).alloc (.cells #[.string x.n, .string x.d, .bool x.st] 54))
      have HBX : Hid (∀ w', Kp B [5, 63] (wr.alloc (.cells #[.string x.n, .string x.d, .bool x.st] 54)) w' → _) := fun w' k => fC_at (k.cells (heap_alloc_new wr (.cells #[.string x.n, .string x.d, .bool x.st] 54)) (by decide))
      have hlr : (b7 ++ (c.fs.take k).flatMap (fldB L)).length + 50000 ≤ 2000000 := by simp only [List.length_append]; omega
      obtain ⟨br, hbr⟩ : ∃ l, l = b7 ++ (c.fs.take k).flatMap (fldB L) := ⟨_, rfl⟩
      rw [← hbr] at hE1 hlr
      have ht := hE1.texts2 x.n x.d (wr.heap.size + 1) (by simp) hxn hxd (by omega)
      clear hx hE hkr hle
      subst hao
      go_wp2_with (first
        | (go_at_call 63; (with_reducible refine ht.mono ?_); rintro e w8 ⟨rfl, hE8, hk8⟩; obtain ⟨y0, y1, y2⟩ := HBX.out w8 hk8; have hy := hE8.yes x.st (by simp only [List.length_append, pB_len]; omega))
        | (go_at_call 64; (with_reducible refine hy.mono ?_); rintro e w9 ⟨rfl, hE9, hk9⟩))
      go_roundw
      case rel =>
        refine ⟨k + 1, by omega, by go_num, ?_, (HKR.out.trans hk8).trans hk9⟩
        rw [hbr] at hE9
        rw [flat_take (fldB L) HX.out]
        simpa [fldB, List.append_assoc] using hE9
      case measure => simp [intOf]; omega
    · obtain rfl : k = c.fs.length := by omega
      rw [List.take_length] at hE
      have hle := flat_le (fldB L) 5 (fldB_len L) c.fs
      have hl8 : (b7 ++ c.fs.flatMap (fldB L)).length + 99830 ≤ 2000000 := by simp only [List.length_append]; omega
      obtain ⟨b8, hb8⟩ : ∃ l, l = b7 ++ c.fs.flatMap (fldB L) := ⟨_, rfl⟩
      rw [← hb8] at hE hl8
      obtain ⟨g0, g1, g2, g3, g4, g5, g6⟩ := HB.out wr hkr
      have hu := (hE.chr (Ch.refl wr).drew).u2 (c.me.length : Int) (by omega) (by omega)
      have HT : Hid (∀ w', Ch wr w' → w'.cell? ⟨w.heap.size, 6, none⟩ = some (.slice am c.me.length cm)) := fun w' hw => cell_keep hw g6
      clear hle hlt hk
      go_wp2_with fail
      go_region_held (fun w' => w'.cell? ⟨w.heap.size, 6, none⟩ = some (.slice am c.me.length cm)) (first | assumption | (refine HT.out _ ?_; repeat (first | exact Ch.refl _ | refine Ch.drew ?_ | refine Ch.alloc ?_ _ | refine Ch.trans ?_ (by assumption)))) (first
        | (go_at_call 25; (with_reducible refine hu.mono ?_); rintro e w9 ⟨rfl, hE9, hk9⟩; have hk09 := (hkr.chr (Ch.refl wr).drew).trans hk9; have hT9 := (HB.out w9 hk09).2.2.2.2.2.2))
      have hl9 : (b8 ++ be (c.me.length : Int) 2).length + 99828 ≤ 2000000 := by simp only [List.length_append, be_len]; omega
      obtain ⟨b9, hb9⟩ : ∃ l, l = b8 ++ be (c.me.length : Int) 2 := ⟨_, rfl⟩
      rw [← hb9] at hE9 hl9
      clear hu HT hT9 hE hkr hk9 g0 g1 g2 g3 g4 g5 g6
      obtain ⟨g0, g1, g2, g3, g4, g5, g6⟩ := HB.out w9 hk09
      go_wp2
      clear g0 g1 g2 g3 g4 g5 g6
      go_loopw [70] (fun i wr => ∃ k : Nat, k ≤ c.me.length ∧ i = .int .i64 k ∧ Put B r M L w0 (b9 ++ (c.me.take k).flatMap (mthB L)) W wr) (fun i _ => c.me.length - (intOf i).toNat)
      case atStart => exact ⟨0, Nat.zero_le _, rfl, by simpa using hE9, hk09⟩
      case round =>
        clear hE9 hk09
        obtain ⟨k, hk, rfl, hE, hkr⟩ := hrel
        by_cases hlt : k < c.me.length
        · obtain ⟨m, hx⟩ : ∃ a, c.me[k]? = some a := ⟨_, List.getElem?_eq_getElem hlt⟩
          have hmF := HFF.out.me m (List.mem_of_getElem? hx)
          have hmO := HOK.out.me m (List.mem_of_getElem? hx)
          obtain ⟨b, off, vc, vh, hao, hsc, hsh, z0, z1, z2, z3, z4, z5, z6, z7⟩ := HSM.out.atM hx
          have hcw := HC.out wr hkr
          have d0 := cell_keep hcw z0
          have d1 := cell_keep hcw z1
          have d2 := cell_keep hcw z2
          have d3 := cell_keep hcw z3
          have d4 := cell_keep hcw z4
          have d5 := cell_keep hcw z5
          have d6 := cell_keep hcw z6
          have d7 := cell_keep hcw z7
          have hle := mths_le L c HOK.out k
          have hadd := (hE.chr ((Ch.refl wr).alloc (.cells (mthC m vc vh) 45))).mth wc (hcw.alloc _) HCB.out m vc vh hsc hsh hmO hmF (by simp only [List.length_append]; omega)
          rw [List.append_assoc, ← flat_take (mthB L) hx] at hadd
          have HKR : Hid (Kp B [5, 63] W (wr.alloc (.cells (mthC m vc vh) 45))) := hkr.chr ((Ch.refl wr).alloc _)
          unfold mthC at hadd HKR
          obtain ⟨ac, cc, rfl, _, _⟩ := hsc.form
          obtain ⟨ah, ch, rfl, _, _⟩ := hsh.form
          clear hx hmF hmO hE hkr hle hsc hsh hcw z0 z1 z2 z3 z4 z5 z6 z7
          subst hao
          go_wp2_with (first
            | (go_at_call 65; (with_reducible refine hadd.mono ?_); rintro e w8 ⟨rfl, hE8, hk8⟩))
          go_roundw
          case rel => exact ⟨k + 1, by omega, by go_num, hE8, HKR.out.trans hk8⟩
          case measure => simp [intOf]; omega
        · obtain rfl : k = c.me.length := by omega
          rw [List.take_length] at hE
          go_wp2
          go_end0
          refine ⟨rfl, ?_, HW.out.trans hkr⟩
          rw [hb9, hb8, hb7, hb6, hb5, hb4, hb3, hb2] at hE
          simpa [clsB, List.append_assoc] using hE

open Go.RowKit
set_option linter.unusedVariables false

theorem firstF_zero {α : Type} (f : α → Int) : ∀ l : List α, firstF f l = 0 → ∀ x ∈ l, f x = 0
  | y :: l, h, x, hx => by
    rw [firstF] at h
    by_cases e : f y = 0
    · rw [if_pos e] at h
      rcases List.mem_cons.1 hx with rfl | hx
      · exact e
      · exact firstF_zero f l h x hx
    · rw [if_neg e] at h
      exact absurd h e
theorem orL_zero : ∀ l : List Int, orL l = 0 → ∀ x ∈ l, x = 0
  | y :: l, h, x, hx => by
    rw [orL] at h
    by_cases e : y = 0
    · rw [if_pos e] at h
      rcases List.mem_cons.1 hx with rfl | hx
      · exact e
      · exact orL_zero l h x hx
    · rw [if_neg e] at h
      exact absurd h e
theorem kd_zero {op : Int} (h : ¬ (0 ≤ op ∧ op ≤ 38)) : kd (ix op) = 0 := by
  unfold ix
  rw [if_neg h]
  decide
theorem insOk_of {len loc : Int} {x : Ins} (h : insE len loc x = 0) : InsOk x := by
  unfold insE chk at h
  by_cases k0 : kd (ix x.op) = 0
  · rw [if_pos k0] at h; omega
  · rw [if_neg k0] at h
    by_cases h1 : (sA (kd (ix x.op)) && !isI x.a || sB (kd (ix x.op)) && !isI x.b) = true
    · rw [if_pos h1] at h; omega
    · have hI : ∀ n : Int, isI n = true → -2147483648 ≤ n ∧ n ≤ 2147483647 := fun n hn => by simpa [isI] using hn
      refine ⟨?_, fun ha => hI _ ?_, fun hb => hI _ ?_⟩
      · by_cases e : 0 ≤ x.op ∧ x.op ≤ 38
        · omega
        · exact absurd (kd_zero e) k0
      · cases hi : isI x.a
        · exact absurd (by simp [ha, hi]) h1
        · rfl
      · cases hi : isI x.b
        · exact absurd (by simp [hb, hi]) h1
        · rfl
theorem hOk_of {len : Int} {x : Hnd} (h : hndE len x = 0) (hl : len ≤ 200) : HOk x := by
  unfold hndE at h
  by_cases h1 : (decide (x.fr < 0) || decide (x.to ≤ x.fr) || decide (len < x.to) || decide (x.pl < 0) || decide (len ≤ x.pl)) = true
  · rw [if_pos h1] at h; omega
  · simp at h1
    exact ⟨by omega, by omega, by omega⟩
theorem mOk_of {m : Mth} (h : mthE m = 0) : MOk m := by
  unfold mthE at h
  split at h
  · omega
  · rename_i p hp
    by_cases h1 : (!mayN m (ms p.2)) = true
    · rw [if_pos h1] at h; omega
    rw [if_neg h1] at h
    by_cases h2 : (!witM m) = true
    · rw [if_pos h2] at h; omega
    rw [if_neg h2] at h
    simp [witM] at h2
    obtain ⟨w1, w2, w3, w4, w5, w6⟩ := h2
    by_cases h3 : (m.ab && !barM m) = true
    · rw [if_pos h3] at h; omega
    rw [if_neg h3] at h
    by_cases h4 : (!m.ab && ((m.code.length : Int) == 0)) = true
    · rw [if_pos h4] at h; omega
    rw [if_neg h4] at h
    by_cases h5 : m.ab = true
    · have hb : barM m = true := by
        cases hb : barM m
        · exact absurd (by simp [h5, hb]) h3
        · rfl
      simp [barM] at hb
      have hc0 : m.code = [] := hb.2.2.2.1
      have hh0 : m.hs = [] := hb.2.2.2.2
      refine ⟨by omega, by omega, by omega, by omega, fun x hx => ?_, fun x hx => ?_⟩
      · rw [hc0] at hx; cases hx
      · rw [hh0] at hx; cases hx
    · rw [if_neg h5] at h
      by_cases h6 : m.lo < argM m p.1.length
      · rw [if_pos h6] at h; omega
      rw [if_neg h6] at h
      have hz := orL_zero _ h
      refine ⟨by omega, by omega, by omega, by omega, fun x hx => ?_, fun x hx => ?_⟩
      · exact insOk_of (firstF_zero _ _ (hz (firstF (insE m.code.length m.lo) m.code) (by simp)) x hx)
      · exact hOk_of (firstF_zero _ _ (hz (firstF (hndE m.code.length) m.hs) (by simp)) x hx) (by omega)
theorem cOk_of {c : Cls} (h : chkE c = 0) : COk c ∧ (poolL c).length ≤ 500 := by
  have hz := orL_zero _ h
  have h1 : hdE c = 0 := hz _ (by simp)
  have h2 : firstF mthE c.me = 0 := hz _ (by simp)
  have h3 : polE c = 0 := hz _ (by simp)
  unfold hdE at h1
  by_cases e : (isName (bl c.n) && (empOr c.s && (firstF nmE c.im == 0))) = true
  · rw [if_pos e] at h1
    by_cases e2 : (decide ((30 : Int) < c.im.length) || (decide ((20 : Int) < c.fs.length) || decide ((20 : Int) < c.me.length))) = true
    · rw [if_pos e2] at h1; omega
    · simp at e2
      refine ⟨⟨by omega, by omega, by omega, fun m hm => mOk_of (firstF_zero _ _ h2 m hm)⟩, ?_⟩
      unfold polE at h3
      by_cases e3 : (500 : Int) < ((poolL c).length : Int)
      · rw [if_pos e3] at h3; omega
      · omega
  · rw [if_neg e] at h1; omega

theorem sum_app (a b : List (List UInt8)) : ((a ++ b).map List.length).sum = (a.map List.length).sum + (b.map List.length).sum := by rw [List.map_append, List.sum_append]
theorem addL_sum : ∀ (xs ts : List (List UInt8)), ((addL ts xs).map List.length).sum ≤ (ts.map List.length).sum + (xs.map List.length).sum
  | [], ts => by simp [addL]
  | s :: r, ts => by
    rw [addL]
    have h := addL_sum r (if isIn ts s then ts else ts ++ [s])
    rw [List.map_cons, List.sum_cons]
    by_cases e : isIn ts s = true
    · rw [if_pos e] at h ⊢; omega
    · rw [if_neg e] at h ⊢
      rw [sum_app] at h
      simp at h ⊢
      omega
theorem flat_sum {α : Type} (g : α → List (List UInt8)) (f : α → Nat) (h : ∀ x, ((g x).map List.length).sum ≤ f x) : ∀ l : List α, ((l.flatMap g).map List.length).sum ≤ (l.map f).sum
  | [] => by simp
  | x :: l => by
    have h1 := flat_sum g f h l
    have h2 := h x
    rw [List.flatMap_cons, sum_app, List.map_cons, List.sum_cons]
    omega
theorem pick_sum (b : Bool) (s : ByteArray) : ((pickL b s).map List.length).sum ≤ s.size := by cases b <;> simp [pickL, bl_len]
theorem insX_sum (x : Ins) : ((insX x).map List.length).sum ≤ insT x := by
  unfold insX insT
  rw [sum_app, sum_app]
  have h1 := pick_sum (sC (kd (ix x.op))) x.c
  have h2 := pick_sum (sN (kd (ix x.op))) x.n
  have h3 := pick_sum (sD (kd (ix x.op))) x.d
  omega
theorem mthX_sum (m : Mth) : ((mthX m).map List.length).sum ≤ mthT m := by
  unfold mthX mthT
  have h1 := flat_sum insX insT insX_sum m.code
  have h2 := flat_sum hndX (fun h => h.c.size) (fun x => by simp [hndX, bl_len]) m.hs
  rw [sum_app, sum_app]
  simp only [List.map_cons, List.map_nil, List.sum_cons, List.sum_nil, bl_len]
  omega
theorem clsX_sum (c : Cls) : ((clsX c).map List.length).sum ≤ clsT c := by
  unfold clsX clsT
  have h1 := flat_sum mthX mthT mthX_sum c.me
  have h2 := flat_sum fldX (fun f => 1 + f.n.size + f.d.size) (fun x => by simp only [fldX, List.map_cons, List.map_nil, List.sum_cons, List.sum_nil, bl_len]; omega) c.fs
  have h3 : ((c.im.map bl).map List.length).sum ≤ (c.im.map fun s => 1 + s.size).sum := by
    generalize c.im = l
    induction l with
    | nil => simp
    | cons x l ih => simp only [List.map_cons, List.sum_cons, bl_len]; omega
  rw [sum_app, sum_app, sum_app]
  simp only [List.map_cons, List.map_nil, List.sum_cons, List.sum_nil, bl_len]
  omega
theorem poolL_sum (c : Cls) : ((poolL c).map List.length).sum ≤ clsT c := by
  have := addL_sum (clsX c) []
  have h2 := clsX_sum c
  simp at this
  unfold poolL
  omega
theorem txB_sum : ∀ l : List (List UInt8), (l.flatMap txB).length = 2 * l.length + (l.map List.length).sum
  | [] => by simp
  | x :: l => by
    rw [List.flatMap_cons, List.length_append, txB_sum l]
    simp only [txB, sbL, List.length_append, be_len, List.length_map, List.length_cons, List.map_cons, List.sum_cons]
    omega

/-- A class's bytes. -/
def encB (c : Cls) : List Int := headB (poolL c) ++ clsB (poolL c) c
theorem clsB_len (L : List (List UInt8)) (c : Cls) (h : COk c) : (clsB L c).length ≤ 70000 := by
  have h1 := flat_le' (mthB L) 3400 c.me (fun m hm => mthB_len L m (h.me m hm))
  have h2 := flat_le (fldB L) 5 (fldB_len L) c.fs
  have h3 := flat_le (pB L) 2 (fun s => by rw [pB_len]; omega) (c.im.map bl)
  rw [List.length_map] at h3
  have := h.il; have := h.fl; have := h.ml
  simp only [clsB, yB, List.length_append, be_len, pB_len]
  omega
theorem encB_len (c : Cls) (hT : clsT c ≤ 12000) (h : chkE c = 0) : (encB c).length ≤ 90000 := by
  obtain ⟨h1, h2⟩ := cOk_of h
  have h3 := clsB_len (poolL c) c h1
  have h4 := poolL_sum c
  unfold encB headB
  simp only [List.length_append, be_len, txB_sum]
  omega
theorem encode_ok (c : Cls) (vi vf vm : Value) (w : World) (h : ClsAt w c vi vf vm) (hT : clsT c ≤ 12000) (hok : chkE c = 0) :
    Calls Tryz.prog 9 #[.agg #[.string c.n, .string c.s, .bool c.it, .bool c.ab, vi, vf, vm]] w fun e w' => ∃ v, e = .returned (.tuple #[v, .int .i64 0]) ∧ w'.ownsRow w.heap.size 5 1 v (encB c).length ((encB c).map (Value.int .u8)) ∧ Ch w w' := by
  obtain ⟨hC, hP⟩ := cOk_of hok
  have hF := fine_of c hT
  have hs := poolL_sum c
  refine encode_with c vi vf vm w h hF hok hP (fun s hs' => ?_) ?_ (clsB (poolL c) c) (Nat.le_trans (clsB_len _ c hC) (by omega)) ?_
  · have := sum_mem List.length (poolL c) s hs'; omega
  · rw [txB_sum]; omega
  · intro B r M w0 w1 bs hE hw hB hl
    exact (hE.cls w hw hB c vi vf vm h hC hF (by omega)).mono fun e w' ⟨h1, h2, _⟩ => ⟨h1, h2⟩
end Go.Proofs.YtdalibfgkkgcpaaGreat
