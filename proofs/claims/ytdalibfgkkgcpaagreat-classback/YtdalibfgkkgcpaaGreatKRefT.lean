/- The document's own bytes of a class. -/
import Derived.Test.YtdalibfgkkgcpaaGreatKApp
import Derived.Test.YtdalibfgkkgcpaaGreatKEncZ
import Derived.Lib.SlBytesConst
import Derived.Test.YtdalibfgkkgcpaaGreatKRefR
import Derived.Deep.RegionHeld3
import Derived.Deep.DrawnRows
namespace Go.Proofs.YtdalibfgkkgcpaaGreat
open Go.RowKit
set_option linter.unusedVariables false

theorem row_own {w : World} {base n : Nat} {v : Value} {cs : List Int} (hn : cs.length = n) (h : w.ownsRow base 5 1 v n (cs.map (Value.int .u8))) : Row w v cs := by subst hn; exact row_of_owns h
theorem u2_row (n : Int) (w : World) : Calls Tryz.prog 29 #[.int .i64 n, .int .i64 2] w fun e w' => ∃ v, e = .returned v ∧ Row w' v (be n 2) ∧ Ch w w' :=
  (u_any n 2 2 w (by omega) rfl).mono fun e w' ⟨v, h1, h2, h3⟩ => ⟨v, h1, row_own (be_len _ _) h2, h3⟩
theorem u4_row (n : Int) (w : World) : Calls Tryz.prog 29 #[.int .i64 n, .int .i64 4] w fun e w' => ∃ v, e = .returned v ∧ Row w' v (be n 4) ∧ Ch w w' :=
  (u_any n 4 4 w (by omega) rfl).mono fun e w' ⟨v, h1, h2, h3⟩ => ⟨v, h1, row_own (be_len _ _) h2, h3⟩
theorem tx_row (s : ByteArray) (w : World) (hs : s.size ≤ 100000) : Calls Tryz.prog 30 #[.string s] w fun e w' => ∃ v, e = .returned v ∧ Row w' v (txB (bl s)) ∧ Ch w w' :=
  (refText_any s w (by omega)).mono fun e w' ⟨v, h1, h2, h3⟩ => ⟨v, h1, by rw [← txB_of]; exact row_own (by rw [List.length_append, be_len, sb_length]; omega) h2, h3⟩
theorem pl_row {L : List (List UInt8)} (s : ByteArray) (v : Value) (w : World) (hx : Sl 1 RS w v (L.map ms)) (hm : bl s ∈ L) : Calls Tryz.prog 31 #[v, .string s] w fun e w' => ∃ u, e = .returned u ∧ Row w' u (pB L (bl s)) ∧ Ch w w' := by
  have h := place_any (L.map ms) s v w hx (by rw [ms_bl_map]; exact hm)
  rw [ms_bl_map] at h
  exact h.mono fun e w' ⟨u, h1, h2, h3⟩ => ⟨u, h1, row_own (pB_len _ _) h2, h3⟩
def yI (b : Bool) : Int := if b then 1 else 0
theorem yB_eq (b : Bool) : yB b = [yI b] := by cases b <;> rfl
theorem ys_any (b : Bool) (w : World) : Calls Tryz.prog 32 #[.bool b] w fun e w' => e = .returned (.int .u8 (yI b)) ∧ w' = w := yes_any b w
theorem row_lit {w : World} {g n : Nat} {cs : List Int} (h : w.heap[g]? = some (.cells (cs.map (Value.int .u8)).toArray 5)) (hn : n = cs.length) : Row w (.slice (some ⟨g, 0, none⟩) n n) cs := by
  subst hn
  refine Or.inr ⟨_, _, rfl, fun j u hj => ?_⟩
  have hadd : (⟨g, 0, none⟩ : Addr).add j = ⟨g, j, none⟩ := by unfold Addr.add; split <;> simp_all
  rw [hadd]
  simp only [World.cell?, h]
  rw [List.getElem?_toArray]
  exact hj
theorem be_one {n : Int} (h : 0 ≤ n ∧ n ≤ 255) : be n 1 = [n] := by
  simp only [be]
  congr 1
  omega
theorem wrap_u8 {n : Int} (h : 0 ≤ n ∧ n ≤ 255) : IntKind.u8.wrap n = n := by simp [IntKind.wrap, IntKind.bits, IntKind.signed]; omega
theorem mark_be : be 1396851505 4 = [83, 66, 67, 49] := by decide
theorem By.rebase {B : Nat} {W w : World} {v : Value} {bs : List Int} (h : By B W w v bs) : By B w w v bs := ⟨h.own, Kp.refl _ _ _, h.bw⟩
theorem By.back {B : Nat} {W V w : World} {v : Value} {bs : List Int} (h : By B V w v bs) (k : Kp B [5] W V) : By B W w v bs := ⟨h.own, k.trans h.kp, h.bw⟩
theorem cls_texts {c : Cls} : bl c.n ∈ poolL c ∧ bl c.s ∈ poolL c ∧ (∀ s ∈ c.im, bl s ∈ poolL c) ∧ (∀ f ∈ c.fs, bl f.n ∈ poolL c ∧ bl f.d ∈ poolL c) ∧ (∀ m ∈ c.me, bl m.n ∈ poolL c ∧ bl m.d ∈ poolL c ∧ (∀ x ∈ m.code, ∀ s ∈ insX x, s ∈ poolL c) ∧ ∀ h ∈ m.hs, bl h.c ∈ poolL c) := by
  refine ⟨?_, ?_, fun s hs => ?_, fun f hf => ⟨?_, ?_⟩, fun m hm => ⟨?_, ?_, fun x hx s hs => ?_, fun h hh => ?_⟩⟩
  all_goals rw [poolL_mem]; unfold clsX
  · simp
  · simp
  · exact List.mem_append_right _ (List.mem_append_left _ (List.mem_map_of_mem hs))
  · exact List.mem_append_right _ (List.mem_append_right _ (List.mem_append_left _ (List.mem_flatMap.2 ⟨f, hf, by simp [fldX]⟩)))
  · exact List.mem_append_right _ (List.mem_append_right _ (List.mem_append_left _ (List.mem_flatMap.2 ⟨f, hf, by simp [fldX]⟩)))
  · exact List.mem_append_right _ (List.mem_append_right _ (List.mem_append_right _ (List.mem_flatMap.2 ⟨m, hm, by simp [mthX]⟩)))
  · exact List.mem_append_right _ (List.mem_append_right _ (List.mem_append_right _ (List.mem_flatMap.2 ⟨m, hm, by simp [mthX]⟩)))
  · exact List.mem_append_right _ (List.mem_append_right _ (List.mem_append_right _ (List.mem_flatMap.2 ⟨m, hm, List.mem_append_right _ (List.mem_append_left _ (List.mem_flatMap.2 ⟨x, hx, hs⟩))⟩)))
  · exact List.mem_append_right _ (List.mem_append_right _ (List.mem_append_right _ (List.mem_flatMap.2 ⟨m, hm, List.mem_append_right _ (List.mem_append_right _ (List.mem_flatMap.2 ⟨h, hh, by simp [hndX]⟩))⟩)))
theorem bdN {bs cs : List Int} {n : Nat} (h : bs.length ≤ 90000 + n) (hc : cs.length ≤ 4) : (bs ++ cs).length ≤ 90000 + (n + 4) := by rw [List.length_append]; omega
theorem bdA {bs cs : List Int} {n : Nat} (h : bs.length ≤ 90000 + n) (hc : cs.length ≤ 4) (hn : n ≤ 1000) : bs.length + cs.length ≤ 2000000 := by omega
theorem one_le (x : Int) : [x].length ≤ 4 := by simp
theorem be4_le (n : Int) : (be n 4).length ≤ 4 := Nat.le_of_eq (be_len _ _)
theorem be2_le (n : Int) : (be n 2).length ≤ 4 := by rw [be_len]; omega
theorem pB_le (L : List (List UInt8)) (s : List UInt8) : (pB L s).length ≤ 4 := by rw [pB_len]; omega
theorem conv_mark (W : World) : (convert 29 29 (.slice (some ⟨W.heap.size, 0, none⟩) 4 4)).run Tryz.prog (W.alloc (.cells #[.int .u8 83, .int .u8 66, .int .u8 67, .int .u8 49] 5)) = .ok (.slice (some ⟨W.heap.size, 0, none⟩) 4 4) (W.alloc (.cells #[.int .u8 83, .int .u8 66, .int .u8 67, .int .u8 49] 5 (4, 5))) :=
  Lib.run_convert_bytes_const W 29 5 #[.int .u8 83, .int .u8 66, .int .u8 67, .int .u8 49] 4 4 Tryz.underlying29 Tryz.underlying5
theorem run_append_first {w : World} {g : Nat} {u : Value} {cs : List Int} (ty : TypeId) (hg : w.heap[g]? = some (.cells #[.int .u8 83, .int .u8 66, .int .u8 67, .int .u8 49] 5 (4, 5))) (hu : Row w u cs) (hcs : cs.length = 2) :
    ∃ v' w', (Builtin.append_ #[29, 29] ty #[.slice (some ⟨g, 0, none⟩) 4 4, u]).run Tryz.prog w = .ok v' w' ∧ w'.ownsRow w.heap.size 5 1 v' ([83, 66, 67, 49] ++ cs).length (([83, 66, 67, 49] ++ cs).map (Value.int .u8)) ∧ Ch w w' := by
  obtain ⟨i0, hi, hz0, hz1, hz2⟩ := info_parts Tryz.info5
  rcases hu with ⟨rfl, rfl⟩ | ⟨ad, cap, rfl, hc⟩
  · simp at hcs
  · have hr := run_append_grow (P := Tryz.prog) w 29 ty 5 i0 (.int .u8 0) Tryz.underlying29 hi hz0 ⟨g, 0, none⟩ 4 4 [.int .u8 83, .int .u8 66, .int .u8 67, .int .u8 49] (by rw [hz1]; rfl) (fun j y hj => by
      have ha : (⟨g, 0, none⟩ : Addr).add j = ⟨g, j, none⟩ := by unfold Addr.add; split <;> simp_all
      rw [ha]
      simp only [World.cell?, hg]
      simpa using hj) ad cs.length cap (cs.map (Value.int .u8)) (by rw [hz1]; simp) hc (by omega) (by omega) (growslice_fits (by omega) (by rw [hz2]; omega))
    refine ⟨_, _, hr, ?_, (Ch.refl w).drew.alloc _⟩
    have hge := grownCap_ge w (4 + cs.length) 4 5
    have hcm : grownCap w (4 + cs.length) 4 5 ≤ maxLen := grownCap_le_maxLen w (4 + cs.length) 4 5 (by unfold maxLen; omega)
    have hl : ([83, 66, 67, 49] ++ cs).length = 4 + cs.length := by simp; omega
    rw [hl]
    refine ⟨by simp; omega, .inr ⟨w.heap.size, _, _, rfl, Nat.le_refl _, heap_alloc_new w.drew _, hge, hcm, ?_, ?_⟩⟩
    · have hzc : (Value.int .u8 0).cells.size = 1 := rfl
      simp [size_zeroCells, hzc]
      omega
    · simp only [Array.toList_append, List.append_assoc]
      rw [← List.append_assoc]
      have e : ([83, 66, 67, 49] ++ cs).map (Value.int .u8) = [.int .u8 83, .int .u8 66, .int .u8 67, .int .u8 49] ++ cs.map (Value.int .u8) := by simp
      rw [e]
      refine List.take_left' ?_
      simp
      omega
theorem wpL_first {w : World} {ops : Array Oper} {rest : List Oper} {o : Oper} {a : Act} {Q : Exit → Act → World → Prop} {u : Value} {cs : List Int} (hgd : o.guard = none) (s x : Operand)
    (ho : o.op = .call { callee := .builtin .append, args := #[s, x], argTypes := #[29, 29] }) (g : Nat) (hs : a.eval s = .slice (some ⟨g, 0, none⟩) 4 4) (hx : a.eval x = u) (hg : w.heap[g]? = some (.cells #[.int .u8 83, .int .u8 66, .int .u8 67, .int .u8 49] 5 (4, 5))) (hu : Row w u cs) (hcs : cs.length = 2)
    (k : ∀ v' w', w'.ownsRow w.heap.size 5 1 v' ([83, 66, 67, 49] ++ cs).length (([83, 66, 67, 49] ++ cs).map (Value.int .u8)) → Ch w w' → wpList Tryz.prog ops Q rest (a.put o.dst v') w') : wpList Tryz.prog ops Q (o :: rest) a w := by
  refine wpList_plain hgd fun K hK => ?_
  obtain ⟨v', w', hr, h1, h2⟩ := run_append_first o.type hg hu hcs
  unfold Oper.wp execOp
  simp only [ho, resolve, invoke, builtin, Sem.run_bind, Sem.run_pure, Result.andThen_ok, List.map_toArray, List.map_cons, List.map_nil, hs, hx, hr]
  exact hK _ _ (k v' w' h1 h2)

open Go.RowKit
set_option linter.unusedVariables false
attribute [local go_sem ↓] Go.wp_at_zero Go.wp_at_succ

set_option maxRecDepth 100000 in
set_option maxHeartbeats 4000000 in
theorem refEncode_no (c : Cls) (vi vf vm : Value) (w : World) (h : ClsAt w c vi vf vm) (hF : Fine c) (x : Int) (hx : chkE c = x) (h0 : x ≠ 0) :
    Calls Tryz.prog 10 #[.agg #[.string c.n, .string c.s, .bool c.it, .bool c.ab, vi, vf, vm]] w fun e w' => e = .returned (.tuple #[.slice none 0 0, .int .i64 x]) ∧ Ch w w' := by
  have hck : ∀ w0, Ch w w0 → _ := fun w0 k => refCls_any c vi vf vm w0 (h.keep k) hF
  rw [hx] at hck
  have hcW : Ch w (w.alloc (.cells #[.string c.n, .string c.s, .bool c.it, .bool c.ab, vi, vf, vm] 26)) := (Ch.refl w).alloc _
  obtain ⟨ai, ci, rfl, _, _⟩ := h.1.form
  obtain ⟨af, cf, rfl, _, _⟩ := h.2.1.form
  obtain ⟨am, cm, rfl, _, _⟩ := h.2.2.form
  clear h hF hx
  have t0 : (x == 0) = false := by simpa using h0
  have t1 : (x != 0) = true := by simpa using h0
  go_enter Tryz.func10, Tryz.ntmps10
  go_wp2_with (first
    | (go_at_call 12; (with_reducible refine (hck _ hcW).mono ?_); rintro e w2 ⟨rfl, hc2⟩))
  go_ret2
  exact ⟨rfl, hcW.trans hc2⟩

set_option maxRecDepth 100000 in
set_option maxHeartbeats 64000000 in
theorem refEncode_gen (c : Cls) (vi vf vm : Value) (w : World) (h : ClsAt w c vi vf vm) (hF : Fine c) (hElen : (encB c).length ≤ 90000) (HLSp : ∀ s ∈ poolL c, s.length ≤ 12000) (hok : chkE c = 0) :
    Calls Tryz.prog 10 #[.agg #[.string c.n, .string c.s, .bool c.it, .bool c.ab, vi, vf, vm]] w fun e w' => ∃ v, e = .returned (.tuple #[v, .int .i64 0]) ∧ w'.ownsRow w.heap.size 5 1 v (encB c).length ((encB c).map (Value.int .u8)) ∧ Ch w w' := by
  obtain ⟨hCO, _⟩ := cOk_of hok
  have HCO : Hid (COk c) := hCO
  have HF : Hid (Fine c) := hF
  have hck : ∀ w0, Ch w w0 → _ := fun w0 k => refCls_any c vi vf vm w0 (h.keep k) hF
  have hpo : ∀ w0, Ch w w0 → _ := fun w0 k => refPool_any c vi vf vm w0 (h.keep k) hF
  rw [hok] at hck
  have HK0 : Hid (∀ w', Ch (w.alloc (.cells (clsC c vi vf vm) 26)) w' → _) := fun w' k => clsC_at (kept_at k (heap_alloc_new w (.cells (clsC c vi vf vm) 26)))
  have HA0 : Hid (∀ w', Ch (w.alloc (.cells (clsC c vi vf vm) 26)) w' → ClsAt w' c vi vf vm) := fun w' k => h.keep (((Ch.refl w).alloc _).trans k)
  have hcW : Ch w (w.alloc (.cells (clsC c vi vf vm) 26)) := (Ch.refl w).alloc _
  have HLS : Hid (∀ s ∈ poolL c, s.length ≤ 12000) := HLSp
  obtain ⟨E, hE⟩ : ∃ E, encB c = E := ⟨_, rfl⟩
  rw [hE] at hElen ⊢
  have HTX := cls_texts (c := c)
  have HE : Hid ([83, 66, 67, 49] ++ (be (poolL c).length 2 ++ ((poolL c).flatMap txB ++ clsB (poolL c) c)) = E) := by show _ = _; rw [← hE, encB, headB, mark_be]; simp [List.append_assoc]
  obtain ⟨a1, c1, rfl, _, _⟩ := h.1.form
  obtain ⟨a2, c2, rfl, hf1, hf2⟩ := h.2.1.form
  obtain ⟨a3, c3, rfl, hm1, hm2⟩ := h.2.2.form
  clear h hok hE hF hCO HLSp
  generalize poolL c = L at *
  obtain ⟨tn, ts, tim, tfs, tme⟩ := HTX
  have HTim : Hid (∀ s ∈ c.im, bl s ∈ L) := tim
  have HTfs : Hid (∀ f ∈ c.fs, bl f.n ∈ L ∧ bl f.d ∈ L) := tfs
  have HTme : Hid (∀ m ∈ c.me, bl m.n ∈ L ∧ bl m.d ∈ L ∧ (∀ x ∈ m.code, ∀ s ∈ insX x, s ∈ L) ∧ ∀ h ∈ m.hs, bl h.c ∈ L) := tme
  have HTn : Hid (bl c.n ∈ L) := tn
  have HTs : Hid (bl c.s ∈ L) := ts
  clear tn ts tim tfs tme
  have HGL : Hid (∀ (a b : List Int), a ++ b = E → a.length + b.length ≤ 90000) := fun a b e => by rw [← List.length_append, e]; exact hElen
  unfold clsC at HK0 HA0 hcW
  have hcv := conv_mark
  go_enter Tryz.func10, Tryz.ntmps10
  go_wp2_with (first
    | (go_at_call 12; (with_reducible refine (hck _ hcW).mono ?_); rintro e w2 ⟨rfl, hc2⟩; obtain ⟨z0, z1, z2, z3, z4, z5, z6⟩ := HK0.out _ hc2)
    | (go_at_call 15; (with_reducible refine (hpo _ (hcW.trans hc2)).mono ?_); rintro e w4 ⟨v4, rfl, ho4, hc4⟩; obtain ⟨a4, c4, rfl⟩ := own_form ho4)
    | (go_at_call 29; (with_reducible refine (u2_row _ _).mono ?_); rintro e w5 ⟨u5, rfl, hr5, hc5⟩)
    | (at_builtin; refine (wpL_first rfl (.tmp 27) (.tmp 30) rfl w4.heap.size rfl rfl (kept_at hc5 (heap_alloc_new _ _)) hr5 (be_len _ _) ?_); intro v6 w6 ho6 hc6))
  have hC6 : Ch w4 w6 := (((Ch.refl w4).alloc _).trans hc5).trans hc6
  have hB5 : w4.heap.size ≤ w5.heap.size := (((Ch.refl w4).alloc _).trans hc5).size
  have hEy : By w4.heap.size w6 w6 v6 _ := ⟨ownsRow_base ho6 hB5, Kp.refl _ _ _, hC6.size⟩
  have HC : Hid (∀ w', Kp w4.heap.size [5] w6 w' → Ch w4 w') := fun w' k => Kp.ch hC6 k (Nat.le_refl _)
  have hw24 := hc2.trans hc4
  have HK : Hid (∀ w', Ch w4 w' → _) := fun w' k => HK0.out w' (hw24.trans k)
  have HA : Hid (∀ w', Ch w4 w' → _) := fun w' k => HA0.out w' (hw24.trans k)
  have hS4 := sl_own ho4
  have HP : Hid (∀ w', Ch w4 w' → Sl 1 RS w' (.slice a4 L.length c4) (L.map ms)) := fun w' k => hS4.keepS k
  have HW : Hid (Ch w w4) := hcW.trans hw24
  have hpl : L.length ≤ 90000 := by
    have e := HGL.out _ _ HE.out
    simp only [List.length_append, txB_sum] at e
    omega
  obtain ⟨B, hB⟩ : ∃ B, B = w4.heap.size := ⟨_, rfl⟩
  rw [← hB] at hEy HC
  have hBw : w.heap.size ≤ B := by rw [hB]; exact HW.out.size
  clear hB hS4 hw24 hC6 hB5 ho6 hc6 hc5 hr5 ho4 hc4 hc2 HK0 HA0 hck hpo z0 z1 z2 z3 z4 z5 z6 hcv hcW
  have HG6 : Hid (([83, 66, 67, 49] ++ be L.length 2) ++ (L.flatMap txB ++ clsB L c) = E) := by show _ = _; rw [← HE.out]; simp only [List.append_assoc]
  go_loopw [6, 7] (fun b i wr => ∃ (k : Nat) (bs : List Int), k ≤ L.length ∧ i = .int .i64 k ∧ By B w6 wr b bs ∧ bs ++ ((L.drop k).flatMap txB ++ clsB L c) = E) (fun _ i _ => L.length - (intOf i).toNat)
  case atStart => exact ⟨0, _, Nat.zero_le _, rfl, hEy, by simpa using HG6.out⟩
  case round =>
    clear hEy
    obtain ⟨k, bs, hk, rfl, hY, hg⟩ := hrel
    have hcr := HC.out wr hY.kp
    by_cases hlt : k < L.length
    · obtain ⟨x, hx⟩ : ∃ a, L[k]? = some a := ⟨_, List.getElem?_eq_getElem hlt⟩
      have hxm : (L.map ms)[k]? = some (ms x) := by rw [List.getElem?_map, hx]; rfl
      obtain ⟨b, off, hao, d0⟩ := (HP.out wr hcr).atS hxm
      have hxl := HLS.out x (List.mem_of_getElem? hx)
      have htx := fun w0 => tx_row (ms x) w0 (by rw [ms_size]; omega)
      rw [flat_step txB hx, List.append_assoc] at hg
      have hlen := HGL.out _ _ hg
      rw [List.length_append] at hlen
      have hbl : bs.length + (txB (bl (ms x))).length ≤ 2000000 := by rw [bl_ms]; omega
      have HG7 : Hid ((bs ++ txB (bl (ms x))) ++ ((L.drop (k + 1)).flatMap txB ++ clsB L c) = E) := by show _ = _; rw [bl_ms, ← hg]; simp only [List.append_assoc]
      clear hx hxm hg hlen hxl
      subst hao
      go_wp2_with (first
        | (go_at_call 30; (with_reducible refine (htx _).mono ?_); rintro e w7 ⟨u7, rfl, hr7, hc7⟩)
        | (at_builtin; refine (By.wpL (hY.chr hc7) rfl (.tmp 38) (.tmp 43) rfl rfl rfl hr7 hbl ?_); intro v8 w8 hE8))
      go_roundw
      case rel => exact ⟨k + 1, _, by omega, by go_num, hE8, HG7.out⟩
      case measure => simp [intOf]; omega
    · obtain rfl : k = L.length := by omega
      rw [flat_end txB (Nat.le_refl _), List.nil_append] at hg
      clear hlt hk
      obtain ⟨R1, hR1⟩ : ∃ R, R = be (c.im.length : Int) 2 ++ ((c.im.map bl).flatMap (pB L) ++ (be (c.fs.length : Int) 2 ++ (c.fs.flatMap (fldB L) ++ (be (c.me.length : Int) 2 ++ c.me.flatMap (mthB L))))) := ⟨_, rfl⟩
      unfold clsB at hg
      rw [← hR1] at hg
      have HR1 : Hid (R1 = be (c.im.length : Int) 2 ++ ((c.im.map bl).flatMap (pB L) ++ (be (c.fs.length : Int) 2 ++ (c.fs.flatMap (fldB L) ++ (be (c.me.length : Int) 2 ++ c.me.flatMap (mthB L)))))) := hR1
      have HG8 : Hid ((((bs ++ pB L (bl c.n)) ++ pB L (bl c.s)) ++ [yI c.it, yI c.ab]) ++ R1 = E) := by show _ = _; rw [← hg, yB_eq, yB_eq]; simp only [List.append_assoc, List.cons_append, List.nil_append]
      have hlen := HGL.out _ _ hg
      have hb1 : bs.length + (pB L (bl c.n)).length ≤ 2000000 := by rw [pB_len]; omega
      have hb2 : (bs ++ pB L (bl c.n)).length + (pB L (bl c.s)).length ≤ 2000000 := by rw [List.length_append, pB_len, pB_len]; omega
      have hb3 : ((bs ++ pB L (bl c.n)) ++ pB L (bl c.s)).length + [yI c.it, yI c.ab].length ≤ 2000000 := by simp only [List.length_append, pB_len, List.length_cons, List.length_nil]; omega
      clear hg hR1 hlen
      obtain ⟨z0, z1, z2, z3, z4, z5, z6⟩ := HK.out wr hcr
      have HS : Hid (∀ w', Ch w4 w' → w'.cell? ⟨w.heap.size, 0, none⟩ = some (.string c.n) ∧ w'.cell? ⟨w.heap.size, 1, none⟩ = some (.string c.s) ∧ w'.cell? ⟨w.heap.size, 2, none⟩ = some (.bool c.it) ∧ w'.cell? ⟨w.heap.size, 3, none⟩ = some (.bool c.ab)) := fun w' k => by
        obtain ⟨y0, y1, y2, y3, _⟩ := HK.out w' k
        exact ⟨y0, y1, y2, y3⟩
      have hp1 : ∀ w0, Ch w4 w0 → _ := fun w0 k => pl_row c.n _ w0 (HP.out w0 k) HTn.out
      have hp2 : ∀ w0, Ch w4 w0 → _ := fun w0 k => pl_row c.s _ w0 (HP.out w0 k) HTs.out
      have hy1 := fun w0 => ys_any c.it w0
      have hy2 := fun w0 => ys_any c.ab w0
      go_wp2
      go_region_held3 (fun w' => w'.cell? ⟨w.heap.size, 0, none⟩ = some (.string c.n) ∧ w'.cell? ⟨w.heap.size, 1, none⟩ = some (.string c.s) ∧ w'.cell? ⟨w.heap.size, 2, none⟩ = some (.bool c.it) ∧ w'.cell? ⟨w.heap.size, 3, none⟩ = some (.bool c.ab)) (first | assumption | (refine HS.out _ ?_; first | exact hcr.drew | exact HC.out _ (By.kp (by assumption)) | exact ((HC.out _ (By.kp (by assumption))).alloc _))) (first
        | (go_at_call 31; (with_reducible refine (hp1 _ hcr.drew).mono ?_); rintro e w7 ⟨u7, rfl, hr7, hc7⟩; have hE7 := (hY.chr (Ch.refl wr).drew).chr hc7; have hS7 := HS.out w7 (HC.out w7 hE7.kp))
        | (go_at_call 31; (with_reducible refine (hp2 _ (HC.out _ hE8.kp)).mono ?_); rintro e w9 ⟨u9, rfl, hr9, hc9⟩; have hE9 := hE8.chr hc9; have hS9 := HS.out w9 (HC.out w9 hE9.kp))
        | (go_at_call 32; (with_reducible refine (hy1 _).mono ?_); rintro e w' ⟨rfl, hx⟩; have hx := hx.symm; subst hx)
        | (go_at_call 32; (with_reducible refine (hy2 _).mono ?_); rintro e w' ⟨rfl, hx⟩; have hx := hx.symm; subst hx)
        | (refine (By.stp hE7 rfl (.tmp 45) (.tmp 49) (by rfl) (by rfl) (by rfl) hr7 hb1 ?_); intro v8 w8 hE8; have hS8 := HS.out w8 (HC.out w8 hE8.kp))
        | (refine (By.stp hE9 rfl (.tmp 50) (.tmp 54) (by rfl) (by rfl) (by rfl) hr9 hb2 ?_); intro v10 w10 hE10; have hS10 := HS.out w10 (HC.out w10 hE10.kp); have hE11 := hE10.chr ((Ch.refl w10).alloc (.cells #[.int .u8 (yI c.it), .int .u8 (yI c.ab)] 5)))
        | (refine (By.stp hE11 rfl (.tmp 55) (.tmp 62) (by rfl) (by rfl) (by rfl) (row_lit (cs := [yI c.it, yI c.ab]) (heap_alloc_new _ _) rfl) hb3 ?_); intro v12 w12 hE12; have hS12 := HS.out w12 (HC.out w12 hE12.kp)))
      clear hS7 hS8 hS9 hS10 hS12 hE7 hE8 hE9 hE10 hE11 hY hp1 hp2 hy1 hy2 HS hcr z0 z1 z2 z3 z4 z5 z6 hr7 hr9 hc7 hc9 hb1 hb2 hb3
      have hg2 := HG8.out
      rw [HR1.out] at hg2
      generalize (((bs ++ pB L (bl c.n)) ++ pB L (bl c.s)) ++ [yI c.it, yI c.ab]) = bs2 at *
      have hlen := HGL.out _ _ hg2
      have hcr := HC.out w12 hE12.kp
      obtain ⟨z0, z1, z2, z3, z4, z5, z6⟩ := HK.out w12 hcr
      have hb4 : bs2.length + (be (c.im.length : Int) 2).length ≤ 2000000 := by rw [be_len]; omega
      have HG9 : Hid ((bs2 ++ be (c.im.length : Int) 2) ++ ((c.im.map bl).flatMap (pB L) ++ (be (c.fs.length : Int) 2 ++ (c.fs.flatMap (fldB L) ++ (be (c.me.length : Int) 2 ++ c.me.flatMap (mthB L))))) = E) := by show _ = _; rw [← hg2]; simp only [List.append_assoc]
      have hu2 := fun w0 => u2_row (c.im.length : Int) w0
      clear hg2 hlen HG8 HR1
      go_wp2_with (first
        | (go_at_call 29; (with_reducible refine (hu2 _).mono ?_); rintro e w13 ⟨u13, rfl, hr13, hc13⟩)
        | (at_builtin; refine (By.wpL (hE12.chr hc13) rfl (.tmp 64) (.tmp 68) rfl rfl rfl hr13 hb4 ?_); intro v14 w14 hE14))
      clear hE12 hr13 hc13 hb4 hu2 hcr z0 z1 z2 z3 z4 z5 z6
      go_loopw [6, 8] (fun b i wr => ∃ (k : Nat) (bs : List Int), k ≤ c.im.length ∧ i = .int .i64 k ∧ By B w6 wr b bs ∧ bs ++ (((c.im.map bl).drop k).flatMap (pB L) ++ (be (c.fs.length : Int) 2 ++ (c.fs.flatMap (fldB L) ++ (be (c.me.length : Int) 2 ++ c.me.flatMap (mthB L))))) = E) (fun _ i _ => c.im.length - (intOf i).toNat)
      case atStart => exact ⟨0, _, Nat.zero_le _, rfl, hE14, by simpa using HG9.out⟩
      case round =>
        clear hE14 HG9
        obtain ⟨k, bs, hk, rfl, hY, hg⟩ := hrel
        have hcr := HC.out wr hY.kp
        obtain ⟨z0, z1, z2, z3, z4, z5, z6⟩ := HK.out wr hcr
        by_cases hlt : k < c.im.length
        · obtain ⟨x, hx⟩ : ∃ a, c.im[k]? = some a := ⟨_, List.getElem?_eq_getElem hlt⟩
          have hxm : (c.im.map bl)[k]? = some (bl x) := by rw [List.getElem?_map, hx]; rfl
          obtain ⟨b, off, hao, d0⟩ := (HA.out wr hcr).1.atS hx
          have hp1 := pl_row x _ wr (HP.out wr hcr) (HTim.out x (List.mem_of_getElem? hx))
          rw [flat_step (pB L) hxm, List.append_assoc] at hg
          have hlen := HGL.out _ _ hg
          have hbl : bs.length + (pB L (bl x)).length ≤ 2000000 := by rw [pB_len]; omega
          have HG7 : Hid ((bs ++ pB L (bl x)) ++ (((c.im.map bl).drop (k + 1)).flatMap (pB L) ++ (be (c.fs.length : Int) 2 ++ (c.fs.flatMap (fldB L) ++ (be (c.me.length : Int) 2 ++ c.me.flatMap (mthB L))))) = E) := by show _ = _; rw [← hg]; simp only [List.append_assoc]
          clear hx hxm hg hlen
          subst hao
          go_wp2_with (first
            | (go_at_call 31; (with_reducible refine hp1.mono ?_); rintro e w7 ⟨u7, rfl, hr7, hc7⟩)
            | (at_builtin; refine (By.wpL (hY.chr hc7) rfl (.tmp 77) (.tmp 84) rfl rfl rfl hr7 hbl ?_); intro v8 w8 hE8))
          go_roundw
          case rel => exact ⟨k + 1, _, by omega, by go_num, hE8, HG7.out⟩
          case measure => simp [intOf]; omega
        · obtain rfl : k = c.im.length := by omega
          rw [flat_end (pB L) (by simp), List.nil_append] at hg
          have hlen := HGL.out _ _ hg
          have hb4 : bs.length + (be (c.fs.length : Int) 2).length ≤ 2000000 := by rw [be_len]; omega
          have HG9 : Hid ((bs ++ be (c.fs.length : Int) 2) ++ (c.fs.flatMap (fldB L) ++ (be (c.me.length : Int) 2 ++ c.me.flatMap (mthB L))) = E) := by show _ = _; rw [← hg]; simp only [List.append_assoc]
          have hu2 := fun w0 => u2_row (c.fs.length : Int) w0
          clear hg hlen hlt hk
          go_wp2_with (first
            | (go_at_call 29; (with_reducible refine (hu2 _).mono ?_); rintro e w13 ⟨u13, rfl, hr13, hc13⟩)
            | (at_builtin; refine (By.wpL (hY.chr hc13) rfl (.tmp 86) (.tmp 90) rfl rfl rfl hr13 hb4 ?_); intro v14 w14 hE14))
          clear hY hr13 hc13 hb4 hu2 hcr z0 z1 z2 z3 z4 z5 z6
          go_loopw [6, 9] (fun b i wr => ∃ (k : Nat) (bs : List Int), k ≤ c.fs.length ∧ i = .int .i64 k ∧ By B w6 wr b bs ∧ bs ++ ((c.fs.drop k).flatMap (fldB L) ++ (be (c.me.length : Int) 2 ++ c.me.flatMap (mthB L))) = E) (fun _ i _ => c.fs.length - (intOf i).toNat)
          case atStart => exact ⟨0, _, Nat.zero_le _, rfl, hE14, by simpa using HG9.out⟩
          case round =>
            clear hE14 HG9
            obtain ⟨k, bs, hk, rfl, hY, hg⟩ := hrel
            have hcr := HC.out wr hY.kp
            obtain ⟨z0, z1, z2, z3, z4, z5, z6⟩ := HK.out wr hcr
            by_cases hlt : k < c.fs.length
            · obtain ⟨x, hx⟩ : ∃ a, c.fs[k]? = some a := ⟨_, List.getElem?_eq_getElem hlt⟩
              obtain ⟨b, off, hao, d0, d1, d2⟩ := (HA.out wr hcr).2.1.atF hx
              obtain ⟨t1, t2⟩ := HTfs.out x (List.mem_of_getElem? hx)
              have hp1 : ∀ w0, Ch w4 w0 → _ := fun w0 k => pl_row x.n _ w0 (HP.out w0 k) t1
              have hp2 : ∀ w0, Ch w4 w0 → _ := fun w0 k => pl_row x.d _ w0 (HP.out w0 k) t2
              have hy1 := fun w0 => ys_any x.st w0
              rw [flat_step (fldB L) hx, List.append_assoc] at hg
              have hlen := HGL.out _ _ hg
              have hb1 : bs.length + (pB L (bl x.n)).length ≤ 2000000 := by rw [pB_len]; omega
              have hb2 : (bs ++ pB L (bl x.n)).length + (pB L (bl x.d)).length ≤ 2000000 := by rw [List.length_append, pB_len, pB_len]; omega
              have hb3 : ((bs ++ pB L (bl x.n)) ++ pB L (bl x.d)).length + [yI x.st].length ≤ 2000000 := by simp only [List.length_append, pB_len, List.length_cons, List.length_nil]; omega
              have HG7 : Hid ((((bs ++ pB L (bl x.n)) ++ pB L (bl x.d)) ++ [yI x.st]) ++ ((c.fs.drop (k + 1)).flatMap (fldB L) ++ (be (c.me.length : Int) 2 ++ c.me.flatMap (mthB L))) = E) := by show _ = _; rw [← hg, fldB, yB_eq]; simp only [List.append_assoc, List.cons_append, List.nil_append]
              have hYb := (hY.chr ((Ch.refl wr).alloc (.cells #[.string x.n, .string x.d, .bool x.st] 54))).rebase
              have HKV : Hid (Kp B [5] w6 (wr.alloc (.cells #[.string x.n, .string x.d, .bool x.st] 54))) := hY.kp.chr ((Ch.refl wr).alloc _)
              have HS : Hid (∀ w', Kp B [5] (wr.alloc (.cells #[.string x.n, .string x.d, .bool x.st] 54)) w' → _) := fun w' kk => fC_at (kk.cells (heap_alloc_new wr (.cells #[.string x.n, .string x.d, .bool x.st] 54)) (by decide))
              clear hx hg hlen t1 t2
              subst hao
              go_wp2_with fail
              generalize wr.alloc (.cells #[.string x.n, .string x.d, .bool x.st] 54) = V at *
              have hcV := HC.out V HKV.out
              have HCV : Hid (∀ w', Kp B [5] V w' → Ch w4 w') := fun w' kk => HC.out w' (HKV.out.trans kk)
              have hSd := HS.out V.drew (Kp.of_ch (Ch.refl V).drew)
              clear z0 z1 z2 z3 z4 z5 z6 d0 d1 d2 hcr hY
              go_region_held3 (fun w' => w'.cell? ⟨wr.heap.size, 0, none⟩ = some (.string x.n) ∧ w'.cell? ⟨wr.heap.size, 1, none⟩ = some (.string x.d) ∧ w'.cell? ⟨wr.heap.size, 2, none⟩ = some (.bool x.st)) (first | assumption | (refine HS.out _ ?_; exact ((By.kp (by assumption)).alloc _))) (first
                | (go_at_call 31; (with_reducible refine (hp1 _ hcV.drew).mono ?_); rintro e w7 ⟨u7, rfl, hr7, hc7⟩; have hE7 := (hYb.chr (Ch.refl V).drew).chr hc7; have hS7 := HS.out w7 hE7.kp)
                | (go_at_call 31; (with_reducible refine (hp2 _ (HCV.out _ hE8.kp)).mono ?_); rintro e w9 ⟨u9, rfl, hr9, hc9⟩; have hE9 := hE8.chr hc9; have hS9 := HS.out w9 hE9.kp)
                | (go_at_call 32; (with_reducible refine (hy1 _).mono ?_); rintro e w' ⟨rfl, hx⟩; have hx := hx.symm; subst hx)
                | (refine (By.stp hE7 rfl (.tmp 104) (.tmp 108) (by rfl) (by rfl) (by rfl) hr7 hb1 ?_); intro v8 w8 hE8; have hS8 := HS.out w8 hE8.kp)
                | (refine (By.stp hE9 rfl (.tmp 109) (.tmp 113) (by rfl) (by rfl) (by rfl) hr9 hb2 ?_); intro v10 w10 hE10; have hS10 := HS.out w10 hE10.kp; have hE11 := hE10.chr ((Ch.refl w10).alloc (.cells #[.int .u8 (yI x.st)] 5)))
                | (refine (By.stp hE11 rfl (.tmp 114) (.tmp 118) (by rfl) (by rfl) (by rfl) (row_lit (cs := [yI x.st]) (heap_alloc_new _ _) rfl) hb3 ?_); intro v12 w12 hE12; have hS12 := HS.out w12 hE12.kp))
              go_wp2
              go_roundw
              case rel => exact ⟨k + 1, _, by omega, by go_num, hE12.back HKV.out, HG7.out⟩
              case measure => simp [intOf]; omega
            · obtain rfl : k = c.fs.length := by omega
              rw [flat_end (fldB L) (Nat.le_refl _), List.nil_append] at hg
              have hlen := HGL.out _ _ hg
              have hb4 : bs.length + (be (c.me.length : Int) 2).length ≤ 2000000 := by rw [be_len]; omega
              have HG9 : Hid ((bs ++ be (c.me.length : Int) 2) ++ c.me.flatMap (mthB L) = E) := by show _ = _; rw [← hg]; simp only [List.append_assoc]
              have hu2 := fun w0 => u2_row (c.me.length : Int) w0
              clear hg hlen hlt hk
              go_wp2_with (first
                | (go_at_call 29; (with_reducible refine (hu2 _).mono ?_); rintro e w13 ⟨u13, rfl, hr13, hc13⟩)
                | (at_builtin; refine (By.wpL (hY.chr hc13) rfl (.tmp 120) (.tmp 124) rfl rfl rfl hr13 hb4 ?_); intro v14 w14 hE14))
              clear hY hr13 hc13 hb4 hu2 hcr z0 z1 z2 z3 z4 z5 z6
              go_loopw [6, 11] (fun b i wr => ∃ (k : Nat) (bs : List Int), k ≤ c.me.length ∧ i = .int .i64 k ∧ By B w6 wr b bs ∧ bs ++ (c.me.drop k).flatMap (mthB L) = E) (fun _ i _ => c.me.length - (intOf i).toNat)
              case atStart => exact ⟨0, _, Nat.zero_le _, rfl, hE14, by simpa using HG9.out⟩
              case round =>
                clear hE14 HG9
                obtain ⟨k, bs, hk, rfl, hY, hg⟩ := hrel
                have hcr := HC.out wr hY.kp
                obtain ⟨z0, z1, z2, z3, z4, z5, z6⟩ := HK.out wr hcr
                by_cases hlt : k < c.me.length
                · obtain ⟨m, hx⟩ : ∃ a, c.me[k]? = some a := ⟨_, List.getElem?_eq_getElem hlt⟩
                  obtain ⟨b, off, vc, vh, hao, hsc, hsh, y0, y1, y2, y3, y4, y5, y6, y7⟩ := (HA.out w4 (Ch.refl _)).2.2.atM hx
                  have d0 := cell_keep hcr y0
                  have d1 := cell_keep hcr y1
                  have d2 := cell_keep hcr y2
                  have d3 := cell_keep hcr y3
                  have d4 := cell_keep hcr y4
                  have d5 := cell_keep hcr y5
                  have d6 := cell_keep hcr y6
                  have d7 := cell_keep hcr y7
                  have HSI : Hid (∀ w', Ch w4 w' → Sl 6 RI w' vc m.code ∧ Sl 4 RH w' vh m.hs) := fun w' kk => ⟨hsc.keepI kk, hsh.keepH kk⟩
                  obtain ⟨t1, t2, t3, t4⟩ := HTme.out m (List.mem_of_getElem? hx)
                  have hMO := HCO.out.me m (List.mem_of_getElem? hx)
                  have HMO : Hid (MOk m) := hMO
                  have HT3 : Hid (∀ x ∈ m.code, ∀ s ∈ insX x, s ∈ L) := t3
                  have HT4 : Hid (∀ h ∈ m.hs, bl h.c ∈ L) := t4
                  have wsk := wrap_u8 hMO.sk
                  have wlo := wrap_u8 hMO.lo
                  have hp1 : ∀ w0, Ch w4 w0 → _ := fun w0 k => pl_row m.n _ w0 (HP.out w0 k) t1
                  have hp2 : ∀ w0, Ch w4 w0 → _ := fun w0 k => pl_row m.d _ w0 (HP.out w0 k) t2
                  have hys1 := fun w0 => ys_any m.st w0
                  have hys2 := fun w0 => ys_any m.ab w0
                  rw [flat_step (mthB L) hx] at hg
                  obtain ⟨RR, hRR⟩ : ∃ l, l = (c.me.drop (k + 1)).flatMap (mthB L) := ⟨_, rfl⟩
                  rw [← hRR] at hg
                  have HRR : Hid (RR = (c.me.drop (k + 1)).flatMap (mthB L)) := hRR
                  have hlen := HGL.out _ _ hg
                  have hb1 : bs.length + (pB L (bl m.n)).length ≤ 2000000 := by rw [pB_len]; omega
                  have hb2 : (bs ++ pB L (bl m.n)).length + (pB L (bl m.d)).length ≤ 2000000 := by rw [List.length_append, pB_len, pB_len]; omega
                  have hb3 : ((bs ++ pB L (bl m.n)) ++ pB L (bl m.d)).length + [yI m.st, yI m.ab, m.sk, m.lo].length ≤ 2000000 := by simp only [List.length_append, pB_len, List.length_cons, List.length_nil]; omega
                  have HG7 : Hid ((((bs ++ pB L (bl m.n)) ++ pB L (bl m.d)) ++ [yI m.st, yI m.ab, m.sk, m.lo]) ++ (be (m.code.length : Int) 2 ++ (m.code.flatMap (insB L) ++ (be (m.hs.length : Int) 2 ++ (m.hs.flatMap (hndB L) ++ RR)))) = E) := by show _ = _; rw [← hg, mthB, yB_eq, yB_eq, be_one hMO.sk, be_one hMO.lo]; simp only [List.append_assoc, List.cons_append, List.nil_append]
                  have hYb := (hY.chr ((Ch.refl wr).alloc (.cells (mthC m vc vh) 45))).rebase
                  have HKV : Hid (Kp B [5] w6 (wr.alloc (.cells (mthC m vc vh) 45))) := hY.kp.chr ((Ch.refl wr).alloc _)
                  have HS : Hid (∀ w', Kp B [5] (wr.alloc (.cells (mthC m vc vh) 45)) w' → _) := fun w' kk => mthC_at (kk.cells (heap_alloc_new wr (.cells (mthC m vc vh) 45)) (by decide))
                  have hAk : k + 1 ≤ c.me.length := by omega
                  obtain ⟨ac, cc, rfl, _, _⟩ := hsc.form
                  obtain ⟨ah, chh, rfl, _, _⟩ := hsh.form
                  clear hx hg hlen t1 t2 t3 t4 hMO hsc hsh y0 y1 y2 y3 y4 y5 y6 y7 hRR
                  subst hao
                  unfold mthC at *
                  go_wp2_with fail
                  generalize wr.alloc (.cells #[.string m.n, .string m.d, .bool m.st, .bool m.ab, .int .i64 m.sk, .int .i64 m.lo, .slice ac m.code.length cc, .slice ah m.hs.length chh] 45) = V at *
                  have hcV := HC.out V HKV.out
                  have HCV : Hid (∀ w', Kp B [5] V w' → Ch w4 w') := fun w' kk => HC.out w' (HKV.out.trans kk)
                  have HS6 : Hid (∀ w', Kp B [5] V w' → w'.cell? ⟨wr.heap.size, 0, none⟩ = some (.string m.n) ∧ w'.cell? ⟨wr.heap.size, 1, none⟩ = some (.string m.d) ∧ w'.cell? ⟨wr.heap.size, 2, none⟩ = some (.bool m.st) ∧ w'.cell? ⟨wr.heap.size, 3, none⟩ = some (.bool m.ab) ∧ w'.cell? ⟨wr.heap.size, 4, none⟩ = some (.int .i64 m.sk) ∧ w'.cell? ⟨wr.heap.size, 5, none⟩ = some (.int .i64 m.lo)) := fun w' kk => by
                    obtain ⟨u0, u1, u2, u3, u4, u5, _⟩ := HS.out w' kk
                    exact ⟨u0, u1, u2, u3, u4, u5⟩
                  have hSd := HS6.out V.drew (Kp.of_ch (Ch.refl V).drew)
                  clear z0 z1 z2 z3 z4 z5 z6 d0 d1 d2 d3 d4 d5 d6 d7 hcr hY
                  obtain ⟨GB, hGB⟩ : ∃ g, g = wr.heap.size := ⟨_, rfl⟩
                  rw [← hGB] at HS HS6 hSd ⊢
                  clear hGB
                  go_region_held3 (fun w' => w'.cell? ⟨GB, 0, none⟩ = some (.string m.n) ∧ w'.cell? ⟨GB, 1, none⟩ = some (.string m.d) ∧ w'.cell? ⟨GB, 2, none⟩ = some (.bool m.st) ∧ w'.cell? ⟨GB, 3, none⟩ = some (.bool m.ab) ∧ w'.cell? ⟨GB, 4, none⟩ = some (.int .i64 m.sk) ∧ w'.cell? ⟨GB, 5, none⟩ = some (.int .i64 m.lo)) (first | assumption | (refine HS6.out _ ?_; exact ((By.kp (by assumption)).alloc _))) (first
                    | (go_at_call 31; (with_reducible refine (hp1 _ hcV.drew).mono ?_); rintro e w7 ⟨u7, rfl, hr7, hc7⟩; have hE7 := (hYb.chr (Ch.refl V).drew).chr hc7; have hS7 := HS6.out w7 hE7.kp)
                    | (go_at_call 31; (with_reducible refine (hp2 _ (HCV.out _ hE8.kp)).mono ?_); rintro e w9 ⟨u9, rfl, hr9, hc9⟩; have hE9 := hE8.chr hc9; have hS9 := HS6.out w9 hE9.kp)
                    | (go_at_call 32; (with_reducible refine (hys1 _).mono ?_); rintro e w' ⟨rfl, hx⟩; have hx := hx.symm; subst hx)
                    | (go_at_call 32; (with_reducible refine (hys2 _).mono ?_); rintro e w' ⟨rfl, hx⟩; have hx := hx.symm; subst hx)
                    | (refine (By.stp hE7 rfl (.tmp 138) (.tmp 142) (by rfl) (by rfl) (by rfl) hr7 hb1 ?_); intro v8 w8 hE8; have hS8 := HS6.out w8 hE8.kp)
                    | (refine (By.stp hE9 rfl (.tmp 143) (.tmp 147) (by rfl) (by rfl) (by rfl) hr9 hb2 ?_); intro v10 w10 hE10; have hS10 := HS6.out w10 hE10.kp; have hE11 := hE10.chr ((Ch.refl w10).alloc (.cells #[.int .u8 (yI m.st), .int .u8 (yI m.ab), .int .u8 m.sk, .int .u8 m.lo] 5)))
                    | (refine (By.stp hE11 rfl (.tmp 148) (.tmp 161) (by rfl) (by rfl) (by rfl) (row_lit (cs := [yI m.st, yI m.ab, m.sk, m.lo]) (heap_alloc_new _ _) rfl) hb3 ?_); intro v12 w12 hE12; have hS12 := HS6.out w12 hE12.kp))
                  clear hS7 hS8 hS9 hS10 hS12 hSd hE7 hE8 hE9 hE10 hE11 hYb hp1 hp2 hys1 hys2 hr7 hr9 hc7 hc9 hb1 hb2 hb3 HS6 wsk wlo hcV
                  have hg2 := HG7.out
                  generalize (((bs ++ pB L (bl m.n)) ++ pB L (bl m.d)) ++ [yI m.st, yI m.ab, m.sk, m.lo]) = bs2 at *
                  have hlen := HGL.out _ _ hg2
                  obtain ⟨_, _, _, _, _, _, g6, g7⟩ := HS.out w12 hE12.kp
                  have hb4 : bs2.length + (be (m.code.length : Int) 2).length ≤ 2000000 := by rw [be_len]; omega
                  have HG9 : Hid ((bs2 ++ be (m.code.length : Int) 2) ++ (m.code.flatMap (insB L) ++ (be (m.hs.length : Int) 2 ++ (m.hs.flatMap (hndB L) ++ RR))) = E) := by show _ = _; rw [← hg2]; simp only [List.append_assoc]
                  have hu2 := fun w0 => u2_row (m.code.length : Int) w0
                  clear hg2 hlen HG7
                  go_wp2_with (first
                    | (go_at_call 29; (with_reducible refine (hu2 _).mono ?_); rintro e w13 ⟨u13, rfl, hr13, hc13⟩)
                    | (at_builtin; refine (By.wpL (hE12.chr hc13) rfl (.tmp 163) (.tmp 167) rfl rfl rfl hr13 hb4 ?_); intro v14 w14 hE14))
                  clear hE12 hr13 hc13 hb4 hu2 g6 g7
                  go_loopw [6, 13] (fun b i wr => ∃ (k : Nat) (bs : List Int), k ≤ m.code.length ∧ i = .int .i64 k ∧ By B V wr b bs ∧ bs ++ ((m.code.drop k).flatMap (insB L) ++ (be (m.hs.length : Int) 2 ++ (m.hs.flatMap (hndB L) ++ RR))) = E) (fun _ i _ => m.code.length - (intOf i).toNat)
                  case atStart => exact ⟨0, _, Nat.zero_le _, rfl, hE14, by simpa using HG9.out⟩
                  case round =>
                    clear hE14 HG9
                    obtain ⟨j, bs, hj, rfl, hY, hg⟩ := hrel
                    obtain ⟨_, _, _, _, _, _, g6, g7⟩ := HS.out wr hY.kp
                    have hSS := HSI.out wr (HCV.out wr hY.kp)
                    by_cases hltj : j < m.code.length
                    · obtain ⟨x, hx⟩ : ∃ a, m.code[j]? = some a := ⟨_, List.getElem?_eq_getElem hltj⟩
                      obtain ⟨b2, off2, hao, d0, d1, d2, d3, d4, d5⟩ := hSS.1.atI hx
                      have hxo := HMO.out.code x (List.mem_of_getElem? hx)
                      have HOP : Hid (0 ≤ x.op ∧ x.op ≤ 255) := hxo.op
                      have wop := wrap_u8 hxo.op
                      rw [flat_step (insB L) hx, List.append_assoc] at hg
                      have hlen := HGL.out _ _ hg
                      have hbs : bs.length ≤ 90000 + 0 := by omega
                      obtain ⟨R2, hR2⟩ : ∃ l, l = (m.code.drop (j + 1)).flatMap (insB L) ++ (be (m.hs.length : Int) 2 ++ (m.hs.flatMap (hndB L) ++ RR)) := ⟨_, rfl⟩
                      have HR2 : Hid (R2 = (m.code.drop (j + 1)).flatMap (insB L) ++ (be (m.hs.length : Int) 2 ++ (m.hs.flatMap (hndB L) ++ RR))) := hR2
                      have HG2 : Hid (bs ++ insB L x ++ R2 = E) := by show _ = _; rw [← hg, hR2]; simp only [List.append_assoc]
                      have HTX : Hid (∀ s ∈ insX x, s ∈ L) := HT3.out x (List.mem_of_getElem? hx)
                      unfold insB at HG2
                      unfold insX at HG2 HTX
                      have hof := fun w0 => refShape_any x.op w0
                      unfold shR at hof
                      have hpt := pat_kind (kd_range (ix x.op))
                      unfold Pat at hpt
                      have hua := fun w0 => u4_row x.a w0
                      have hub := fun w0 => u4_row x.b w0
                      have HKW : Hid (Kp B [5] V (wr.alloc (.cells (insC x.op x.a x.b x.c x.n x.d) 47))) := hY.kp.chr ((Ch.refl wr).alloc _)
                      have hTi := hY.chr ((Ch.refl wr).alloc (.cells (insC x.op x.a x.b x.c x.n x.d) 47))
                      have HIB : Hid ((wr.alloc (.cells (insC x.op x.a x.b x.c x.n x.d) 47)).heap[wr.heap.size]? = some (.cells (insC x.op x.a x.b x.c x.n x.d) 47)) := heap_alloc_new _ _
                      generalize kd (ix x.op) = kk at *
                      generalize sA kk = s1 at *
                      generalize sB kk = s2 at *
                      generalize sC kk = s3 at *
                      generalize sN kk = s4 at *
                      generalize sD kk = s5 at *
                      generalize isOp x.op = iso at *
                      clear hx hlen hg hSS hY hxo hR2
                      subst hao
                      unfold insC at *
                      rcases hpt with ⟨rfl, rfl, rfl, rfl, rfl⟩ | ⟨rfl, rfl, rfl, rfl, rfl⟩ | ⟨rfl, rfl, rfl, rfl, rfl⟩ | ⟨rfl, rfl, rfl, rfl, rfl⟩ | ⟨rfl, rfl, rfl, rfl, rfl⟩ | ⟨rfl, rfl, rfl, rfl, rfl⟩
                      · go_wp2_with (first
                          | (go_at_call 33; (with_reducible refine (hof _).mono ?_); rintro e w3 ⟨rfl, hc3⟩; obtain ⟨r0, r1, r2, r3, r4, r5⟩ := insC_at (kept_at hc3 HIB.out); have hlt3 : wr.heap.size < w3.heap.size := World.block_lt_of_cell? _ _ r0)
                          | (at_builtin; refine (By.wpL ((By.rebase ((hTi.chr hc3).chr ((Ch.refl w3).alloc _))).chr ((Ch.refl _).alloc (.cells #[.int .u8 x.op] 5))) rfl (.tmp 187) (.tmp 191) rfl rfl rfl (row_lit (cs := [x.op]) (alloc_at _ _ _ (by simp)) rfl) (bdA hbs (one_le _) (by decide)) ?_); intro vb0 wb0 hE0; have hl0 := bdN hbs (one_le x.op); obtain ⟨y0, y1, y2, y3, y4⟩ := shC_at (hE0.kp.cells (heap_alloc_new _ _) (by decide)); obtain ⟨q0, q1, q2, q3, q4, q5⟩ := insC_at (hE0.kp.cells (kept_at ((Ch.refl w3).alloc _) (kept_at hc3 HIB.out)) (by decide))))
                        go_roundw
                        case rel => exact ⟨j + 1, _, by omega, by go_num, hE0.back ((HKW.out.chr hc3).chr ((Ch.refl w3).alloc _)), by rw [← HR2.out]; have e := HG2.out; rw [be_one HOP.out] at e; simpa [pickL, List.append_assoc] using e⟩
                        case measure => simp [intOf]; omega
                      · go_wp2_with (first
                          | (go_at_call 33; (with_reducible refine (hof _).mono ?_); rintro e w3 ⟨rfl, hc3⟩; obtain ⟨r0, r1, r2, r3, r4, r5⟩ := insC_at (kept_at hc3 HIB.out); have hlt3 : wr.heap.size < w3.heap.size := World.block_lt_of_cell? _ _ r0)
                          | (at_builtin; refine (By.wpL ((By.rebase ((hTi.chr hc3).chr ((Ch.refl w3).alloc _))).chr ((Ch.refl _).alloc (.cells #[.int .u8 x.op] 5))) rfl (.tmp 187) (.tmp 191) rfl rfl rfl (row_lit (cs := [x.op]) (alloc_at _ _ _ (by simp)) rfl) (bdA hbs (one_le _) (by decide)) ?_); intro vb0 wb0 hE0; have hl0 := bdN hbs (one_le x.op); obtain ⟨y0, y1, y2, y3, y4⟩ := shC_at (hE0.kp.cells (heap_alloc_new _ _) (by decide)); obtain ⟨q0, q1, q2, q3, q4, q5⟩ := insC_at (hE0.kp.cells (kept_at ((Ch.refl w3).alloc _) (kept_at hc3 HIB.out)) (by decide)))
                          | (go_at_call 29; (with_reducible refine (hua _).mono ?_); rintro e wc1 ⟨uc1, rfl, hr1, hcc1⟩; have hF1 := hE0.chr hcc1; obtain ⟨y0, y1, y2, y3, y4⟩ := shC_at (hF1.kp.cells (heap_alloc_new _ _) (by decide)); obtain ⟨q0, q1, q2, q3, q4, q5⟩ := insC_at (hF1.kp.cells (kept_at ((Ch.refl w3).alloc _) (kept_at hc3 HIB.out)) (by decide)))
                          | (at_builtin; refine (By.wpL hF1 rfl (.tmp 195) (.tmp 198) rfl rfl rfl hr1 (bdA hl0 (be4_le _) (by decide)) ?_); intro vb1 wb1 hE1; have hl1 := bdN hl0 (be4_le x.a); obtain ⟨y0, y1, y2, y3, y4⟩ := shC_at (hE1.kp.cells (heap_alloc_new _ _) (by decide)); obtain ⟨q0, q1, q2, q3, q4, q5⟩ := insC_at (hE1.kp.cells (kept_at ((Ch.refl w3).alloc _) (kept_at hc3 HIB.out)) (by decide))))
                        go_roundw
                        case rel => exact ⟨j + 1, _, by omega, by go_num, hE1.back ((HKW.out.chr hc3).chr ((Ch.refl w3).alloc _)), by rw [← HR2.out]; have e := HG2.out; rw [be_one HOP.out] at e; simpa [pickL, List.append_assoc] using e⟩
                        case measure => simp [intOf]; omega
                      · go_wp2_with (first
                          | (go_at_call 33; (with_reducible refine (hof _).mono ?_); rintro e w3 ⟨rfl, hc3⟩; obtain ⟨r0, r1, r2, r3, r4, r5⟩ := insC_at (kept_at hc3 HIB.out); have hlt3 : wr.heap.size < w3.heap.size := World.block_lt_of_cell? _ _ r0)
                          | (at_builtin; refine (By.wpL ((By.rebase ((hTi.chr hc3).chr ((Ch.refl w3).alloc _))).chr ((Ch.refl _).alloc (.cells #[.int .u8 x.op] 5))) rfl (.tmp 187) (.tmp 191) rfl rfl rfl (row_lit (cs := [x.op]) (alloc_at _ _ _ (by simp)) rfl) (bdA hbs (one_le _) (by decide)) ?_); intro vb0 wb0 hE0; have hl0 := bdN hbs (one_le x.op); obtain ⟨y0, y1, y2, y3, y4⟩ := shC_at (hE0.kp.cells (heap_alloc_new _ _) (by decide)); obtain ⟨q0, q1, q2, q3, q4, q5⟩ := insC_at (hE0.kp.cells (kept_at ((Ch.refl w3).alloc _) (kept_at hc3 HIB.out)) (by decide)))
                          | (go_at_call 29; (with_reducible refine (hua _).mono ?_); rintro e wc1 ⟨uc1, rfl, hr1, hcc1⟩; have hF1 := hE0.chr hcc1; obtain ⟨y0, y1, y2, y3, y4⟩ := shC_at (hF1.kp.cells (heap_alloc_new _ _) (by decide)); obtain ⟨q0, q1, q2, q3, q4, q5⟩ := insC_at (hF1.kp.cells (kept_at ((Ch.refl w3).alloc _) (kept_at hc3 HIB.out)) (by decide)))
                          | (at_builtin; refine (By.wpL hF1 rfl (.tmp 195) (.tmp 198) rfl rfl rfl hr1 (bdA hl0 (be4_le _) (by decide)) ?_); intro vb1 wb1 hE1; have hl1 := bdN hl0 (be4_le x.a); obtain ⟨y0, y1, y2, y3, y4⟩ := shC_at (hE1.kp.cells (heap_alloc_new _ _) (by decide)); obtain ⟨q0, q1, q2, q3, q4, q5⟩ := insC_at (hE1.kp.cells (kept_at ((Ch.refl w3).alloc _) (kept_at hc3 HIB.out)) (by decide)))
                          | (go_at_call 29; (with_reducible refine (hub _).mono ?_); rintro e wc2 ⟨uc2, rfl, hr2, hcc2⟩; have hF2 := hE1.chr hcc2; obtain ⟨y0, y1, y2, y3, y4⟩ := shC_at (hF2.kp.cells (heap_alloc_new _ _) (by decide)); obtain ⟨q0, q1, q2, q3, q4, q5⟩ := insC_at (hF2.kp.cells (kept_at ((Ch.refl w3).alloc _) (kept_at hc3 HIB.out)) (by decide)))
                          | (at_builtin; refine (By.wpL hF2 rfl (.tmp 202) (.tmp 205) rfl rfl rfl hr2 (bdA hl1 (be4_le _) (by decide)) ?_); intro vb2 wb2 hE2; have hl2 := bdN hl1 (be4_le x.b); obtain ⟨y0, y1, y2, y3, y4⟩ := shC_at (hE2.kp.cells (heap_alloc_new _ _) (by decide)); obtain ⟨q0, q1, q2, q3, q4, q5⟩ := insC_at (hE2.kp.cells (kept_at ((Ch.refl w3).alloc _) (kept_at hc3 HIB.out)) (by decide))))
                        go_roundw
                        case rel => exact ⟨j + 1, _, by omega, by go_num, hE2.back ((HKW.out.chr hc3).chr ((Ch.refl w3).alloc _)), by rw [← HR2.out]; have e := HG2.out; rw [be_one HOP.out] at e; simpa [pickL, List.append_assoc] using e⟩
                        case measure => simp [intOf]; omega
                      · have hpc : ∀ w0, Ch w4 w0 → _ := fun w0 k => pl_row x.c _ w0 (HP.out w0 k) (HTX.out _ (by simp [pickL]))
                        go_wp2_with (first
                          | (go_at_call 33; (with_reducible refine (hof _).mono ?_); rintro e w3 ⟨rfl, hc3⟩; obtain ⟨r0, r1, r2, r3, r4, r5⟩ := insC_at (kept_at hc3 HIB.out); have hlt3 : wr.heap.size < w3.heap.size := World.block_lt_of_cell? _ _ r0)
                          | (at_builtin; refine (By.wpL ((By.rebase ((hTi.chr hc3).chr ((Ch.refl w3).alloc _))).chr ((Ch.refl _).alloc (.cells #[.int .u8 x.op] 5))) rfl (.tmp 187) (.tmp 191) rfl rfl rfl (row_lit (cs := [x.op]) (alloc_at _ _ _ (by simp)) rfl) (bdA hbs (one_le _) (by decide)) ?_); intro vb0 wb0 hE0; have hl0 := bdN hbs (one_le x.op); obtain ⟨y0, y1, y2, y3, y4⟩ := shC_at (hE0.kp.cells (heap_alloc_new _ _) (by decide)); obtain ⟨q0, q1, q2, q3, q4, q5⟩ := insC_at (hE0.kp.cells (kept_at ((Ch.refl w3).alloc _) (kept_at hc3 HIB.out)) (by decide)))
                          | (go_at_call 31; (with_reducible refine (hpc _ (HCV.out _ (((HKW.out.chr hc3).chr ((Ch.refl w3).alloc _)).trans hE0.kp))).mono ?_); rintro e wc1 ⟨uc1, rfl, hr1, hcc1⟩; have hF1 := hE0.chr hcc1; obtain ⟨y0, y1, y2, y3, y4⟩ := shC_at (hF1.kp.cells (heap_alloc_new _ _) (by decide)); obtain ⟨q0, q1, q2, q3, q4, q5⟩ := insC_at (hF1.kp.cells (kept_at ((Ch.refl w3).alloc _) (kept_at hc3 HIB.out)) (by decide)))
                          | (at_builtin; refine (By.wpL hF1 rfl (.tmp 209) (.tmp 213) rfl rfl rfl hr1 (bdA hl0 (pB_le _ _) (by decide)) ?_); intro vb1 wb1 hE1; have hl1 := bdN hl0 (pB_le L (bl x.c)); obtain ⟨y0, y1, y2, y3, y4⟩ := shC_at (hE1.kp.cells (heap_alloc_new _ _) (by decide)); obtain ⟨q0, q1, q2, q3, q4, q5⟩ := insC_at (hE1.kp.cells (kept_at ((Ch.refl w3).alloc _) (kept_at hc3 HIB.out)) (by decide))))
                        go_roundw
                        case rel => exact ⟨j + 1, _, by omega, by go_num, hE1.back ((HKW.out.chr hc3).chr ((Ch.refl w3).alloc _)), by rw [← HR2.out]; have e := HG2.out; rw [be_one HOP.out] at e; simpa [pickL, List.append_assoc] using e⟩
                        case measure => simp [intOf]; omega
                      · have hpd : ∀ w0, Ch w4 w0 → _ := fun w0 k => pl_row x.d _ w0 (HP.out w0 k) (HTX.out _ (by simp [pickL]))
                        go_wp2_with (first
                          | (go_at_call 33; (with_reducible refine (hof _).mono ?_); rintro e w3 ⟨rfl, hc3⟩; obtain ⟨r0, r1, r2, r3, r4, r5⟩ := insC_at (kept_at hc3 HIB.out); have hlt3 : wr.heap.size < w3.heap.size := World.block_lt_of_cell? _ _ r0)
                          | (at_builtin; refine (By.wpL ((By.rebase ((hTi.chr hc3).chr ((Ch.refl w3).alloc _))).chr ((Ch.refl _).alloc (.cells #[.int .u8 x.op] 5))) rfl (.tmp 187) (.tmp 191) rfl rfl rfl (row_lit (cs := [x.op]) (alloc_at _ _ _ (by simp)) rfl) (bdA hbs (one_le _) (by decide)) ?_); intro vb0 wb0 hE0; have hl0 := bdN hbs (one_le x.op); obtain ⟨y0, y1, y2, y3, y4⟩ := shC_at (hE0.kp.cells (heap_alloc_new _ _) (by decide)); obtain ⟨q0, q1, q2, q3, q4, q5⟩ := insC_at (hE0.kp.cells (kept_at ((Ch.refl w3).alloc _) (kept_at hc3 HIB.out)) (by decide)))
                          | (go_at_call 31; (with_reducible refine (hpd _ (HCV.out _ (((HKW.out.chr hc3).chr ((Ch.refl w3).alloc _)).trans hE0.kp))).mono ?_); rintro e wc1 ⟨uc1, rfl, hr1, hcc1⟩; have hF1 := hE0.chr hcc1; obtain ⟨y0, y1, y2, y3, y4⟩ := shC_at (hF1.kp.cells (heap_alloc_new _ _) (by decide)); obtain ⟨q0, q1, q2, q3, q4, q5⟩ := insC_at (hF1.kp.cells (kept_at ((Ch.refl w3).alloc _) (kept_at hc3 HIB.out)) (by decide)))
                          | (at_builtin; refine (By.wpL hF1 rfl (.tmp 225) (.tmp 229) rfl rfl rfl hr1 (bdA hl0 (pB_le _ _) (by decide)) ?_); intro vb1 wb1 hE1; have hl1 := bdN hl0 (pB_le L (bl x.d)); obtain ⟨y0, y1, y2, y3, y4⟩ := shC_at (hE1.kp.cells (heap_alloc_new _ _) (by decide)); obtain ⟨q0, q1, q2, q3, q4, q5⟩ := insC_at (hE1.kp.cells (kept_at ((Ch.refl w3).alloc _) (kept_at hc3 HIB.out)) (by decide))))
                        go_roundw
                        case rel => exact ⟨j + 1, _, by omega, by go_num, hE1.back ((HKW.out.chr hc3).chr ((Ch.refl w3).alloc _)), by rw [← HR2.out]; have e := HG2.out; rw [be_one HOP.out] at e; simpa [pickL, List.append_assoc] using e⟩
                        case measure => simp [intOf]; omega
                      · have hpc : ∀ w0, Ch w4 w0 → _ := fun w0 k => pl_row x.c _ w0 (HP.out w0 k) (HTX.out _ (by simp [pickL]))
                        have hpn : ∀ w0, Ch w4 w0 → _ := fun w0 k => pl_row x.n _ w0 (HP.out w0 k) (HTX.out _ (by simp [pickL]))
                        have hpd : ∀ w0, Ch w4 w0 → _ := fun w0 k => pl_row x.d _ w0 (HP.out w0 k) (HTX.out _ (by simp [pickL]))
                        go_wp2_with (first
                          | (go_at_call 33; (with_reducible refine (hof _).mono ?_); rintro e w3 ⟨rfl, hc3⟩; obtain ⟨r0, r1, r2, r3, r4, r5⟩ := insC_at (kept_at hc3 HIB.out); have hlt3 : wr.heap.size < w3.heap.size := World.block_lt_of_cell? _ _ r0)
                          | (at_builtin; refine (By.wpL ((By.rebase ((hTi.chr hc3).chr ((Ch.refl w3).alloc _))).chr ((Ch.refl _).alloc (.cells #[.int .u8 x.op] 5))) rfl (.tmp 187) (.tmp 191) rfl rfl rfl (row_lit (cs := [x.op]) (alloc_at _ _ _ (by simp)) rfl) (bdA hbs (one_le _) (by decide)) ?_); intro vb0 wb0 hE0; have hl0 := bdN hbs (one_le x.op); obtain ⟨y0, y1, y2, y3, y4⟩ := shC_at (hE0.kp.cells (heap_alloc_new _ _) (by decide)); obtain ⟨q0, q1, q2, q3, q4, q5⟩ := insC_at (hE0.kp.cells (kept_at ((Ch.refl w3).alloc _) (kept_at hc3 HIB.out)) (by decide)))
                          | (go_at_call 31; (with_reducible refine (hpc _ (HCV.out _ (((HKW.out.chr hc3).chr ((Ch.refl w3).alloc _)).trans hE0.kp))).mono ?_); rintro e wc1 ⟨uc1, rfl, hr1, hcc1⟩; have hF1 := hE0.chr hcc1; obtain ⟨y0, y1, y2, y3, y4⟩ := shC_at (hF1.kp.cells (heap_alloc_new _ _) (by decide)); obtain ⟨q0, q1, q2, q3, q4, q5⟩ := insC_at (hF1.kp.cells (kept_at ((Ch.refl w3).alloc _) (kept_at hc3 HIB.out)) (by decide)))
                          | (at_builtin; refine (By.wpL hF1 rfl (.tmp 209) (.tmp 213) rfl rfl rfl hr1 (bdA hl0 (pB_le _ _) (by decide)) ?_); intro vb1 wb1 hE1; have hl1 := bdN hl0 (pB_le L (bl x.c)); obtain ⟨y0, y1, y2, y3, y4⟩ := shC_at (hE1.kp.cells (heap_alloc_new _ _) (by decide)); obtain ⟨q0, q1, q2, q3, q4, q5⟩ := insC_at (hE1.kp.cells (kept_at ((Ch.refl w3).alloc _) (kept_at hc3 HIB.out)) (by decide)))
                          | (go_at_call 31; (with_reducible refine (hpn _ (HCV.out _ (((HKW.out.chr hc3).chr ((Ch.refl w3).alloc _)).trans hE1.kp))).mono ?_); rintro e wc2 ⟨uc2, rfl, hr2, hcc2⟩; have hF2 := hE1.chr hcc2; obtain ⟨y0, y1, y2, y3, y4⟩ := shC_at (hF2.kp.cells (heap_alloc_new _ _) (by decide)); obtain ⟨q0, q1, q2, q3, q4, q5⟩ := insC_at (hF2.kp.cells (kept_at ((Ch.refl w3).alloc _) (kept_at hc3 HIB.out)) (by decide)))
                          | (at_builtin; refine (By.wpL hF2 rfl (.tmp 217) (.tmp 221) rfl rfl rfl hr2 (bdA hl1 (pB_le _ _) (by decide)) ?_); intro vb2 wb2 hE2; have hl2 := bdN hl1 (pB_le L (bl x.n)); obtain ⟨y0, y1, y2, y3, y4⟩ := shC_at (hE2.kp.cells (heap_alloc_new _ _) (by decide)); obtain ⟨q0, q1, q2, q3, q4, q5⟩ := insC_at (hE2.kp.cells (kept_at ((Ch.refl w3).alloc _) (kept_at hc3 HIB.out)) (by decide)))
                          | (go_at_call 31; (with_reducible refine (hpd _ (HCV.out _ (((HKW.out.chr hc3).chr ((Ch.refl w3).alloc _)).trans hE2.kp))).mono ?_); rintro e wc3 ⟨uc3, rfl, hr3, hcc3⟩; have hF3 := hE2.chr hcc3; obtain ⟨y0, y1, y2, y3, y4⟩ := shC_at (hF3.kp.cells (heap_alloc_new _ _) (by decide)); obtain ⟨q0, q1, q2, q3, q4, q5⟩ := insC_at (hF3.kp.cells (kept_at ((Ch.refl w3).alloc _) (kept_at hc3 HIB.out)) (by decide)))
                          | (at_builtin; refine (By.wpL hF3 rfl (.tmp 225) (.tmp 229) rfl rfl rfl hr3 (bdA hl2 (pB_le _ _) (by decide)) ?_); intro vb3 wb3 hE3; have hl3 := bdN hl2 (pB_le L (bl x.d)); obtain ⟨y0, y1, y2, y3, y4⟩ := shC_at (hE3.kp.cells (heap_alloc_new _ _) (by decide)); obtain ⟨q0, q1, q2, q3, q4, q5⟩ := insC_at (hE3.kp.cells (kept_at ((Ch.refl w3).alloc _) (kept_at hc3 HIB.out)) (by decide))))
                        go_roundw
                        case rel => exact ⟨j + 1, _, by omega, by go_num, hE3.back ((HKW.out.chr hc3).chr ((Ch.refl w3).alloc _)), by rw [← HR2.out]; have e := HG2.out; rw [be_one HOP.out] at e; simpa [pickL, List.append_assoc] using e⟩
                        case measure => simp [intOf]; omega
                    · obtain rfl : j = m.code.length := by omega
                      rw [flat_end (insB L) (Nat.le_refl _), List.nil_append] at hg
                      have hlen := HGL.out _ _ hg
                      have hb4 : bs.length + (be (m.hs.length : Int) 2).length ≤ 2000000 := by rw [be_len]; omega
                      have HG9 : Hid ((bs ++ be (m.hs.length : Int) 2) ++ (m.hs.flatMap (hndB L) ++ RR) = E) := by show _ = _; rw [← hg]; simp only [List.append_assoc]
                      have hu2 := fun w0 => u2_row (m.hs.length : Int) w0
                      clear hg hlen hltj hj
                      go_wp2_with (first
                        | (go_at_call 29; (with_reducible refine (hu2 _).mono ?_); rintro e w13 ⟨u13, rfl, hr13, hc13⟩)
                        | (at_builtin; refine (By.wpL (hY.chr hc13) rfl (.tmp 231) (.tmp 235) rfl rfl rfl hr13 hb4 ?_); intro v14 w14 hE14))
                      clear hY hr13 hc13 hb4 hu2 g6 g7 hSS
                      go_loopw [6, 17] (fun b i wr => ∃ (k : Nat) (bs : List Int), k ≤ m.hs.length ∧ i = .int .i64 k ∧ By B V wr b bs ∧ bs ++ ((m.hs.drop k).flatMap (hndB L) ++ RR) = E) (fun _ i _ => m.hs.length - (intOf i).toNat)
                      case atStart => exact ⟨0, _, Nat.zero_le _, rfl, hE14, by simpa using HG9.out⟩
                      case round =>
                        clear hE14 HG9
                        obtain ⟨j, bs, hj, rfl, hY, hg⟩ := hrel
                        obtain ⟨_, _, _, _, _, _, g6, g7⟩ := HS.out wr hY.kp
                        have hSS := HSI.out wr (HCV.out wr hY.kp)
                        by_cases hltj : j < m.hs.length
                        · obtain ⟨x, hx⟩ : ∃ a, m.hs[j]? = some a := ⟨_, List.getElem?_eq_getElem hltj⟩
                          obtain ⟨b2, off2, hao, d0, d1, d2, d3⟩ := hSS.2.atH hx
                          have hp1 : ∀ w0, Ch w4 w0 → _ := fun w0 k => pl_row x.c _ w0 (HP.out w0 k) (HT4.out x (List.mem_of_getElem? hx))
                          have hu1 := fun w0 => u2_row x.fr w0
                          have hu2 := fun w0 => u2_row x.to w0
                          have hu3 := fun w0 => u2_row x.pl w0
                          rw [flat_step (hndB L) hx, List.append_assoc] at hg
                          have hlen := HGL.out _ _ hg
                          have hbs : bs.length ≤ 90000 + 0 := by omega
                          have hb1 : bs.length + (be x.fr 2).length ≤ 2000000 := bdA hbs (be2_le _) (by decide)
                          have hb2 : (bs ++ be x.fr 2).length + (be x.to 2).length ≤ 2000000 := bdA (bdN hbs (be2_le _)) (be2_le _) (by decide)
                          have hb3 : ((bs ++ be x.fr 2) ++ be x.to 2).length + (be x.pl 2).length ≤ 2000000 := bdA (bdN (bdN hbs (be2_le _)) (be2_le _)) (be2_le _) (by decide)
                          have hb4 : (((bs ++ be x.fr 2) ++ be x.to 2) ++ be x.pl 2).length + (pB L (bl x.c)).length ≤ 2000000 := bdA (bdN (bdN (bdN hbs (be2_le _)) (be2_le _)) (be2_le _)) (pB_le _ _) (by decide)
                          have HG7 : Hid (((((bs ++ be x.fr 2) ++ be x.to 2) ++ be x.pl 2) ++ pB L (bl x.c)) ++ ((m.hs.drop (j + 1)).flatMap (hndB L) ++ RR) = E) := by show _ = _; rw [← hg, hndB]; simp only [List.append_assoc]
                          generalize be x.fr 2 = f1 at hu1 hb1 hb2 hb3 hb4 HG7
                          generalize be x.to 2 = f2 at hu2 hb2 hb3 hb4 HG7
                          generalize be x.pl 2 = f3 at hu3 hb3 hb4 HG7
                          generalize pB L (bl x.c) = f4 at hp1 hb4 HG7
                          have hYb := (hY.chr ((Ch.refl wr).alloc (.cells #[.int .i64 x.fr, .int .i64 x.to, .int .i64 x.pl, .string x.c] 77))).rebase
                          have HKW : Hid (Kp B [5] V (wr.alloc (.cells #[.int .i64 x.fr, .int .i64 x.to, .int .i64 x.pl, .string x.c] 77))) := hY.kp.chr ((Ch.refl wr).alloc _)
                          have HSX : Hid (∀ w', Kp B [5] (wr.alloc (.cells #[.int .i64 x.fr, .int .i64 x.to, .int .i64 x.pl, .string x.c] 77)) w' → _) := fun w' kk => hC_at (kk.cells (heap_alloc_new wr (.cells #[.int .i64 x.fr, .int .i64 x.to, .int .i64 x.pl, .string x.c] 77)) (by decide))
                          clear hx hg hlen hSS hY
                          subst hao
                          go_wp2_with fail
                          generalize wr.alloc (.cells #[.int .i64 x.fr, .int .i64 x.to, .int .i64 x.pl, .string x.c] 77) = U at *
                          have HCU : Hid (∀ w', Kp B [5] U w' → Ch w4 w') := fun w' kk => HCV.out w' (HKW.out.trans kk)
                          have hSd := HSX.out U.drew (Kp.of_ch (Ch.refl U).drew)
                          clear g6 g7 d0 d1 d2 d3
                          go_region_held3 (fun w' => w'.cell? ⟨wr.heap.size, 0, none⟩ = some (.int .i64 x.fr) ∧ w'.cell? ⟨wr.heap.size, 1, none⟩ = some (.int .i64 x.to) ∧ w'.cell? ⟨wr.heap.size, 2, none⟩ = some (.int .i64 x.pl) ∧ w'.cell? ⟨wr.heap.size, 3, none⟩ = some (.string x.c)) (first | assumption | (refine HSX.out _ ?_; exact ((By.kp (by assumption)).alloc _))) (first
                            | (go_at_call 29; (with_reducible refine (hu1 _).mono ?_); rintro e w7 ⟨u7, rfl, hr7, hc7⟩; have hE7 := (hYb.chr (Ch.refl U).drew).chr hc7; have hS7 := HSX.out w7 hE7.kp)
                            | (go_at_call 29; (with_reducible refine (hu2 _).mono ?_); rintro e w9 ⟨u9, rfl, hr9, hc9⟩; have hE9 := hE8.chr hc9; have hS9 := HSX.out w9 hE9.kp)
                            | (go_at_call 29; (with_reducible refine (hu3 _).mono ?_); rintro e w11 ⟨u11, rfl, hr11, hc11⟩; have hE11 := hE10.chr hc11; have hS11 := HSX.out w11 hE11.kp)
                            | (go_at_call 31; (with_reducible refine (hp1 _ (HCU.out _ hE12.kp)).mono ?_); rintro e w13 ⟨u13, rfl, hr13, hc13⟩; have hE13 := hE12.chr hc13; have hS13 := HSX.out w13 hE13.kp)
                            | (refine (By.stp hE7 rfl (.tmp 249) (.tmp 252) (by rfl) (by rfl) (by rfl) hr7 hb1 ?_); intro v8 w8 hE8; have hS8 := HSX.out w8 hE8.kp; clear hE7)
                            | (refine (By.stp hE9 rfl (.tmp 253) (.tmp 256) (by rfl) (by rfl) (by rfl) hr9 hb2 ?_); intro v10 w10 hE10; have hS10 := HSX.out w10 hE10.kp; clear hE9)
                            | (refine (By.stp hE11 rfl (.tmp 257) (.tmp 260) (by rfl) (by rfl) (by rfl) hr11 hb3 ?_); intro v12 w12 hE12; have hS12 := HSX.out w12 hE12.kp; clear hE11)
                            | (refine (By.stp hE13 rfl (.tmp 261) (.tmp 265) (by rfl) (by rfl) (by rfl) hr13 hb4 ?_); intro v14 w14 hE14; have hS14 := HSX.out w14 hE14.kp)
                            | fail)
                          go_wp2
                          go_roundw
                          case rel => exact ⟨j + 1, _, by omega, by go_num, hE14.back HKW.out, HG7.out⟩
                          case measure => simp [intOf]; omega
                        · obtain rfl : j = m.hs.length := by omega
                          rw [flat_end (hndB L) (Nat.le_refl _), List.nil_append, HRR.out] at hg
                          go_wp2
                          go_roundw
                          case rel => exact ⟨k + 1, _, hAk, by go_num, hY.back HKV.out, hg⟩
                          case measure => simp [intOf]; omega
                · obtain rfl : k = c.me.length := by omega
                  rw [flat_end (mthB L) (Nat.le_refl _), List.append_nil] at hg
                  subst hg
                  go_wp2
                  go_ret2
                  exact ⟨_, rfl, ownsRow_base hY.own hBw, HW.out.trans hcr⟩
theorem refEncode_ok (c : Cls) (vi vf vm : Value) (w : World) (h : ClsAt w c vi vf vm) (hT : clsT c ≤ 12000) (hok : chkE c = 0) :
    Calls Tryz.prog 10 #[.agg #[.string c.n, .string c.s, .bool c.it, .bool c.ab, vi, vf, vm]] w fun e w' => ∃ v, e = .returned (.tuple #[v, .int .i64 0]) ∧ w'.ownsRow w.heap.size 5 1 v (encB c).length ((encB c).map (Value.int .u8)) ∧ Ch w w' :=
  refEncode_gen c vi vf vm w h (fine_of c hT) (encB_len c hT hok) (fun s hs => by
    have h1 := sum_mem List.length (poolL c) s hs
    have h2 := poolL_sum c
    omega) hok
end Go.Proofs.YtdalibfgkkgcpaaGreat
