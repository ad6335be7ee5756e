/- The walk of the law ClassBack. -/
import Derived.Test.YtdalibfgkkgcpaaGreatKDecL
import Derived.Test.YtdalibfgkkgcpaaGreatKEqR
namespace Go.Proofs.YtdalibfgkkgcpaaGreat
open Go.RowKit
set_option linter.unusedVariables false

set_option maxRecDepth 100000 in
set_option maxHeartbeats 32000000 in
theorem classBack_main (c : Cls) (vi vf vm : Value) (w : World) (h : ClsAt w c vi vf vm) :
    Calls Tryz.prog 4 #[.agg #[.string c.n, .string c.s, .bool c.it, .bool c.ab, vi, vf, vm]] w fun e w' => e = .returned (.bool true) ∧ Ch w w' := by
  have hcW : Ch w (w.alloc (.cells (clsC c vi vf vm) 26)) := (Ch.refl w).alloc _
  have HB : Hid (∀ w', Ch (w.alloc (.cells (clsC c vi vf vm) 26)) w' → _) := fun w' k => clsC_at (kept_at k (heap_alloc_new w (.cells (clsC c vi vf vm) 26)))
  have hta : ∀ w0, Ch (w.alloc (.cells (clsC c vi vf vm) 26)) w0 → _ := fun w0 k => clsT_any c vi vf vm w0 (h.keep (hcW.trans k))
  have HEN : Hid (∀ w0, Ch w w0 → clsT c ≤ 12000 → chkE c = 0 → _) := fun w0 k hT h0 => encode_ok c vi vf vm w0 (h.keep k) hT h0
  have HCK : Hid (∀ w0, Ch w w0 → clsT c ≤ 12000 → _) := fun w0 k hT => refCls_any c vi vf vm w0 (h.keep k) (fine_of c hT)
  have HS1 : Hid (∀ (y : Cls) a b d w0, Ch w w0 → ClsAt w0 y a b d → _) := fun y a b d w0 k hy => sameC_any c y vi vf vm a b d w0 (h.keep k) hy
  have HS2 : Hid (∀ (y : Cls) a b d w0, Ch w w0 → ClsAt w0 y a b d → _) := fun y a b d w0 k hy => refSame_any c y vi vf vm a b d w0 (h.keep k) hy
  have HM0 : Hid (∀ w0, Ch w w0 → Sl 8 RM w0 vm c.me) := fun w0 k => h.2.2.keepM k
  obtain ⟨a1, c1, rfl, _, _⟩ := h.1.form
  obtain ⟨a2, c2, rfl, hf1, hf2⟩ := h.2.1.form
  obtain ⟨a3, c3, rfl, hm1, hm2⟩ := h.2.2.form
  clear h
  generalize c.im.length = l1 at *
  generalize c.fs.length = l2 at *
  unfold clsC at *
  cases hq : decide (chkE c = 0) with
  | false =>
    have hok : chkE c ≠ 0 := by simpa using hq
    have q9 : (chkE c == 0) = false := by simpa using hok
    have q8 : (chkE c != 0) = true := by simpa using hok
    clear HEN HS1 HS2 HM0 hok hq
    go_enter Tryz.func4, Tryz.ntmps4
    go_wp2_with (first
      | (go_at_call 7; (with_reducible refine (hta _ (Ch.refl _)).mono ?_); rintro e w3 ⟨⟨m1, rfl, p1⟩, hc3⟩; obtain ⟨z0, z1, z2, z3, z4, z5, z6⟩ := HB.out _ hc3)
      | (go_at_call 8; (with_reducible refine (awake_any _).mono ?_); rintro e w9 ⟨rfl, hc9⟩)
      | (go_at_call 12; (with_reducible refine (HCK.out _ (hcW.trans hc3) (p1.small (by omega))).mono ?_); rintro e w4 ⟨rfl, hc4⟩)
      | fail)
    · go_ret
      exact ⟨rfl, hcW.trans (hc3.trans (hc4.trans hc9))⟩
    · go_ret
      exact ⟨rfl, hcW.trans (hc3.trans hc9)⟩
  | true =>
    have hok : chkE c = 0 := by simpa using hq
    clear hq
    go_enter Tryz.func4, Tryz.ntmps4
    go_wp2_with (first
      | (go_at_call 7; (with_reducible refine (hta _ (Ch.refl _)).mono ?_); rintro e w3 ⟨⟨m1, rfl, p1⟩, hc3⟩; obtain ⟨z0, z1, z2, z3, z4, z5, z6⟩ := HB.out _ hc3)
      | (go_at_call 8; (with_reducible refine (awake_any _).mono ?_); rintro e w9 ⟨rfl, hc9⟩)
      | (go_at_call 12; fail)
      | fail)
    · have hT : clsT c ≤ 12000 := p1.small (by omega)
      have hw3 := hcW.trans hc3
      have hck := HCK.out w3 hw3 hT
      rw [hok] at hck
      have hen := fun w0 k => HEN.out w0 k hT hok
      have hbk := back_dec c hok hT
      have hEs := encB_sm c
      have hE9 := encB_len c hT hok
      have hyl : (ownC c).me.length = c.me.length := List.length_map ..
      have HYM : Hid (∀ (i : Nat) (m : Mth), c.me[i]? = some m → (ownC c).me[i]? = some (ownM m)) := fun i m hm => by show (c.me.map ownM)[i]? = _; rw [List.getElem?_map, hm]; rfl
      have hee := eqC_own c
      have HD : Hid (∀ w0 v, Rb w0 v (encB c) → _) := fun w0 v hr => decode_any v (encB c) w0 hr hEs hE9
      rw [hbk] at HD
      dsimp only at HD
      have HS1y : Hid (∀ a b d w0, Ch w w0 → ClsAt w0 (ownC c) a b d → _) := fun a b d w0 k hh => HS1.out (ownC c) a b d w0 k hh
      have HS2y : Hid (∀ a b d w0, Ch w w0 → ClsAt w0 (ownC c) a b d → _) := fun a b d w0 k hh => HS2.out (ownC c) a b d w0 k hh
      rw [hee] at HS1y HS2y
      clear hta p1 HCK HEN HS1 HS2 hbk hEs hE9 hee hT hok
      generalize ownC c = y at *
      generalize encB c = E at *
      go_wp2_with (first
        | (go_at_call 12; (with_reducible refine hck.mono ?_); rintro e w4 ⟨rfl, hc4⟩; have hw4 := hw3.trans hc4; obtain ⟨n0, n1, n2, n3, n4, n5, n6⟩ := HB.out _ (hc3.trans hc4))
        | (go_at_call 9; (with_reducible refine (hen _ hw4).mono ?_); rintro e w6 ⟨v6, rfl, ho6, hc6⟩; have hw6 := hw4.trans hc6; have hrb6 := rb_own ho6; obtain ⟨a6, c6, rfl⟩ := own_form ho6)
        | (go_at_call 16; (with_reducible refine (HD.out _ _ hrb6).mono ?_); rintro e w5 ⟨xi, xf, xm, rfl, hX, hc5⟩; obtain ⟨xa, xc, rfl, _, _⟩ := hX.1.form; obtain ⟨ya, yc, rfl, _, _⟩ := hX.2.1.form; obtain ⟨wa, wc, hxm, _, _⟩ := hX.2.2.form; rw [hyl] at hxm; subst hxm; have hw5 := hw6.trans hc5)
        | (refine wpList_store_row rfl 26 (.tmp 5) (.tmp 27) rfl w5.heap.size #[.string y.n, .string y.s, .bool y.it, .bool y.ab, .slice xa y.im.length xc, .slice ya y.fs.length yc, .slice wa c.me.length wc] rfl rfl 26 z26 (heap_alloc_new _ _) info26' rfl (one7 _ _ _ _ _ _ _ _ _ _ _ _ _) ?_; rw [setRow_alloc]; have hb7 : (w5.alloc (.cells #[.string y.n, .string y.s, .bool y.it, .bool y.ab, .slice xa y.im.length xc, .slice ya y.fs.length yc, .slice wa c.me.length wc] 26)).heap[w5.heap.size]? = some (.cells #[.string y.n, .string y.s, .bool y.it, .bool y.ab, .slice xa y.im.length xc, .slice ya y.fs.length yc, .slice wa c.me.length wc] 26) := heap_alloc_new _ _; have HB7 : Hid (∀ w', Ch (w5.alloc (.cells #[.string y.n, .string y.s, .bool y.it, .bool y.ab, .slice xa y.im.length xc, .slice ya y.fs.length yc, .slice wa c.me.length wc] 26)) w' → _) := (fun w_ k => clsC_at (c := y) (kept_at k hb7)); have hc57 : Ch w5 (w5.alloc (.cells #[.string y.n, .string y.s, .bool y.it, .bool y.ab, .slice xa y.im.length xc, .slice ya y.fs.length yc, .slice wa c.me.length wc] 26)) := (Ch.refl w5).alloc _; have hw7 := hw5.trans hc57; have hbx7 := (((hc3.trans hc4).trans hc6).trans hc5).trans hc57; have hX7 := hX.keep hc57; obtain ⟨y0, y1, y2, y3, y4, y5, y6⟩ := HB7.out _ (Ch.refl _); obtain ⟨p0, p1, p2, p3, p4, p5, p6⟩ := HB.out _ hbx7; obtain ⟨o0, o1, o2, o3, o4, o5, o6⟩ := HB.out _ (((hc3.trans hc4).trans hc6).trans hc5))
        | (go_at_call 17; (with_reducible refine (HS2y.out _ _ _ _ hw7 hX7).mono ?_); rintro e w8 ⟨rfl, hc8⟩; have hw8 := hw7.trans hc8; have hX8 := hX7.keep hc8; obtain ⟨r0, r1, r2, r3, r4, r5, r6⟩ := HB.out _ (hbx7.trans hc8); obtain ⟨s0, s1, s2, s3, s4, s5, s6⟩ := HB7.out _ hc8)
        | (go_at_call 18; (with_reducible refine (HS1y.out _ _ _ _ hw8 hX8).mono ?_); rintro e w10 ⟨rfl, hc10⟩; have hw10 := hw8.trans hc10; have hX10 := hX8.keep hc10; have hbx10 := (hbx7.trans hc8).trans hc10; have hby10 := hc8.trans hc10)
        | fail)
      have hwm : Hid (∀ w', Ch w10 w' → _) := fun w' k => HM0.out w' (hw10.trans k)
      have hym : Hid (∀ w', Ch w10 w' → Sl 8 RM w' (.slice wa c.me.length wc) y.me) := fun w' k => hX10.2.2.keepM k
      have HBx : Hid (∀ w', Ch w10 w' → _) := fun w' k => (HB.out w' (hbx10.trans k)).2.2.2.2.2.2
      have HBy : Hid (∀ w', Ch w10 w' → _) := fun w' k => (HB7.out w' (hby10.trans k)).2.2.2.2.2.2
      clear HB HB7 HM0 HD HS1y HS2y hen hck hX hX7 hX8 hX10 hrb6 ho6 z0 z1 z2 z3 z4 z5 z6 n0 n1 n2 n3 n4 n5 n6 y0 y1 y2 y3 y4 y5 y6 p0 p1 p2 p3 p4 p5 p6 o0 o1 o2 o3 o4 o5 o6 r0 r1 r2 r3 r4 r5 r6 s0 s1 s2 s3 s4 s5 s6 hb7
      have by6 := HBy.out w10 (Ch.refl _)
      go_loopw [8] (fun i wr => ∃ k : Nat, k ≤ c.me.length ∧ i = .int .i64 k ∧ Ch w10 wr) (fun i _ => c.me.length - (intOf i).toNat)
      case atStart => exact ⟨0, Nat.zero_le _, rfl, Ch.refl _⟩
      case round =>
        clear by6
        obtain ⟨i, hi, rfl, hcr⟩ := hrel
        have by6 := HBy.out wr hcr
        by_cases hlt : i < c.me.length
        · obtain ⟨m, hm⟩ : ∃ a, c.me[i]? = some a := ⟨_, List.getElem?_eq_getElem hlt⟩
          have hmy := HYM.out i m hm
          obtain ⟨b5, off5, vc5, vh5, hao5, hsc5, hsh5, d0, d1, d2, d3, d4, d5, d6, d7⟩ := (hym.out wr hcr).atM hmy
          obtain ⟨b1, off1, vc1, vh1, hao1, hsc1, hsh1, f0, f1, f2, f3, f4, f5, f6, f7⟩ := (hwm.out wr hcr).atM hm
          subst hao5 hao1
          obtain ⟨ac5, cc5, rfl, _, _⟩ := hsc5.form
          obtain ⟨ac1, cc1, rfl, _, _⟩ := hsc1.form
          have hcl : (ownM m).code.length = m.code.length := List.length_map ..
          rw [hcl] at d6 hsc5
          have HI5 : Hid (∀ (k : Nat) (x : Ins), m.code[k]? = some x → (ownM m).code[k]? = some (own x)) := fun k x hx => by show (m.code.map own)[k]? = _; rw [List.getElem?_map, hx]; rfl
          have HC5 : Hid (∀ w', Ch wr w' → _) := fun w' k => hsc5.keepI k
          have HC1 : Hid (∀ w', Ch wr w' → _) := fun w' k => hsc1.keepI k
          have HD6 : Hid (∀ w', Ch wr w' → w'.cell? ⟨b5, off5 + i * 8 + 6, none⟩ = _) := fun w' k => cell_keep k d6
          have HF6 : Hid (∀ w', Ch wr w' → w'.cell? ⟨b1, off1 + i * 8 + 6, none⟩ = _) := fun w' k => cell_keep k f6
          clear hm hmy hsh5 hsh1 hsc5 hsc1 d0 d1 d2 d3 d4 d5 d7 f0 f1 f2 f3 f4 f5 f7
          go_wp2_with fail
          go_loopw [9] (fun q wq => ∃ k : Nat, k ≤ m.code.length ∧ q = .int .i64 k ∧ Ch wr wq) (fun q _ => m.code.length - (intOf q).toNat)
          case atStart => exact ⟨0, Nat.zero_le _, rfl, Ch.refl _⟩
          case round =>
            clear d6 f6 by6
            obtain ⟨k, hk, rfl, hcq⟩ := hrel
            have by6 := HBy.out _ (hcr.trans hcq)
            have bx6 := HBx.out _ (hcr.trans hcq)
            have d6 := HD6.out _ hcq
            have f6 := HF6.out _ hcq
            by_cases hkl : k < m.code.length
            · obtain ⟨x, hx⟩ : ∃ a, m.code[k]? = some a := ⟨_, List.getElem?_eq_getElem hkl⟩
              obtain ⟨b6, off6, hao6, e0, e1, e2, e3, e4, e5⟩ := (HC5.out _ hcq).atI (HI5.out k x hx)
              obtain ⟨b2, off2, hao2, g0, g1, g2, g3, g4, g5⟩ := (HC1.out _ hcq).atI hx
              subst hao6 hao2
              have hpu := fun w0 => pure_any x w0
              have hne := fun W => neqI (own x) (own x) W
              rw [eqI_refl] at hne
              unfold Ins.v at hpu hne
              clear hx
              generalize own x = z at *
              have HSS : Hid (∀ w', Ch _ w' → w'.cell? ⟨w5.heap.size, 6, none⟩ = some (.slice (some ⟨b5, off5, none⟩) c.me.length wc) ∧ w'.cell? ⟨w.heap.size, 6, none⟩ = some (.slice (some ⟨b1, off1, none⟩) c.me.length c3) ∧ w'.cell? ⟨b5, off5 + i * 8 + 6, none⟩ = some (.slice (some ⟨b6, off6, none⟩) m.code.length cc5) ∧ w'.cell? ⟨b1, off1 + i * 8 + 6, none⟩ = some (.slice (some ⟨b2, off2, none⟩) m.code.length cc1) ∧ w'.cell? ⟨b6, off6 + k * 6, none⟩ = some (.int .i64 z.op) ∧ w'.cell? ⟨b6, off6 + k * 6 + 1, none⟩ = some (.int .i64 z.a) ∧ w'.cell? ⟨b6, off6 + k * 6 + 2, none⟩ = some (.int .i64 z.b) ∧ w'.cell? ⟨b6, off6 + k * 6 + 3, none⟩ = some (.string z.c) ∧ w'.cell? ⟨b6, off6 + k * 6 + 4, none⟩ = some (.string z.n) ∧ w'.cell? ⟨b6, off6 + k * 6 + 5, none⟩ = some (.string z.d) ∧ w'.cell? ⟨b2, off2 + k * 6, none⟩ = some (.int .i64 x.op) ∧ w'.cell? ⟨b2, off2 + k * 6 + 1, none⟩ = some (.int .i64 x.a) ∧ w'.cell? ⟨b2, off2 + k * 6 + 2, none⟩ = some (.int .i64 x.b) ∧ w'.cell? ⟨b2, off2 + k * 6 + 3, none⟩ = some (.string x.c) ∧ w'.cell? ⟨b2, off2 + k * 6 + 4, none⟩ = some (.string x.n) ∧ w'.cell? ⟨b2, off2 + k * 6 + 5, none⟩ = some (.string x.d)) := fun w' k => ⟨cell_keep k by6, cell_keep k bx6, cell_keep k d6, cell_keep k f6, cell_keep k e0, cell_keep k e1, cell_keep k e2, cell_keep k e3, cell_keep k e4, cell_keep k e5, cell_keep k g0, cell_keep k g1, cell_keep k g2, cell_keep k g3, cell_keep k g4, cell_keep k g5⟩
              have hdd := HSS.out _ (Ch.refl _).drew
              go_wp2_with fail
              go_region_held3 (fun w' => w'.cell? ⟨w5.heap.size, 6, none⟩ = some (.slice (some ⟨b5, off5, none⟩) c.me.length wc) ∧ w'.cell? ⟨w.heap.size, 6, none⟩ = some (.slice (some ⟨b1, off1, none⟩) c.me.length c3) ∧ w'.cell? ⟨b5, off5 + i * 8 + 6, none⟩ = some (.slice (some ⟨b6, off6, none⟩) m.code.length cc5) ∧ w'.cell? ⟨b1, off1 + i * 8 + 6, none⟩ = some (.slice (some ⟨b2, off2, none⟩) m.code.length cc1) ∧ w'.cell? ⟨b6, off6 + k * 6, none⟩ = some (.int .i64 z.op) ∧ w'.cell? ⟨b6, off6 + k * 6 + 1, none⟩ = some (.int .i64 z.a) ∧ w'.cell? ⟨b6, off6 + k * 6 + 2, none⟩ = some (.int .i64 z.b) ∧ w'.cell? ⟨b6, off6 + k * 6 + 3, none⟩ = some (.string z.c) ∧ w'.cell? ⟨b6, off6 + k * 6 + 4, none⟩ = some (.string z.n) ∧ w'.cell? ⟨b6, off6 + k * 6 + 5, none⟩ = some (.string z.d) ∧ w'.cell? ⟨b2, off2 + k * 6, none⟩ = some (.int .i64 x.op) ∧ w'.cell? ⟨b2, off2 + k * 6 + 1, none⟩ = some (.int .i64 x.a) ∧ w'.cell? ⟨b2, off2 + k * 6 + 2, none⟩ = some (.int .i64 x.b) ∧ w'.cell? ⟨b2, off2 + k * 6 + 3, none⟩ = some (.string x.c) ∧ w'.cell? ⟨b2, off2 + k * 6 + 4, none⟩ = some (.string x.n) ∧ w'.cell? ⟨b2, off2 + k * 6 + 5, none⟩ = some (.string x.d)) (first | assumption | (refine HSS.out _ ?_; repeat (first | exact Ch.refl _ | refine Ch.drew ?_ | refine Ch.alloc ?_ _ | refine Ch.trans ?_ (by assumption))) | fail) (first
                | (go_at_call 19; (with_reducible refine (hpu _).mono ?_); rintro e w11 ⟨rfl, hc11⟩; have hC11 := (Ch.refl _).drew.trans hc11; have hS11 := HSS.out w11 hC11)
                | fail)
              go_wp2
              go_roundw
              case rel => exact ⟨k + 1, by omega, by go_num, hcq.trans hC11⟩
              case measure => simp [intOf]; omega
            · obtain rfl : k = m.code.length := by omega
              go_wp2
              go_roundw
              case rel => exact ⟨i + 1, by omega, by go_num, hcr.trans hcq⟩
              case measure => simp [intOf]; omega
        · obtain rfl : i = c.me.length := by omega
          go_wp2_with (first
            | (go_at_call 8; (with_reducible refine (awake_any _).mono ?_); rintro e w12 ⟨rfl, hc12⟩)
            | fail)
          go_ret
          exact ⟨rfl, hw10.trans (hcr.trans hc12)⟩
    · go_ret
      exact ⟨rfl, hcW.trans (hc3.trans hc9)⟩

open Go.ChangeShapes Go.WideShapes Go.ChangeAt Go.RowKit
set_option maxRecDepth 100000 in
theorem classBack_lifted (os : Os) (started : os.Started) (H : Type) (enc : TypeId × Value → H) :
    ReturnsInHanded {} Tryz.checked os 4 .any (Rows.classBackSpec.pre6 enc Tryz.prog Tryz.f4 Rows.classBackRow.domain false) (Rows.classBackSpec.post enc Tryz.prog Tryz.f4 false true false false) := by
  refine returnsInHanded_of_change (C := Tryz.checked) cls_own started (by kernel_rfl) Tryz.func4
    (ChangeSpec.witness6 (enc := enc) (C := Tryz.checked) false ⟨#[], #[.agg #[.string ByteArray.empty, .string ByteArray.empty, .bool false, .bool false, .slice none 0 0, .slice none 0 0, .slice none 0 0]], []⟩ 8 (by kernel_rfl) (by kernel_rfl) (by kernel_rfl) (by kernel_rfl)) ?_
  intro W base args ds gs before hval0 hW hcnd _
  have hval : ∀ (j : Nat) t v, Tryz.f4.params[j]? = some t → args[j]? = some v → Value.okWide Tryz.prog W .any base t v := hval0
  have hW' := hW
  obtain ⟨p, q, hA0, hV, rfl, hfz, hnd⟩ := hW
  have hA : DataW.TrodAll enc Tryz.prog W 0 (fun _ => true) true Tryz.f4.params.toList args.toList ds p := hA0
  rw [Tryz.params4] at hA hval
  obtain ⟨v0, vs0, d0, ds0, p0, q0, hargs, rfl, rfl, h0, r0⟩ := trodAll_cons hA
  obtain ⟨rfl, rfl, rfl⟩ := trodAll_nil r0
  obtain rfl : args = #[v0] := by cases args; simp_all
  obtain ⟨rfl, rfl⟩ := trodVars_none hV
  have k0 := h0
  have lt0 : ∀ x ∈ p0, x.block < W.heap.size := by obtain ⟨m, hm⟩ := k0; exact DataW.trod_lt m _ _ _ hm
  obtain ⟨x, vi, vf, vm, rfl, hx⟩ := open_cls (hval 0 26 v0 rfl rfl) h0
  clear hA0 hval0
  refine (classBack_main x vi vf vm W hx).mono fun e W' ⟨he, hch⟩ => ?_
  have bel := hch.below
  subst he
  exact ⟨_, rfl, _, _, _, [], _, [], hW', trodAll_mk1 (shut_bool Tryz.underlying4 _), (trodAll_cons_mk (Below.trod cls_laidOut (by kernel_rfl) (of_decide_eq_true (by kernel_rfl)) k0 bel lt0) trodAll_mk0), rfl, bel.frame _, fun h => by cases h⟩

theorem classBack_proved : Rows.ClassBackSaid :=
  OpenClaim.holds_of_wide 4 Tryz.f4 rfl rfl rfl rfl rfl rfl rfl ⟨rfl, rfl, rfl, rfl, rfl⟩ rfl rfl rfl rfl rfl (by kernel_rfl) Tryz.func4 (by kernel_rfl)
    (of_decide_eq_true (by kernel_rfl)) (by unfold Func.isWrapper; first | (rw [if_pos (by decide +kernel)]; kernel_rfl) | (rw [if_neg (by decide +kernel)]; exact ⟨rfl, rfl⟩))
    (fun os started H enc _ => classBack_lifted os started H enc)
#print axioms classBack_proved
end Go.Proofs.YtdalibfgkkgcpaaGreat
