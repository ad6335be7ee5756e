/- Two methods, two classes: alike or not. -/
/- The document's own comparing of two classes. -/
import Derived.Test.YthmepecmeambmaaGreatKEqA
namespace Go.Proofs.YthmepecmeambmaaGreat
open Go.RowKit
set_option linter.unusedVariables false

def clsV (c : Cls) (vi vf vm : Value) : Value := .agg #[.string c.n, .string c.s, .bool c.it, .bool c.ab, vi, vf, vm]

end Go.Proofs.YthmepecmeambmaaGreat
namespace Go.Proofs.YthmepecmeambmaaGreat
open Go.RowKit
set_option linter.unusedVariables false

theorem eqL_lenB {α : Type} (f : α → α → Bool) {xs ys : List α} (h : ((xs.length : Int) == (ys.length : Int)) = false) : eqL f xs ys = false := eqL_len f xs ys (fun e => by rw [e] at h; simp at h)
/-- The chain of tests ahead of the loops. -/
theorem headC {a b : Cls} {r : Bool} (hr : eqC a b = r) :
    (if (!(a.n.toList == b.n.toList) || (!(a.s.toList == b.s.toList) || (!(a.it == b.it) || (!(a.ab == b.ab) || (!(eqL eqT a.im b.im) || (!((a.fs.length : Int) == (b.fs.length : Int)) || !((a.me.length : Int) == (b.me.length : Int)))))))) then false else (eqL eqF a.fs b.fs && eqL eqM a.me b.me)) = r := by
  rw [← hr]
  unfold eqC
  cases h1 : (a.n.toList == b.n.toList)
  · simp
  cases h2 : (a.s.toList == b.s.toList)
  · simp
  cases h3 : (a.it == b.it)
  · simp
  cases h4 : (a.ab == b.ab)
  · simp
  cases h5 : eqL eqT a.im b.im
  · simp
  cases h6 : ((a.fs.length : Int) == (b.fs.length : Int))
  · simp [eqL_lenB eqF h6]
  cases h7 : ((a.me.length : Int) == (b.me.length : Int))
  · simp [eqL_lenB eqM h7]
  simp
theorem headM {m n : Mth} {x r : Bool} (hr : (eqM m n && x) = r) :
    (if (!(m.n.toList == n.n.toList) || (!(m.d.toList == n.d.toList) || (!(m.st == n.st) || (!(m.ab == n.ab) || (!(m.sk == n.sk) || (!(m.lo == n.lo) || (!((m.code.length : Int) == (n.code.length : Int)) || !((m.hs.length : Int) == (n.hs.length : Int))))))))) then false else (eqL eqO m.code n.code && (eqL eqH m.hs n.hs && x))) = r := by
  rw [← hr]
  unfold eqM
  cases h1 : (m.n.toList == n.n.toList)
  · simp
  cases h2 : (m.d.toList == n.d.toList)
  · simp
  cases h3 : (m.st == n.st)
  · simp
  cases h4 : (m.ab == n.ab)
  · simp
  cases h5 : (m.sk == n.sk)
  · simp
  cases h5' : (m.lo == n.lo)
  · simp
  cases h6 : ((m.code.length : Int) == (n.code.length : Int))
  · simp [eqL_lenB eqO h6]
  cases h7 : ((m.hs.length : Int) == (n.hs.length : Int))
  · simp [eqL_lenB eqH h7]
  simp [Bool.and_assoc]

set_option maxRecDepth 100000 in
set_option maxHeartbeats 16000000 in
theorem refSame_any (a b : Cls) (vi vf vm ui uf um : Value) (w : World) (ha : ClsAt w a vi vf vm) (hb : ClsAt w b ui uf um) :
    Calls Tryz.prog 32 #[.agg #[.string a.n, .string a.s, .bool a.it, .bool a.ab, vi, vf, vm], .agg #[.string b.n, .string b.s, .bool b.it, .bool b.ab, ui, uf, um]] w
      fun e w' => e = .returned (.bool (eqC a b)) ∧ Ch w w' := by
  have hI : ∀ w0, Ch w w0 → Calls Tryz.prog 94 #[vi, ui] w0 fun e w' => e = .returned (.bool (eqL eqT a.im b.im)) ∧ Ch w0 w' := fun w0 c => refTexts_any _ _ _ _ w0 (ha.1.keepS c) (hb.1.keepS c)
  obtain ⟨r, hr⟩ : ∃ r, eqC a b = r := ⟨_, rfl⟩
  rw [hr]
  have hr1 := headC hr
  clear hr
  obtain ⟨hai, haf, ham⟩ := ha
  obtain ⟨hbi, hbf, hbm⟩ := hb
  obtain ⟨a1, c1, rfl, _, _⟩ := hai.form
  obtain ⟨a2, c2, rfl, ha21, ha22⟩ := haf.form
  obtain ⟨a3, c3, rfl, ha31, ha32⟩ := ham.form
  obtain ⟨a4, c4, rfl, _, _⟩ := hbi.form
  obtain ⟨a5, c5, rfl, hb21, hb22⟩ := hbf.form
  obtain ⟨a6, c6, rfl, hb31, hb32⟩ := hbm.form
  clear hai hbi
  have hcW : Ch w ((w.alloc (.cells (clsC a (.slice a1 a.im.length c1) (.slice a2 a.fs.length c2) (.slice a3 a.me.length c3)) 41)).alloc (.cells (clsC b (.slice a4 b.im.length c4) (.slice a5 b.fs.length c5) (.slice a6 b.me.length c6)) 41)) := ((Ch.refl w).alloc _).alloc _
  have HB1 : Hid (∀ w', Ch ((w.alloc (.cells (clsC a (.slice a1 a.im.length c1) (.slice a2 a.fs.length c2) (.slice a3 a.me.length c3)) 41)).alloc (.cells (clsC b (.slice a4 b.im.length c4) (.slice a5 b.fs.length c5) (.slice a6 b.me.length c6)) 41)) w' → _) := fun w' k => clsC_at (kept_at k (heap_alloc2_old w (.cells (clsC a (.slice a1 a.im.length c1) (.slice a2 a.fs.length c2) (.slice a3 a.me.length c3)) 41) _))
  have HB2 : Hid (∀ w', Ch ((w.alloc (.cells (clsC a (.slice a1 a.im.length c1) (.slice a2 a.fs.length c2) (.slice a3 a.me.length c3)) 41)).alloc (.cells (clsC b (.slice a4 b.im.length c4) (.slice a5 b.fs.length c5) (.slice a6 b.me.length c6)) 41)) w' → _) := fun w' k => clsC_at (kept_at k (heap_alloc2_new w _ (.cells (clsC b (.slice a4 b.im.length c4) (.slice a5 b.fs.length c5) (.slice a6 b.me.length c6)) 41)))
  unfold clsC at hcW HB1 HB2
  obtain ⟨q1, e1⟩ : ∃ q, (a.n.toList == b.n.toList) = q := ⟨_, rfl⟩
  obtain ⟨q2, e2⟩ : ∃ q, (a.s.toList == b.s.toList) = q := ⟨_, rfl⟩
  obtain ⟨q3, e3⟩ : ∃ q, (a.it == b.it) = q := ⟨_, rfl⟩
  obtain ⟨q4, e4⟩ : ∃ q, (a.ab == b.ab) = q := ⟨_, rfl⟩
  obtain ⟨q6, e6⟩ : ∃ q, ((a.fs.length : Int) == (b.fs.length : Int)) = q := ⟨_, rfl⟩
  obtain ⟨q7, e7⟩ : ∃ q, ((a.me.length : Int) == (b.me.length : Int)) = q := ⟨_, rfl⟩
  rw [e1, e2, e3, e4, e6, e7] at hr1
  generalize eqL eqT a.im b.im = q5 at *
  have HL6 : Hid (((a.fs.length : Int) == (b.fs.length : Int)) = q6) := e6
  have HL7 : Hid (((a.me.length : Int) == (b.me.length : Int)) = q7) := e7
  have t6 : ((a.fs.length : Int) != (b.fs.length : Int)) = !q6 := by rw [bne, e6]
  have t7 : ((a.me.length : Int) != (b.me.length : Int)) = !q7 := by rw [bne, e7]
  clear e6 e7
  by_cases hall : (!q1 || (!q2 || (!q3 || (!q4 || (!q5 || (!q6 || !q7)))))) = true
  · rw [if_pos hall] at hr1
    subst hr1
    have hq : q1 = false ∨ (q1 = true ∧ q2 = false) ∨ (q1 = true ∧ q2 = true ∧ q3 = false) ∨ (q1 = true ∧ q2 = true ∧ q3 = true ∧ q4 = false) ∨ (q1 = true ∧ q2 = true ∧ q3 = true ∧ q4 = true ∧ q5 = false) ∨ (q1 = true ∧ q2 = true ∧ q3 = true ∧ q4 = true ∧ q5 = true ∧ q6 = false) ∨ (q1 = true ∧ q2 = true ∧ q3 = true ∧ q4 = true ∧ q5 = true ∧ q6 = true ∧ q7 = false) := by
      revert hall
      cases q1 <;> cases q2 <;> cases q3 <;> cases q4 <;> cases q5 <;> cases q6 <;> cases q7 <;> simp
    clear hall haf ham hbf hbm HL6 HL7
    rcases hq with rfl | ⟨rfl, rfl⟩ | ⟨rfl, rfl, rfl⟩ | ⟨rfl, rfl, rfl, rfl⟩ | ⟨rfl, rfl, rfl, rfl, rfl⟩ | ⟨rfl, rfl, rfl, rfl, rfl, rfl⟩ | ⟨rfl, rfl, rfl, rfl, rfl, rfl, rfl⟩
    all_goals
      try (simp only [Bool.not_true, Bool.not_false] at t6 t7)
      go_enter Tryz.func32, Tryz.ntmps32
      go_wp2_with (first
        | (go_at_call 94; (with_reducible refine (hI _ hcW).mono ?_); rintro e w3 ⟨rfl, hc3⟩; obtain ⟨_, _, _, _, _, g5, g6⟩ := HB1.out _ hc3; obtain ⟨_, _, _, _, _, k5, k6⟩ := HB2.out _ hc3))
      go_ret
      first | exact ⟨rfl, hcW.trans hc3⟩ | exact ⟨rfl, hcW⟩
  · rw [if_neg hall] at hr1
    have hq : q1 = true ∧ q2 = true ∧ q3 = true ∧ q4 = true ∧ q5 = true ∧ q6 = true ∧ q7 = true := by
      simp at hall
      simp [hall]
    obtain ⟨rfl, rfl, rfl, rfl, rfl, rfl, rfl⟩ := hq
    have hl6 : a.fs.length = b.fs.length := by have := HL6.out; simp at this; omega
    have hl7 : a.me.length = b.me.length := by have := HL7.out; simp at this; omega
    have HR : Hid ((eqL eqF a.fs b.fs && eqL eqM a.me b.me) = r) := hr1
    clear hall hr1 HL6 HL7
    simp only [Bool.not_true] at t6 t7
    have HE6 : Hid (a.fs.length = b.fs.length) := hl6
    have HE7 : Hid (a.me.length = b.me.length) := hl7
    clear hl6 hl7
    go_enter Tryz.func32, Tryz.ntmps32
    go_wp2_with (first
      | (go_at_call 94; (with_reducible refine (hI _ hcW).mono ?_); rintro e w3 ⟨rfl, hc3⟩; obtain ⟨_, _, _, _, _, g5, g6⟩ := HB1.out _ hc3; obtain ⟨_, _, _, _, _, k5, k6⟩ := HB2.out _ hc3))
    clear hI
    generalize (w.alloc (.cells #[.string a.n, .string a.s, .bool a.it, .bool a.ab, .slice a1 a.im.length c1, .slice a2 a.fs.length c2, .slice a3 a.me.length c3] 41)).alloc (.cells #[.string b.n, .string b.s, .bool b.it, .bool b.ab, .slice a4 b.im.length c4, .slice a5 b.fs.length c5, .slice a6 b.me.length c6] 41) = w1 at *
    go_loopw [5] (fun i wr => ∃ k : Nat, k ≤ a.fs.length ∧ i = .int .i64 k ∧ (eqL eqF (a.fs.drop k) (b.fs.drop k) && eqL eqM a.me b.me) = r ∧ Ch w1 wr) (fun i _ => a.fs.length - (intOf i).toNat)
    case atStart => exact ⟨0, Nat.zero_le _, rfl, by simpa using HR.out, hc3⟩
    case round =>
      clear g5 g6 k5 k6 HR
      obtain ⟨k, hk, rfl, hd, hcr⟩ := hrel
      obtain ⟨_, _, _, _, _, g5, g6⟩ := HB1.out _ hcr
      obtain ⟨_, _, _, _, _, k5, k6⟩ := HB2.out _ hcr
      by_cases hlt : k < a.fs.length
      · obtain ⟨x, hxk⟩ : ∃ z, a.fs[k]? = some z := ⟨_, List.getElem?_eq_getElem hlt⟩
        obtain ⟨y, hyk⟩ : ∃ z, b.fs[k]? = some z := ⟨_, List.getElem?_eq_getElem (by rw [← HE6.out]; exact hlt)⟩
        have hlt2 : k < b.fs.length := by rw [← HE6.out]; exact hlt
        obtain ⟨bb, off, hao, d0, d1, d2⟩ := (haf.keepF (hcW.trans hcr)).atF hxk
        obtain ⟨b2, off2, hao2, f0, f1, f2⟩ := (hbf.keepF (hcW.trans hcr)).atF hyk
        rw [eqL_step eqF hxk hyk] at hd
        have HD : Hid (((eqF x y && eqL eqF (a.fs.drop (k + 1)) (b.fs.drop (k + 1))) && eqL eqM a.me b.me) = r) := hd
        have hne := fun W => neqF x y W
        unfold fldV at hne
        obtain ⟨q, hq⟩ : ∃ q, eqF x y = q := ⟨_, rfl⟩
        rw [hq] at hne
        have HQ : Hid (eqF x y = q) := hq
        clear hd hxk hyk hq haf hbf ham hbm
        subst hao hao2
        cases q
        · go_wp2_with fail
          go_quiet (fail)
          go_wp2
          go_ret
          have e := HD.out
          rw [HQ.out] at e
          exact ⟨congrArg (fun b => Ending.returned (.bool b)) (by simpa using e), (hcW.trans hcr).drewN _⟩
        · go_wp2_with fail
          go_quiet (fail)
          go_wp2
          go_roundw
          case rel => exact ⟨k + 1, by omega, by go_num, by have e := HD.out; rw [HQ.out, Bool.true_and] at e; exact e, hcr.drewN _⟩
          case measure => simp [intOf]; omega
      · obtain rfl : k = a.fs.length := by omega
        rw [eqL_end eqF (Nat.le_refl _) (by rw [HE6.out]; exact Nat.le_refl _), Bool.true_and] at hd
        have HD : Hid (eqL eqM a.me b.me = r) := hd
        clear hd
        go_wp2
        go_loopw [6] (fun i wr => ∃ k : Nat, k ≤ a.me.length ∧ i = .int .i64 k ∧ eqL eqM (a.me.drop k) (b.me.drop k) = r ∧ Ch w1 wr) (fun i _ => a.me.length - (intOf i).toNat)
        case atStart => exact ⟨0, Nat.zero_le _, rfl, by simpa using HD.out, hcr⟩
        case round =>
          clear g5 g6 k5 k6 HD hcr hlt hk
          obtain ⟨k, hk, rfl, hd, hcr⟩ := hrel
          obtain ⟨_, _, _, _, _, g5, g6⟩ := HB1.out _ hcr
          obtain ⟨_, _, _, _, _, k5, k6⟩ := HB2.out _ hcr
          by_cases hlt : k < a.me.length
          · obtain ⟨x, hxk⟩ : ∃ z, a.me[k]? = some z := ⟨_, List.getElem?_eq_getElem hlt⟩
            obtain ⟨y, hyk⟩ : ∃ z, b.me[k]? = some z := ⟨_, List.getElem?_eq_getElem (by rw [← HE7.out]; exact hlt)⟩
            have hlt2 : k < b.me.length := by rw [← HE7.out]; exact hlt
            obtain ⟨bb, off, vc, vh, hao, hs1, hs2, z0, z1, z2, z3, z4, z5, z6, z7⟩ := ham.atM hxk
            obtain ⟨b2, off2, uc, uh, hao2, hs3, hs4, y0, y1, y2, y3, y4, y5, y6, y7⟩ := hbm.atM hyk
            rw [eqL_step eqM hxk hyk] at hd
            have hd2 := headM hd
            have hww := hcW.trans hcr
            have HS1 : Hid (Sl 6 RI w vc x.code) := hs1
            have HS2 : Hid (Sl 4 RH w vh x.hs) := hs2
            have HS3 : Hid (Sl 6 RI w uc y.code) := hs3
            have HS4 : Hid (Sl 4 RH w uh y.hs) := hs4
            obtain ⟨p1, o1, rfl, ho11, ho12⟩ := hs1.form
            obtain ⟨p2, o2, rfl, ho21, ho22⟩ := hs2.form
            obtain ⟨p3, o3, rfl, ho31, ho32⟩ := hs3.form
            obtain ⟨p4, o4, rfl, ho41, ho42⟩ := hs4.form
            clear hs1 hs2 hs3 hs4
            obtain ⟨l1, hl1⟩ : ∃ l, x.code.length = l := ⟨_, rfl⟩
            obtain ⟨l2, hl2⟩ : ∃ l, x.hs.length = l := ⟨_, rfl⟩
            obtain ⟨l3, hl3⟩ : ∃ l, y.code.length = l := ⟨_, rfl⟩
            obtain ⟨l4, hl4⟩ : ∃ l, y.hs.length = l := ⟨_, rfl⟩
            rw [hl1] at ho11 HS1 z6 hd2
            rw [hl2] at ho21 HS2 z7 hd2
            rw [hl3] at ho31 HS3 y6 hd2
            rw [hl4] at ho41 HS4 y7 hd2
            subst hao hao2
            have HT : Hid (∀ w', Ch wr w' → w'.cell? ⟨w.heap.size, 6, none⟩ = some (.slice (some ⟨bb, off, none⟩) a.me.length c3) ∧ w'.cell? ⟨w.heap.size + 1, 6, none⟩ = some (.slice (some ⟨b2, off2, none⟩) b.me.length c6) ∧ w'.cell? ⟨bb, off + k * 8, none⟩ = some (.string x.n) ∧ w'.cell? ⟨bb, off + k * 8 + 1, none⟩ = some (.string x.d) ∧ w'.cell? ⟨bb, off + k * 8 + 2, none⟩ = some (.bool x.st) ∧ w'.cell? ⟨bb, off + k * 8 + 3, none⟩ = some (.bool x.ab) ∧ w'.cell? ⟨bb, off + k * 8 + 4, none⟩ = some (.int .i64 x.sk) ∧ w'.cell? ⟨bb, off + k * 8 + 5, none⟩ = some (.int .i64 x.lo) ∧ w'.cell? ⟨bb, off + k * 8 + 6, none⟩ = some (.slice p1 l1 o1) ∧ w'.cell? ⟨bb, off + k * 8 + 7, none⟩ = some (.slice p2 l2 o2) ∧ w'.cell? ⟨b2, off2 + k * 8, none⟩ = some (.string y.n) ∧ w'.cell? ⟨b2, off2 + k * 8 + 1, none⟩ = some (.string y.d) ∧ w'.cell? ⟨b2, off2 + k * 8 + 2, none⟩ = some (.bool y.st) ∧ w'.cell? ⟨b2, off2 + k * 8 + 3, none⟩ = some (.bool y.ab) ∧ w'.cell? ⟨b2, off2 + k * 8 + 4, none⟩ = some (.int .i64 y.sk) ∧ w'.cell? ⟨b2, off2 + k * 8 + 5, none⟩ = some (.int .i64 y.lo) ∧ w'.cell? ⟨b2, off2 + k * 8 + 6, none⟩ = some (.slice p3 l3 o3) ∧ w'.cell? ⟨b2, off2 + k * 8 + 7, none⟩ = some (.slice p4 l4 o4)) := fun w' hw => ⟨cell_keep hw g6, cell_keep hw k6, cell_keep (hww.trans hw) z0, cell_keep (hww.trans hw) z1, cell_keep (hww.trans hw) z2, cell_keep (hww.trans hw) z3, cell_keep (hww.trans hw) z4, cell_keep (hww.trans hw) z5, cell_keep (hww.trans hw) z6, cell_keep (hww.trans hw) z7, cell_keep (hww.trans hw) y0, cell_keep (hww.trans hw) y1, cell_keep (hww.trans hw) y2, cell_keep (hww.trans hw) y3, cell_keep (hww.trans hw) y4, cell_keep (hww.trans hw) y5, cell_keep (hww.trans hw) y6, cell_keep (hww.trans hw) y7⟩
            clear z0 z1 z2 z3 z4 z5 z6 z7 y0 y1 y2 y3 y4 y5 y6 y7 hd hxk hyk haf hbf
            have HD2 : Hid (_ = r) := hd2
            clear hd2
            go_wp2_with fail
            go_region_held (fun w' => w'.cell? ⟨w.heap.size, 6, none⟩ = some (.slice (some ⟨bb, off, none⟩) a.me.length c3) ∧ w'.cell? ⟨w.heap.size + 1, 6, none⟩ = some (.slice (some ⟨b2, off2, none⟩) b.me.length c6) ∧ w'.cell? ⟨bb, off + k * 8, none⟩ = some (.string x.n) ∧ w'.cell? ⟨bb, off + k * 8 + 1, none⟩ = some (.string x.d) ∧ w'.cell? ⟨bb, off + k * 8 + 2, none⟩ = some (.bool x.st) ∧ w'.cell? ⟨bb, off + k * 8 + 3, none⟩ = some (.bool x.ab) ∧ w'.cell? ⟨bb, off + k * 8 + 4, none⟩ = some (.int .i64 x.sk) ∧ w'.cell? ⟨bb, off + k * 8 + 5, none⟩ = some (.int .i64 x.lo) ∧ w'.cell? ⟨bb, off + k * 8 + 6, none⟩ = some (.slice p1 l1 o1) ∧ w'.cell? ⟨bb, off + k * 8 + 7, none⟩ = some (.slice p2 l2 o2) ∧ w'.cell? ⟨b2, off2 + k * 8, none⟩ = some (.string y.n) ∧ w'.cell? ⟨b2, off2 + k * 8 + 1, none⟩ = some (.string y.d) ∧ w'.cell? ⟨b2, off2 + k * 8 + 2, none⟩ = some (.bool y.st) ∧ w'.cell? ⟨b2, off2 + k * 8 + 3, none⟩ = some (.bool y.ab) ∧ w'.cell? ⟨b2, off2 + k * 8 + 4, none⟩ = some (.int .i64 y.sk) ∧ w'.cell? ⟨b2, off2 + k * 8 + 5, none⟩ = some (.int .i64 y.lo) ∧ w'.cell? ⟨b2, off2 + k * 8 + 6, none⟩ = some (.slice p3 l3 o3) ∧ w'.cell? ⟨b2, off2 + k * 8 + 7, none⟩ = some (.slice p4 l4 o4)) ((refine HT.out _ ?_; repeat (first | exact Ch.refl _ | refine Ch.drew ?_ | refine Ch.alloc ?_ _ | refine Ch.trans ?_ (by assumption)))) (fail)
            · have hcv : Ch wr (((wr.alloc (.cells #[.string x.n, .string x.d, .bool x.st, .bool x.ab, .int .i64 x.sk, .int .i64 x.lo, .slice p1 l1 o1, .slice p2 l2 o2] 66)).alloc (.cells #[.string y.n, .string y.d, .bool y.st, .bool y.ab, .int .i64 y.sk, .int .i64 y.lo, .slice p3 l3 o3, .slice p4 l4 o4] 66)).drew) := (((Ch.refl wr).alloc _).alloc _).drew
              have h7 : (((wr.alloc (.cells #[.string x.n, .string x.d, .bool x.st, .bool x.ab, .int .i64 x.sk, .int .i64 x.lo, .slice p1 l1 o1, .slice p2 l2 o2] 66)).alloc (.cells #[.string y.n, .string y.d, .bool y.st, .bool y.ab, .int .i64 y.sk, .int .i64 y.lo, .slice p3 l3 o3, .slice p4 l4 o4] 66)).drew).heap[wr.heap.size]? = some (.cells #[.string x.n, .string x.d, .bool x.st, .bool x.ab, .int .i64 x.sk, .int .i64 x.lo, .slice p1 l1 o1, .slice p2 l2 o2] 66) := heap_alloc2_old wr _ _
              have h8 : (((wr.alloc (.cells #[.string x.n, .string x.d, .bool x.st, .bool x.ab, .int .i64 x.sk, .int .i64 x.lo, .slice p1 l1 o1, .slice p2 l2 o2] 66)).alloc (.cells #[.string y.n, .string y.d, .bool y.st, .bool y.ab, .int .i64 y.sk, .int .i64 y.lo, .slice p3 l3 o3, .slice p4 l4 o4] 66)).drew).heap[wr.heap.size + 1]? = some (.cells #[.string y.n, .string y.d, .bool y.st, .bool y.ab, .int .i64 y.sk, .int .i64 y.lo, .slice p3 l3 o3, .slice p4 l4 o4] 66) := heap_alloc2_new wr _ _
              have hcv1 := hcr.trans hcv
              clear hcv HT g5 g6 k5 k6 hcr hww
              generalize ((wr.alloc (.cells #[.string x.n, .string x.d, .bool x.st, .bool x.ab, .int .i64 x.sk, .int .i64 x.lo, .slice p1 l1 o1, .slice p2 l2 o2] 66)).alloc (.cells #[.string y.n, .string y.d, .bool y.st, .bool y.ab, .int .i64 y.sk, .int .i64 y.lo, .slice p3 l3 o3, .slice p4 l4 o4] 66)).drew = W at *
              generalize wr.heap.size + 1 = G8 at *
              generalize wr.heap.size = G7 at *

              have h7' : W.heap[G7]? = some (.cells (mthC x (.slice p1 l1 o1) (.slice p2 l2 o2)) 66) := h7
              have h8' : W.heap[G8]? = some (.cells (mthC y (.slice p3 l3 o3) (.slice p4 l4 o4)) 66) := h8
              have HB7 : Hid (∀ w', Ch W w' → _) := fun w' k => mthC_at (kept_at k h7')
              have HB8 : Hid (∀ w', Ch W w' → _) := fun w' k => mthC_at (kept_at k h8')
              obtain ⟨m0, m1, m2, m3, m4, m5, m6, m7⟩ := HB7.out _ (Ch.refl W)
              obtain ⟨n0, n1, n2, n3, n4, n5, n6, n7⟩ := HB8.out _ (Ch.refl W)
              clear h7 h8 h7' h8'
              obtain ⟨q1, e1⟩ : ∃ q, (x.n.toList == y.n.toList) = q := ⟨_, rfl⟩
              obtain ⟨q2, e2⟩ : ∃ q, (x.d.toList == y.d.toList) = q := ⟨_, rfl⟩
              obtain ⟨q3, e3⟩ : ∃ q, (x.st == y.st) = q := ⟨_, rfl⟩
              obtain ⟨q4, e4⟩ : ∃ q, (x.ab == y.ab) = q := ⟨_, rfl⟩
              obtain ⟨q5, e5⟩ : ∃ q, (x.sk == y.sk) = q := ⟨_, rfl⟩
              obtain ⟨q6, e6⟩ : ∃ q, (x.lo == y.lo) = q := ⟨_, rfl⟩
              obtain ⟨q7, e7⟩ : ∃ q, ((l1 : Int) == (l3 : Int)) = q := ⟨_, rfl⟩
              obtain ⟨q8, e8⟩ : ∃ q, ((l2 : Int) == (l4 : Int)) = q := ⟨_, rfl⟩
              rw [e1, e2, e3, e4, e5, e6, e7, e8] at HD2
              have HL7 : Hid (((l1 : Int) == (l3 : Int)) = q7) := e7
              have HL8 : Hid (((l2 : Int) == (l4 : Int)) = q8) := e8
              have s7 : ((l1 : Int) != (l3 : Int)) = !q7 := by rw [bne, e7]
              have s8 : ((l2 : Int) != (l4 : Int)) = !q8 := by rw [bne, e8]
              have s5 : (x.sk != y.sk) = !q5 := by rw [bne, e5]
              have s6 : (x.lo != y.lo) = !q6 := by rw [bne, e6]
              clear e7 e8 e5 e6
              by_cases hall : (!q1 || (!q2 || (!q3 || (!q4 || (!q5 || (!q6 || (!q7 || !q8))))))) = true
              · have hr1 := HD2.out
                rw [if_pos hall] at hr1
                subst hr1
                clear HD2 HS1 HS2 HS3 HS4 HL7 HL8 HB7 HB8 ham hbm
                have hq : (q1 = false) ∨ (q1 = true ∧ q2 = false) ∨ (q1 = true ∧ q2 = true ∧ q3 = false) ∨ (q1 = true ∧ q2 = true ∧ q3 = true ∧ q4 = false) ∨ (q1 = true ∧ q2 = true ∧ q3 = true ∧ q4 = true ∧ q5 = false) ∨ (q1 = true ∧ q2 = true ∧ q3 = true ∧ q4 = true ∧ q5 = true ∧ q6 = false) ∨ (q1 = true ∧ q2 = true ∧ q3 = true ∧ q4 = true ∧ q5 = true ∧ q6 = true ∧ q7 = false) ∨ (q1 = true ∧ q2 = true ∧ q3 = true ∧ q4 = true ∧ q5 = true ∧ q6 = true ∧ q7 = true ∧ q8 = false) := by
                  revert hall
                  cases q1 <;> cases q2 <;> cases q3 <;> cases q4 <;> cases q5 <;> cases q6 <;> cases q7 <;> cases q8 <;> simp
                clear hall
                rcases hq with rfl | ⟨rfl, rfl⟩ | ⟨rfl, rfl, rfl⟩ | ⟨rfl, rfl, rfl, rfl⟩ | ⟨rfl, rfl, rfl, rfl, rfl⟩ | ⟨rfl, rfl, rfl, rfl, rfl, rfl⟩ | ⟨rfl, rfl, rfl, rfl, rfl, rfl, rfl⟩ | ⟨rfl, rfl, rfl, rfl, rfl, rfl, rfl, rfl⟩
                all_goals
                  try (simp only [Bool.not_true, Bool.not_false] at s5 s6 s7 s8)
                  go_wp2
                  go_ret
                  exact ⟨rfl, hcW.trans hcv1⟩
              · have hr1 := HD2.out
                rw [if_neg hall] at hr1
                have hq : q1 = true ∧ q2 = true ∧ q3 = true ∧ q4 = true ∧ q5 = true ∧ q6 = true ∧ q7 = true ∧ q8 = true := by
                  simp at hall
                  simp [hall]
                obtain ⟨rfl, rfl, rfl, rfl, rfl, rfl, rfl, rfl⟩ := hq
                have HA7 : Hid (l1 = l3) := by have := HL7.out; show _ = _; simp at this; omega
                have HA8 : Hid (l2 = l4) := by have := HL8.out; show _ = _; simp at this; omega
                obtain ⟨RR, hRR⟩ : ∃ R, eqL eqM (a.me.drop (k + 1)) (b.me.drop (k + 1)) = R := ⟨_, rfl⟩
                rw [hRR] at hr1
                have HRR : Hid (eqL eqM (a.me.drop (k + 1)) (b.me.drop (k + 1)) = RR) := hRR
                have HR1 : Hid ((eqL eqO x.code y.code && (eqL eqH x.hs y.hs && RR)) = r) := hr1
                have HX1 : Hid (x.code.length = l1) := hl1
                have HX2 : Hid (x.hs.length = l2) := hl2
                have HX3 : Hid (y.code.length = l3) := hl3
                have HX4 : Hid (y.hs.length = l4) := hl4
                clear hall hr1 HL7 HL8 HD2 hRR hl1 hl2 hl3 hl4
                simp only [Bool.not_true] at s5 s6 s7 s8
                go_wp2
                go_loopw [9] (fun i wr => ∃ j : Nat, j ≤ l1 ∧ i = .int .i64 j ∧ (eqL eqO (x.code.drop j) (y.code.drop j) && (eqL eqH x.hs y.hs && RR)) = r ∧ Ch W wr) (fun i _ => l1 - (intOf i).toNat)
                case atStart => exact ⟨0, Nat.zero_le _, rfl, by simpa using HR1.out, Ch.refl _⟩
                case round =>
                  clear m0 m1 m2 m3 m4 m5 m6 m7 n0 n1 n2 n3 n4 n5 n6 n7 e1 e2 e3 e4 s5 s6 HR1
                  obtain ⟨j, hj, rfl, hd, hcj⟩ := hrel
                  obtain ⟨m0, m1, m2, m3, m4, m5, m6, m7⟩ := HB7.out _ hcj
                  obtain ⟨n0, n1, n2, n3, n4, n5, n6, n7⟩ := HB8.out _ hcj
                  by_cases hltj : j < l1
                  · have hltj2 : j < l3 := by rw [← HA7.out]; exact hltj
                    obtain ⟨x2, hxk⟩ : ∃ z, x.code[j]? = some z := ⟨_, List.getElem?_eq_getElem (by rw [HX1.out]; exact hltj)⟩
                    obtain ⟨y2, hyk⟩ : ∃ z, y.code[j]? = some z := ⟨_, List.getElem?_eq_getElem (by rw [HX3.out]; exact hltj2)⟩
                    have hwj := hcW.trans (hcv1.trans hcj)
                    obtain ⟨e1, f1, hao, d0, d1, d2, d3, d4, d5⟩ := (HS1.out.keepI hwj).atI hxk
                    obtain ⟨e2, f2, hao2, b0, b1, b2', b3, b4, b5⟩ := (HS3.out.keepI hwj).atI hyk
                    rw [eqL_step eqO hxk hyk] at hd
                    subst hao hao2
                    have HT : Hid (∀ w', Ch wr w' → w'.cell? ⟨G7, 6, none⟩ = some (.slice (some ⟨e1, f1, none⟩) l1 o1) ∧ w'.cell? ⟨G8, 6, none⟩ = some (.slice (some ⟨e2, f2, none⟩) l3 o3) ∧ w'.cell? ⟨e1, f1 + j * 6, none⟩ = some (.int .i64 x2.op) ∧ w'.cell? ⟨e1, f1 + j * 6 + 1, none⟩ = some (.int .i64 x2.a) ∧ w'.cell? ⟨e1, f1 + j * 6 + 2, none⟩ = some (.int .i64 x2.b) ∧ w'.cell? ⟨e1, f1 + j * 6 + 3, none⟩ = some (.string x2.c) ∧ w'.cell? ⟨e1, f1 + j * 6 + 4, none⟩ = some (.string x2.n) ∧ w'.cell? ⟨e1, f1 + j * 6 + 5, none⟩ = some (.string x2.d) ∧ w'.cell? ⟨e2, f2 + j * 6, none⟩ = some (.int .i64 y2.op) ∧ w'.cell? ⟨e2, f2 + j * 6 + 1, none⟩ = some (.int .i64 y2.a) ∧ w'.cell? ⟨e2, f2 + j * 6 + 2, none⟩ = some (.int .i64 y2.b) ∧ w'.cell? ⟨e2, f2 + j * 6 + 3, none⟩ = some (.string y2.c) ∧ w'.cell? ⟨e2, f2 + j * 6 + 4, none⟩ = some (.string y2.n) ∧ w'.cell? ⟨e2, f2 + j * 6 + 5, none⟩ = some (.string y2.d)) := fun w' hw => ⟨cell_keep hw m6, cell_keep hw n6, cell_keep hw d0, cell_keep hw d1, cell_keep hw d2, cell_keep hw d3, cell_keep hw d4, cell_keep hw d5, cell_keep hw b0, cell_keep hw b1, cell_keep hw b2', cell_keep hw b3, cell_keep hw b4, cell_keep hw b5⟩
                    have hp1 := fun w0 => pure_any x2 w0
                    have hp2 := fun w0 => pure_any y2 w0
                    have hne := fun W => neqI (own x2) (own y2) W
                    obtain ⟨q, hq⟩ : ∃ q, eqI (own x2) (own y2) = q := ⟨_, rfl⟩
                    rw [hq] at hne
                    have HD : Hid (((eqO x2 y2 && eqL eqO (x.code.drop (j + 1)) (y.code.drop (j + 1))) && (eqL eqH x.hs y.hs && RR)) = r) := hd
                    have HQ : Hid (eqO x2 y2 = q) := hq
                    clear hd hxk hyk hq d0 d1 d2 d3 d4 d5 b0 b1 b2' b3 b4 b5 ham hbm
                    generalize own x2 = X2 at *
                    generalize own y2 = Y2 at *
                    unfold Ins.v at hp1 hp2 hne
                    cases q
                    · go_wp2_with fail
                      go_region_held (fun w' => w'.cell? ⟨G7, 6, none⟩ = some (.slice (some ⟨e1, f1, none⟩) l1 o1) ∧ w'.cell? ⟨G8, 6, none⟩ = some (.slice (some ⟨e2, f2, none⟩) l3 o3) ∧ w'.cell? ⟨e1, f1 + j * 6, none⟩ = some (.int .i64 x2.op) ∧ w'.cell? ⟨e1, f1 + j * 6 + 1, none⟩ = some (.int .i64 x2.a) ∧ w'.cell? ⟨e1, f1 + j * 6 + 2, none⟩ = some (.int .i64 x2.b) ∧ w'.cell? ⟨e1, f1 + j * 6 + 3, none⟩ = some (.string x2.c) ∧ w'.cell? ⟨e1, f1 + j * 6 + 4, none⟩ = some (.string x2.n) ∧ w'.cell? ⟨e1, f1 + j * 6 + 5, none⟩ = some (.string x2.d) ∧ w'.cell? ⟨e2, f2 + j * 6, none⟩ = some (.int .i64 y2.op) ∧ w'.cell? ⟨e2, f2 + j * 6 + 1, none⟩ = some (.int .i64 y2.a) ∧ w'.cell? ⟨e2, f2 + j * 6 + 2, none⟩ = some (.int .i64 y2.b) ∧ w'.cell? ⟨e2, f2 + j * 6 + 3, none⟩ = some (.string y2.c) ∧ w'.cell? ⟨e2, f2 + j * 6 + 4, none⟩ = some (.string y2.n) ∧ w'.cell? ⟨e2, f2 + j * 6 + 5, none⟩ = some (.string y2.d)) ((refine HT.out _ ?_; repeat (first | exact Ch.refl _ | refine Ch.drew ?_ | refine Ch.alloc ?_ _ | refine Ch.trans ?_ (by assumption)))) (first
                        | (go_at_call 95; (with_reducible refine (hp1 _).mono ?_); rintro e w5 ⟨rfl, hc5⟩)
                        | (go_at_call 95; (with_reducible refine (hp2 _).mono ?_); rintro e w6 ⟨rfl, hc6⟩))
                      all_goals
                        go_wp2
                        go_ret
                        have e := HD.out
                        rw [HQ.out] at e
                        refine ⟨congrArg (fun b => Ending.returned (.bool b)) (by simpa using e), hwj.trans ?_⟩
                        repeat (first | exact Ch.refl _ | refine Ch.drew ?_ | refine Ch.alloc ?_ _ | refine Ch.trans ?_ (by assumption))
                    · go_wp2_with fail
                      go_region_held (fun w' => w'.cell? ⟨G7, 6, none⟩ = some (.slice (some ⟨e1, f1, none⟩) l1 o1) ∧ w'.cell? ⟨G8, 6, none⟩ = some (.slice (some ⟨e2, f2, none⟩) l3 o3) ∧ w'.cell? ⟨e1, f1 + j * 6, none⟩ = some (.int .i64 x2.op) ∧ w'.cell? ⟨e1, f1 + j * 6 + 1, none⟩ = some (.int .i64 x2.a) ∧ w'.cell? ⟨e1, f1 + j * 6 + 2, none⟩ = some (.int .i64 x2.b) ∧ w'.cell? ⟨e1, f1 + j * 6 + 3, none⟩ = some (.string x2.c) ∧ w'.cell? ⟨e1, f1 + j * 6 + 4, none⟩ = some (.string x2.n) ∧ w'.cell? ⟨e1, f1 + j * 6 + 5, none⟩ = some (.string x2.d) ∧ w'.cell? ⟨e2, f2 + j * 6, none⟩ = some (.int .i64 y2.op) ∧ w'.cell? ⟨e2, f2 + j * 6 + 1, none⟩ = some (.int .i64 y2.a) ∧ w'.cell? ⟨e2, f2 + j * 6 + 2, none⟩ = some (.int .i64 y2.b) ∧ w'.cell? ⟨e2, f2 + j * 6 + 3, none⟩ = some (.string y2.c) ∧ w'.cell? ⟨e2, f2 + j * 6 + 4, none⟩ = some (.string y2.n) ∧ w'.cell? ⟨e2, f2 + j * 6 + 5, none⟩ = some (.string y2.d)) ((refine HT.out _ ?_; repeat (first | exact Ch.refl _ | refine Ch.drew ?_ | refine Ch.alloc ?_ _ | refine Ch.trans ?_ (by assumption)))) (first
                        | (go_at_call 95; (with_reducible refine (hp1 _).mono ?_); rintro e w5 ⟨rfl, hc5⟩)
                        | (go_at_call 95; (with_reducible refine (hp2 _).mono ?_); rintro e w6 ⟨rfl, hc6⟩))
                      all_goals
                        go_wp2
                        go_roundw
                        case rel =>
                          refine ⟨j + 1, by omega, by go_num, by have e := HD.out; rw [HQ.out, Bool.true_and] at e; exact e, hcj.trans ?_⟩
                          repeat (first | exact Ch.refl _ | refine Ch.drew ?_ | refine Ch.alloc ?_ _ | refine Ch.trans ?_ (by assumption))
                        case measure => simp [intOf]; omega
                  · obtain rfl : j = l1 := by omega
                    rw [eqL_end eqO (by rw [HX1.out]; exact Nat.le_refl _) (by rw [HX3.out, HA7.out]; exact Nat.le_refl _), Bool.true_and] at hd
                    have HR1 : Hid ((eqL eqH x.hs y.hs && RR) = r) := hd
                    clear hd
                    go_wp2
                    go_loopw [10] (fun i wr => ∃ j : Nat, j ≤ l2 ∧ i = .int .i64 j ∧ (eqL eqH (x.hs.drop j) (y.hs.drop j) && RR) = r ∧ Ch W wr) (fun i _ => l2 - (intOf i).toNat)
                    case atStart => exact ⟨0, Nat.zero_le _, rfl, by simpa using HR1.out, hcj⟩
                    case round =>
                      clear m0 m1 m2 m3 m4 m5 m6 m7 n0 n1 n2 n3 n4 n5 n6 n7 HR1 hcj hltj hj
                      obtain ⟨j, hj, rfl, hd, hcj⟩ := hrel
                      obtain ⟨m0, m1, m2, m3, m4, m5, m6, m7⟩ := HB7.out _ hcj
                      obtain ⟨n0, n1, n2, n3, n4, n5, n6, n7⟩ := HB8.out _ hcj
                      have hwj := hcW.trans (hcv1.trans hcj)
                      by_cases hltj : j < l2
                      · have hltj2 : j < l4 := by rw [← HA8.out]; exact hltj
                        obtain ⟨x2, hxk⟩ : ∃ z, x.hs[j]? = some z := ⟨_, List.getElem?_eq_getElem (by rw [HX2.out]; exact hltj)⟩
                        obtain ⟨y2, hyk⟩ : ∃ z, y.hs[j]? = some z := ⟨_, List.getElem?_eq_getElem (by rw [HX4.out]; exact hltj2)⟩
                        obtain ⟨e1, f1, hao, d0, d1, d2, d3⟩ := (HS2.out.keepH hwj).atH hxk
                        obtain ⟨e2, f2, hao2, b0, b1, b2', b3⟩ := (HS4.out.keepH hwj).atH hyk
                        rw [eqL_step eqH hxk hyk] at hd
                        subst hao hao2
                        have hne := fun W => neqH x2 y2 W
                        unfold hndV at hne
                        obtain ⟨q, hq⟩ : ∃ q, eqH x2 y2 = q := ⟨_, rfl⟩
                        rw [hq] at hne
                        have HD : Hid (((eqH x2 y2 && eqL eqH (x.hs.drop (j + 1)) (y.hs.drop (j + 1))) && RR) = r) := hd
                        have HQ : Hid (eqH x2 y2 = q) := hq
                        clear hd hxk hyk hq ham hbm
                        cases q
                        · go_wp2_with fail
                          go_quiet (fail)
                          go_wp2
                          go_ret
                          have e := HD.out
                          rw [HQ.out] at e
                          exact ⟨congrArg (fun b => Ending.returned (.bool b)) (by simpa using e), hwj.drewN _⟩
                        · go_wp2_with fail
                          go_quiet (fail)
                          go_wp2
                          go_roundw
                          case rel => exact ⟨j + 1, by omega, by go_num, by have e := HD.out; rw [HQ.out, Bool.true_and] at e; exact e, hcj.drewN _⟩
                          case measure => simp [intOf]; omega
                      · obtain rfl : j = l2 := by omega
                        rw [eqL_end eqH (by rw [HX2.out]; exact Nat.le_refl _) (by rw [HX4.out, HA8.out]; exact Nat.le_refl _), Bool.true_and] at hd
                        subst hd
                        go_wp2
                        go_roundw
                        case rel => exact ⟨k + 1, by omega, by go_num, HRR.out, hcv1.trans hcj⟩
                        case measure => simp [intOf]; omega
            · have hcv : Ch wr (((wr.alloc (.cells #[.string y.n, .string y.d, .bool y.st, .bool y.ab, .int .i64 y.sk, .int .i64 y.lo, .slice p3 l3 o3, .slice p4 l4 o4] 66)).alloc (.cells #[.string x.n, .string x.d, .bool x.st, .bool x.ab, .int .i64 x.sk, .int .i64 x.lo, .slice p1 l1 o1, .slice p2 l2 o2] 66)).drew) := (((Ch.refl wr).alloc _).alloc _).drew
              have h8 : (((wr.alloc (.cells #[.string y.n, .string y.d, .bool y.st, .bool y.ab, .int .i64 y.sk, .int .i64 y.lo, .slice p3 l3 o3, .slice p4 l4 o4] 66)).alloc (.cells #[.string x.n, .string x.d, .bool x.st, .bool x.ab, .int .i64 x.sk, .int .i64 x.lo, .slice p1 l1 o1, .slice p2 l2 o2] 66)).drew).heap[wr.heap.size]? = some (.cells #[.string y.n, .string y.d, .bool y.st, .bool y.ab, .int .i64 y.sk, .int .i64 y.lo, .slice p3 l3 o3, .slice p4 l4 o4] 66) := heap_alloc2_old wr _ _
              have h7 : (((wr.alloc (.cells #[.string y.n, .string y.d, .bool y.st, .bool y.ab, .int .i64 y.sk, .int .i64 y.lo, .slice p3 l3 o3, .slice p4 l4 o4] 66)).alloc (.cells #[.string x.n, .string x.d, .bool x.st, .bool x.ab, .int .i64 x.sk, .int .i64 x.lo, .slice p1 l1 o1, .slice p2 l2 o2] 66)).drew).heap[wr.heap.size + 1]? = some (.cells #[.string x.n, .string x.d, .bool x.st, .bool x.ab, .int .i64 x.sk, .int .i64 x.lo, .slice p1 l1 o1, .slice p2 l2 o2] 66) := heap_alloc2_new wr _ _
              have hcv1 := hcr.trans hcv
              clear hcv HT g5 g6 k5 k6 hcr hww
              generalize ((wr.alloc (.cells #[.string y.n, .string y.d, .bool y.st, .bool y.ab, .int .i64 y.sk, .int .i64 y.lo, .slice p3 l3 o3, .slice p4 l4 o4] 66)).alloc (.cells #[.string x.n, .string x.d, .bool x.st, .bool x.ab, .int .i64 x.sk, .int .i64 x.lo, .slice p1 l1 o1, .slice p2 l2 o2] 66)).drew = W at *
              generalize wr.heap.size + 1 = G7 at *
              generalize wr.heap.size = G8 at *

              have h7' : W.heap[G7]? = some (.cells (mthC x (.slice p1 l1 o1) (.slice p2 l2 o2)) 66) := h7
              have h8' : W.heap[G8]? = some (.cells (mthC y (.slice p3 l3 o3) (.slice p4 l4 o4)) 66) := h8
              have HB7 : Hid (∀ w', Ch W w' → _) := fun w' k => mthC_at (kept_at k h7')
              have HB8 : Hid (∀ w', Ch W w' → _) := fun w' k => mthC_at (kept_at k h8')
              obtain ⟨m0, m1, m2, m3, m4, m5, m6, m7⟩ := HB7.out _ (Ch.refl W)
              obtain ⟨n0, n1, n2, n3, n4, n5, n6, n7⟩ := HB8.out _ (Ch.refl W)
              clear h7 h8 h7' h8'
              obtain ⟨q1, e1⟩ : ∃ q, (x.n.toList == y.n.toList) = q := ⟨_, rfl⟩
              obtain ⟨q2, e2⟩ : ∃ q, (x.d.toList == y.d.toList) = q := ⟨_, rfl⟩
              obtain ⟨q3, e3⟩ : ∃ q, (x.st == y.st) = q := ⟨_, rfl⟩
              obtain ⟨q4, e4⟩ : ∃ q, (x.ab == y.ab) = q := ⟨_, rfl⟩
              obtain ⟨q5, e5⟩ : ∃ q, (x.sk == y.sk) = q := ⟨_, rfl⟩
              obtain ⟨q6, e6⟩ : ∃ q, (x.lo == y.lo) = q := ⟨_, rfl⟩
              obtain ⟨q7, e7⟩ : ∃ q, ((l1 : Int) == (l3 : Int)) = q := ⟨_, rfl⟩
              obtain ⟨q8, e8⟩ : ∃ q, ((l2 : Int) == (l4 : Int)) = q := ⟨_, rfl⟩
              rw [e1, e2, e3, e4, e5, e6, e7, e8] at HD2
              have HL7 : Hid (((l1 : Int) == (l3 : Int)) = q7) := e7
              have HL8 : Hid (((l2 : Int) == (l4 : Int)) = q8) := e8
              have s7 : ((l1 : Int) != (l3 : Int)) = !q7 := by rw [bne, e7]
              have s8 : ((l2 : Int) != (l4 : Int)) = !q8 := by rw [bne, e8]
              have s5 : (x.sk != y.sk) = !q5 := by rw [bne, e5]
              have s6 : (x.lo != y.lo) = !q6 := by rw [bne, e6]
              clear e7 e8 e5 e6
              by_cases hall : (!q1 || (!q2 || (!q3 || (!q4 || (!q5 || (!q6 || (!q7 || !q8))))))) = true
              · have hr1 := HD2.out
                rw [if_pos hall] at hr1
                subst hr1
                clear HD2 HS1 HS2 HS3 HS4 HL7 HL8 HB7 HB8 ham hbm
                have hq : (q1 = false) ∨ (q1 = true ∧ q2 = false) ∨ (q1 = true ∧ q2 = true ∧ q3 = false) ∨ (q1 = true ∧ q2 = true ∧ q3 = true ∧ q4 = false) ∨ (q1 = true ∧ q2 = true ∧ q3 = true ∧ q4 = true ∧ q5 = false) ∨ (q1 = true ∧ q2 = true ∧ q3 = true ∧ q4 = true ∧ q5 = true ∧ q6 = false) ∨ (q1 = true ∧ q2 = true ∧ q3 = true ∧ q4 = true ∧ q5 = true ∧ q6 = true ∧ q7 = false) ∨ (q1 = true ∧ q2 = true ∧ q3 = true ∧ q4 = true ∧ q5 = true ∧ q6 = true ∧ q7 = true ∧ q8 = false) := by
                  revert hall
                  cases q1 <;> cases q2 <;> cases q3 <;> cases q4 <;> cases q5 <;> cases q6 <;> cases q7 <;> cases q8 <;> simp
                clear hall
                rcases hq with rfl | ⟨rfl, rfl⟩ | ⟨rfl, rfl, rfl⟩ | ⟨rfl, rfl, rfl, rfl⟩ | ⟨rfl, rfl, rfl, rfl, rfl⟩ | ⟨rfl, rfl, rfl, rfl, rfl, rfl⟩ | ⟨rfl, rfl, rfl, rfl, rfl, rfl, rfl⟩ | ⟨rfl, rfl, rfl, rfl, rfl, rfl, rfl, rfl⟩
                all_goals
                  try (simp only [Bool.not_true, Bool.not_false] at s5 s6 s7 s8)
                  go_wp2
                  go_ret
                  exact ⟨rfl, hcW.trans hcv1⟩
              · have hr1 := HD2.out
                rw [if_neg hall] at hr1
                have hq : q1 = true ∧ q2 = true ∧ q3 = true ∧ q4 = true ∧ q5 = true ∧ q6 = true ∧ q7 = true ∧ q8 = true := by
                  simp at hall
                  simp [hall]
                obtain ⟨rfl, rfl, rfl, rfl, rfl, rfl, rfl, rfl⟩ := hq
                have HA7 : Hid (l1 = l3) := by have := HL7.out; show _ = _; simp at this; omega
                have HA8 : Hid (l2 = l4) := by have := HL8.out; show _ = _; simp at this; omega
                obtain ⟨RR, hRR⟩ : ∃ R, eqL eqM (a.me.drop (k + 1)) (b.me.drop (k + 1)) = R := ⟨_, rfl⟩
                rw [hRR] at hr1
                have HRR : Hid (eqL eqM (a.me.drop (k + 1)) (b.me.drop (k + 1)) = RR) := hRR
                have HR1 : Hid ((eqL eqO x.code y.code && (eqL eqH x.hs y.hs && RR)) = r) := hr1
                have HX1 : Hid (x.code.length = l1) := hl1
                have HX2 : Hid (x.hs.length = l2) := hl2
                have HX3 : Hid (y.code.length = l3) := hl3
                have HX4 : Hid (y.hs.length = l4) := hl4
                clear hall hr1 HL7 HL8 HD2 hRR hl1 hl2 hl3 hl4
                simp only [Bool.not_true] at s5 s6 s7 s8
                go_wp2
                go_loopw [9] (fun i wr => ∃ j : Nat, j ≤ l1 ∧ i = .int .i64 j ∧ (eqL eqO (x.code.drop j) (y.code.drop j) && (eqL eqH x.hs y.hs && RR)) = r ∧ Ch W wr) (fun i _ => l1 - (intOf i).toNat)
                case atStart => exact ⟨0, Nat.zero_le _, rfl, by simpa using HR1.out, Ch.refl _⟩
                case round =>
                  clear m0 m1 m2 m3 m4 m5 m6 m7 n0 n1 n2 n3 n4 n5 n6 n7 e1 e2 e3 e4 s5 s6 HR1
                  obtain ⟨j, hj, rfl, hd, hcj⟩ := hrel
                  obtain ⟨m0, m1, m2, m3, m4, m5, m6, m7⟩ := HB7.out _ hcj
                  obtain ⟨n0, n1, n2, n3, n4, n5, n6, n7⟩ := HB8.out _ hcj
                  by_cases hltj : j < l1
                  · have hltj2 : j < l3 := by rw [← HA7.out]; exact hltj
                    obtain ⟨x2, hxk⟩ : ∃ z, x.code[j]? = some z := ⟨_, List.getElem?_eq_getElem (by rw [HX1.out]; exact hltj)⟩
                    obtain ⟨y2, hyk⟩ : ∃ z, y.code[j]? = some z := ⟨_, List.getElem?_eq_getElem (by rw [HX3.out]; exact hltj2)⟩
                    have hwj := hcW.trans (hcv1.trans hcj)
                    obtain ⟨e1, f1, hao, d0, d1, d2, d3, d4, d5⟩ := (HS1.out.keepI hwj).atI hxk
                    obtain ⟨e2, f2, hao2, b0, b1, b2', b3, b4, b5⟩ := (HS3.out.keepI hwj).atI hyk
                    rw [eqL_step eqO hxk hyk] at hd
                    subst hao hao2
                    have HT : Hid (∀ w', Ch wr w' → w'.cell? ⟨G7, 6, none⟩ = some (.slice (some ⟨e1, f1, none⟩) l1 o1) ∧ w'.cell? ⟨G8, 6, none⟩ = some (.slice (some ⟨e2, f2, none⟩) l3 o3) ∧ w'.cell? ⟨e1, f1 + j * 6, none⟩ = some (.int .i64 x2.op) ∧ w'.cell? ⟨e1, f1 + j * 6 + 1, none⟩ = some (.int .i64 x2.a) ∧ w'.cell? ⟨e1, f1 + j * 6 + 2, none⟩ = some (.int .i64 x2.b) ∧ w'.cell? ⟨e1, f1 + j * 6 + 3, none⟩ = some (.string x2.c) ∧ w'.cell? ⟨e1, f1 + j * 6 + 4, none⟩ = some (.string x2.n) ∧ w'.cell? ⟨e1, f1 + j * 6 + 5, none⟩ = some (.string x2.d) ∧ w'.cell? ⟨e2, f2 + j * 6, none⟩ = some (.int .i64 y2.op) ∧ w'.cell? ⟨e2, f2 + j * 6 + 1, none⟩ = some (.int .i64 y2.a) ∧ w'.cell? ⟨e2, f2 + j * 6 + 2, none⟩ = some (.int .i64 y2.b) ∧ w'.cell? ⟨e2, f2 + j * 6 + 3, none⟩ = some (.string y2.c) ∧ w'.cell? ⟨e2, f2 + j * 6 + 4, none⟩ = some (.string y2.n) ∧ w'.cell? ⟨e2, f2 + j * 6 + 5, none⟩ = some (.string y2.d)) := fun w' hw => ⟨cell_keep hw m6, cell_keep hw n6, cell_keep hw d0, cell_keep hw d1, cell_keep hw d2, cell_keep hw d3, cell_keep hw d4, cell_keep hw d5, cell_keep hw b0, cell_keep hw b1, cell_keep hw b2', cell_keep hw b3, cell_keep hw b4, cell_keep hw b5⟩
                    have hp1 := fun w0 => pure_any x2 w0
                    have hp2 := fun w0 => pure_any y2 w0
                    have hne := fun W => neqI (own x2) (own y2) W
                    obtain ⟨q, hq⟩ : ∃ q, eqI (own x2) (own y2) = q := ⟨_, rfl⟩
                    rw [hq] at hne
                    have HD : Hid (((eqO x2 y2 && eqL eqO (x.code.drop (j + 1)) (y.code.drop (j + 1))) && (eqL eqH x.hs y.hs && RR)) = r) := hd
                    have HQ : Hid (eqO x2 y2 = q) := hq
                    clear hd hxk hyk hq d0 d1 d2 d3 d4 d5 b0 b1 b2' b3 b4 b5 ham hbm
                    generalize own x2 = X2 at *
                    generalize own y2 = Y2 at *
                    unfold Ins.v at hp1 hp2 hne
                    cases q
                    · go_wp2_with fail
                      go_region_held (fun w' => w'.cell? ⟨G7, 6, none⟩ = some (.slice (some ⟨e1, f1, none⟩) l1 o1) ∧ w'.cell? ⟨G8, 6, none⟩ = some (.slice (some ⟨e2, f2, none⟩) l3 o3) ∧ w'.cell? ⟨e1, f1 + j * 6, none⟩ = some (.int .i64 x2.op) ∧ w'.cell? ⟨e1, f1 + j * 6 + 1, none⟩ = some (.int .i64 x2.a) ∧ w'.cell? ⟨e1, f1 + j * 6 + 2, none⟩ = some (.int .i64 x2.b) ∧ w'.cell? ⟨e1, f1 + j * 6 + 3, none⟩ = some (.string x2.c) ∧ w'.cell? ⟨e1, f1 + j * 6 + 4, none⟩ = some (.string x2.n) ∧ w'.cell? ⟨e1, f1 + j * 6 + 5, none⟩ = some (.string x2.d) ∧ w'.cell? ⟨e2, f2 + j * 6, none⟩ = some (.int .i64 y2.op) ∧ w'.cell? ⟨e2, f2 + j * 6 + 1, none⟩ = some (.int .i64 y2.a) ∧ w'.cell? ⟨e2, f2 + j * 6 + 2, none⟩ = some (.int .i64 y2.b) ∧ w'.cell? ⟨e2, f2 + j * 6 + 3, none⟩ = some (.string y2.c) ∧ w'.cell? ⟨e2, f2 + j * 6 + 4, none⟩ = some (.string y2.n) ∧ w'.cell? ⟨e2, f2 + j * 6 + 5, none⟩ = some (.string y2.d)) ((refine HT.out _ ?_; repeat (first | exact Ch.refl _ | refine Ch.drew ?_ | refine Ch.alloc ?_ _ | refine Ch.trans ?_ (by assumption)))) (first
                        | (go_at_call 95; (with_reducible refine (hp1 _).mono ?_); rintro e w5 ⟨rfl, hc5⟩)
                        | (go_at_call 95; (with_reducible refine (hp2 _).mono ?_); rintro e w6 ⟨rfl, hc6⟩))
                      all_goals
                        go_wp2
                        go_ret
                        have e := HD.out
                        rw [HQ.out] at e
                        refine ⟨congrArg (fun b => Ending.returned (.bool b)) (by simpa using e), hwj.trans ?_⟩
                        repeat (first | exact Ch.refl _ | refine Ch.drew ?_ | refine Ch.alloc ?_ _ | refine Ch.trans ?_ (by assumption))
                    · go_wp2_with fail
                      go_region_held (fun w' => w'.cell? ⟨G7, 6, none⟩ = some (.slice (some ⟨e1, f1, none⟩) l1 o1) ∧ w'.cell? ⟨G8, 6, none⟩ = some (.slice (some ⟨e2, f2, none⟩) l3 o3) ∧ w'.cell? ⟨e1, f1 + j * 6, none⟩ = some (.int .i64 x2.op) ∧ w'.cell? ⟨e1, f1 + j * 6 + 1, none⟩ = some (.int .i64 x2.a) ∧ w'.cell? ⟨e1, f1 + j * 6 + 2, none⟩ = some (.int .i64 x2.b) ∧ w'.cell? ⟨e1, f1 + j * 6 + 3, none⟩ = some (.string x2.c) ∧ w'.cell? ⟨e1, f1 + j * 6 + 4, none⟩ = some (.string x2.n) ∧ w'.cell? ⟨e1, f1 + j * 6 + 5, none⟩ = some (.string x2.d) ∧ w'.cell? ⟨e2, f2 + j * 6, none⟩ = some (.int .i64 y2.op) ∧ w'.cell? ⟨e2, f2 + j * 6 + 1, none⟩ = some (.int .i64 y2.a) ∧ w'.cell? ⟨e2, f2 + j * 6 + 2, none⟩ = some (.int .i64 y2.b) ∧ w'.cell? ⟨e2, f2 + j * 6 + 3, none⟩ = some (.string y2.c) ∧ w'.cell? ⟨e2, f2 + j * 6 + 4, none⟩ = some (.string y2.n) ∧ w'.cell? ⟨e2, f2 + j * 6 + 5, none⟩ = some (.string y2.d)) ((refine HT.out _ ?_; repeat (first | exact Ch.refl _ | refine Ch.drew ?_ | refine Ch.alloc ?_ _ | refine Ch.trans ?_ (by assumption)))) (first
                        | (go_at_call 95; (with_reducible refine (hp1 _).mono ?_); rintro e w5 ⟨rfl, hc5⟩)
                        | (go_at_call 95; (with_reducible refine (hp2 _).mono ?_); rintro e w6 ⟨rfl, hc6⟩))
                      all_goals
                        go_wp2
                        go_roundw
                        case rel =>
                          refine ⟨j + 1, by omega, by go_num, by have e := HD.out; rw [HQ.out, Bool.true_and] at e; exact e, hcj.trans ?_⟩
                          repeat (first | exact Ch.refl _ | refine Ch.drew ?_ | refine Ch.alloc ?_ _ | refine Ch.trans ?_ (by assumption))
                        case measure => simp [intOf]; omega
                  · obtain rfl : j = l1 := by omega
                    rw [eqL_end eqO (by rw [HX1.out]; exact Nat.le_refl _) (by rw [HX3.out, HA7.out]; exact Nat.le_refl _), Bool.true_and] at hd
                    have HR1 : Hid ((eqL eqH x.hs y.hs && RR) = r) := hd
                    clear hd
                    go_wp2
                    go_loopw [10] (fun i wr => ∃ j : Nat, j ≤ l2 ∧ i = .int .i64 j ∧ (eqL eqH (x.hs.drop j) (y.hs.drop j) && RR) = r ∧ Ch W wr) (fun i _ => l2 - (intOf i).toNat)
                    case atStart => exact ⟨0, Nat.zero_le _, rfl, by simpa using HR1.out, hcj⟩
                    case round =>
                      clear m0 m1 m2 m3 m4 m5 m6 m7 n0 n1 n2 n3 n4 n5 n6 n7 HR1 hcj hltj hj
                      obtain ⟨j, hj, rfl, hd, hcj⟩ := hrel
                      obtain ⟨m0, m1, m2, m3, m4, m5, m6, m7⟩ := HB7.out _ hcj
                      obtain ⟨n0, n1, n2, n3, n4, n5, n6, n7⟩ := HB8.out _ hcj
                      have hwj := hcW.trans (hcv1.trans hcj)
                      by_cases hltj : j < l2
                      · have hltj2 : j < l4 := by rw [← HA8.out]; exact hltj
                        obtain ⟨x2, hxk⟩ : ∃ z, x.hs[j]? = some z := ⟨_, List.getElem?_eq_getElem (by rw [HX2.out]; exact hltj)⟩
                        obtain ⟨y2, hyk⟩ : ∃ z, y.hs[j]? = some z := ⟨_, List.getElem?_eq_getElem (by rw [HX4.out]; exact hltj2)⟩
                        obtain ⟨e1, f1, hao, d0, d1, d2, d3⟩ := (HS2.out.keepH hwj).atH hxk
                        obtain ⟨e2, f2, hao2, b0, b1, b2', b3⟩ := (HS4.out.keepH hwj).atH hyk
                        rw [eqL_step eqH hxk hyk] at hd
                        subst hao hao2
                        have hne := fun W => neqH x2 y2 W
                        unfold hndV at hne
                        obtain ⟨q, hq⟩ : ∃ q, eqH x2 y2 = q := ⟨_, rfl⟩
                        rw [hq] at hne
                        have HD : Hid (((eqH x2 y2 && eqL eqH (x.hs.drop (j + 1)) (y.hs.drop (j + 1))) && RR) = r) := hd
                        have HQ : Hid (eqH x2 y2 = q) := hq
                        clear hd hxk hyk hq ham hbm
                        cases q
                        · go_wp2_with fail
                          go_quiet (fail)
                          go_wp2
                          go_ret
                          have e := HD.out
                          rw [HQ.out] at e
                          exact ⟨congrArg (fun b => Ending.returned (.bool b)) (by simpa using e), hwj.drewN _⟩
                        · go_wp2_with fail
                          go_quiet (fail)
                          go_wp2
                          go_roundw
                          case rel => exact ⟨j + 1, by omega, by go_num, by have e := HD.out; rw [HQ.out, Bool.true_and] at e; exact e, hcj.drewN _⟩
                          case measure => simp [intOf]; omega
                      · obtain rfl : j = l2 := by omega
                        rw [eqL_end eqH (by rw [HX2.out]; exact Nat.le_refl _) (by rw [HX4.out, HA8.out]; exact Nat.le_refl _), Bool.true_and] at hd
                        subst hd
                        go_wp2
                        go_roundw
                        case rel => exact ⟨k + 1, by omega, by go_num, HRR.out, hcv1.trans hcj⟩
                        case measure => simp [intOf]; omega
          · obtain rfl : k = a.me.length := by omega
            rw [eqL_end eqM (Nat.le_refl _) (by rw [HE7.out]; exact Nat.le_refl _)] at hd
            subst hd
            go_wp2
            go_ret
            exact ⟨rfl, hcW.trans hcr⟩
end Go.Proofs.YthmepecmeambmaaGreat
