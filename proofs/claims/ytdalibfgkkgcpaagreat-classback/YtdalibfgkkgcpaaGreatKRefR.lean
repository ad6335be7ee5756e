/- The document's own check of a class is the program's. -/
import Derived.Test.YtdalibfgkkgcpaaGreatKRefM
import Derived.Test.YtdalibfgkkgcpaaGreatKRefN
import Derived.Test.YtdalibfgkkgcpaaGreatKRefO
import Derived.Test.YtdalibfgkkgcpaaGreatKRefQ
import Derived.Test.YtdalibfgkkgcpaaGreatKChkF
namespace Go.Proofs.YtdalibfgkkgcpaaGreat
open Go.RowKit
set_option linter.unusedVariables false

theorem nm_yes (mn cl ii st ab dq rq : Bool) (h1 : cl = true → mn = true) (h2 : ii = true → mn = true) (h3 : ¬ (cl = true ∧ ii = true)) (h : (if cl then st && dq else if ii then !st && (!ab && rq) else mn) = true) : YesNm mn false cl ii st ab (!dq) (!rq) dq rq := by
  cases mn <;> cases cl <;> cases ii <;> cases st <;> cases ab <;> cases dq <;> cases rq <;> simp_all [YesNm]
theorem nm_no (mn cl ii st ab dq rq : Bool) (h1 : cl = true → mn = true) (h2 : ii = true → mn = true) (h3 : ¬ (cl = true ∧ ii = true)) (h : (if cl then st && dq else if ii then !st && (!ab && rq) else mn) = false) : NoNm mn false cl ii st ab (!dq) (!rq) dq rq := by
  cases mn <;> cases cl <;> cases ii <;> cases st <;> cases ab <;> cases dq <;> cases rq <;> simp_all [NoNm]
theorem nm_none (mn cl ii st ab dn rn dq rq : Bool) : NoNm mn true cl ii st ab dn rn dq rq := by
  cases mn <;> simp [NoNm]
theorem abs_of {mn cl ii st ab dn rn dq rq : Bool} (h : YesNm mn false cl ii st ab dn rn dq rq) (ha : ab = true) : (st = true → AbsQ mn false cl ii st ab dn rn dq rq) ∧ (st = false → AbsP mn false cl ii st ab dn rn dq rq) := by
  subst ha
  cases mn <;> cases cl <;> cases ii <;> cases st <;> cases dn <;> cases dq <;> simp_all [YesNm, AbsQ, AbsP]
theorem do_of {mn cl ii st ab dn rn dq rq : Bool} (h : YesNm mn false cl ii st ab dn rn dq rq) (ha : ab = false) : DoQ mn false cl ii st ab dn rn dq rq := by
  subst ha
  cases mn <;> cases cl <;> cases ii <;> cases st <;> cases dn <;> cases dq <;> simp_all [YesNm, DoQ]
theorem wi_no (x1 x2 x3 x4 x5 x6 : Bool) (h : (!x1 && (!x2 && (!x3 && (!x4 && (!x5 && !x6))))) = false) : NoWi x1 x2 x3 x4 x5 x6 := by
  cases x1 <;> cases x2 <;> cases x3 <;> cases x4 <;> cases x5 <;> cases x6 <;> simp_all [NoWi]

theorem witM_eq (m : Mth) : witM m = (!decide (m.sk < 0) && (!decide (20 < m.sk) && (!decide (m.lo < 0) && (!decide (20 < m.lo) && (!decide ((200 : Int) < (m.code.length : Int)) && !decide ((20 : Int) < (m.hs.length : Int))))))) := by
  rw [Bool.eq_iff_iff]
  simp [witM]
theorem clin_ne : ∀ s : ByteArray, ¬ ((s.toList == [60, 99, 108, 105, 110, 105, 116, 62]) = true ∧ (s.toList == [60, 105, 110, 105, 116, 62]) = true) := fun s ⟨h1, h2⟩ => by
  rw [beq_iff_eq] at h1 h2
  rw [h1] at h2
  simp at h2

theorem refMth_any (m : Mth) (vc vh : Value) (w : World) (hM : MFine m) (h1 : Sl 6 RI w vc m.code) (h2 : Sl 4 RH w vh m.hs) :
    Calls Tryz.prog 43 #[.agg #[.string m.n, .string m.d, .bool m.st, .bool m.ab, .int .i64 m.sk, .int .i64 m.lo, vc, vh]] w fun e w' => e = .returned (.int .i64 (mthE m)) ∧ Ch w w' := by
  obtain ⟨ac, cc, rfl, _, _⟩ := h1.form
  obtain ⟨ah, ch, rfl, _, _⟩ := h2.form
  have hmn := fun w0 => refMname_any m.n w0 hM.n
  have hme := fun w0 => refMethod_any m.d w0 (Nat.le_trans hM.d (by omega))
  have hmm : isMName (bl m.n) = mNm m.n := by unfold isMName mNm initL clinitL; rw [bl_toList]
  unfold mthE
  cases hq : meth (bl m.d) with
  | none =>
    rw [hq] at hme
    exact refMth_no m.n m.d ⟨#[]⟩ m.st m.ab m.sk m.lo 6 0 m.code.length m.hs.length ac ah cc ch w _ true _ _ _ _ _ _ (fun w0 => (hme w0).mono (fun e w' h => by
      obtain ⟨hc, ⟨_, rfl⟩ | ⟨p, v, hp, _⟩⟩ := h
      · exact ⟨⟨none, 0, rfl⟩, hc⟩
      · cases hp)) hmn rfl rfl rfl rfl rfl rfl rfl (nm_none _ _ _ _ _ _ _ _ _)
  | some p =>
    rw [hq] at hme
    have hm : ∀ w0, Calls Tryz.prog 79 #[.string m.d] w0 fun e w' => (∃ pa pc, e = .returned (.tuple #[.slice pa p.1.length pc, .string (ms p.2), .int .i64 0])) ∧ Ch w0 w' := fun w0 => (hme w0).mono (fun e w' h => by
      obtain ⟨hc, ⟨hn, _⟩ | ⟨p', v, hp, rfl, ho⟩⟩ := h
      · cases hn
      · cases hp
        obtain ⟨pa, pc, rfl⟩ := own_form ho
        exact ⟨⟨pa, pc, rfl⟩, hc⟩)
    have hnp : p.1.length ≤ 100 := by
      unfold meth at hq
      split at hq
      · have := pars_len _ _ _ hq; omega
      · cases hq
    have g1 : (m.n.toList == [60, 99, 108, 105, 110, 105, 116, 62]) = true → isMName (bl m.n) = true := fun h => by rw [hmm]; unfold mNm; rw [h]; simp
    have g2 : (m.n.toList == [60, 105, 110, 105, 116, 62]) = true → isMName (bl m.n) = true := fun h => by rw [hmm]; unfold mNm; rw [h]; simp
    have g3 := clin_ne m.n
    have hmay : mayN m (ms p.2) = if (m.n.toList == [60, 99, 108, 105, 110, 105, 116, 62]) then m.st && (m.d.toList == [40, 41, 86]) else if (m.n.toList == [60, 105, 110, 105, 116, 62]) then !m.st && (!m.ab && ((ms p.2).toList == [86])) else isMName (bl m.n) := by rw [hmm]; rfl
    show Calls _ _ _ _ fun e w' => e = .returned (.int .i64 (if !mayN m (ms p.2) then 6 else if !witM m then 5 else if m.ab && !barM m then 7 else if !m.ab && ((m.code.length : Int) == 0) then 7 else if m.ab then 0 else if m.lo < argM m p.1.length then 4 else codE m)) ∧ _
    cases hy : mayN m (ms p.2) with
    | false =>
      rw [hmay] at hy
      exact refMth_no m.n m.d (ms p.2) m.st m.ab m.sk m.lo 0 p.1.length m.code.length m.hs.length ac ah cc ch w _ false _ _ _ _ _ _ hm hmn rfl rfl rfl rfl rfl rfl rfl (nm_no _ _ _ _ _ _ _ g1 g2 g3 hy)
    | true =>
      rw [hmay] at hy
      have hY := nm_yes _ _ _ _ _ _ _ g1 g2 g3 hy
      rw [if_neg (by simp)]
      cases hw : witM m with
      | false =>
        rw [witM_eq] at hw
        exact refMth_wi m.n m.d (ms p.2) m.st m.ab m.sk m.lo 0 p.1.length m.code.length m.hs.length ac ah cc ch w _ false _ _ _ _ _ _ hm hmn rfl rfl rfl rfl rfl rfl rfl hY _ _ _ _ _ _ rfl rfl rfl rfl rfl rfl (wi_no _ _ _ _ _ _ hw)
      | true =>
        rw [witM_eq] at hw
        simp only [Bool.and_eq_true, Bool.not_eq_true'] at hw
        obtain ⟨w1, w2, w3, w4, w5, w6⟩ := hw
        rw [if_neg (by simp)]
        cases ha : m.ab with
        | true =>
          have hQ := abs_of hY ha
          rw [ha] at hQ
          cases hs : m.st with
          | true =>
            rw [hs] at hQ
            have hb : barM m = false := by unfold barM; rw [hs]; rfl
            rw [hb]
            exact refMth_abst m.n m.d (ms p.2) true true m.sk m.lo 0 p.1.length m.code.length m.hs.length ac ah cc ch w _ false _ _ _ _ _ _ hm hmn rfl rfl rfl rfl rfl rfl rfl (hQ.1 rfl) w1 w2 w3 w4 w5 w6
          | false =>
            rw [hs] at hQ
            refine refMth_abs m.n m.d (ms p.2) false true m.sk m.lo 0 p.1.length m.code.length m.hs.length ac ah cc ch w _ false _ _ _ _ _ _ hm hmn rfl rfl rfl rfl rfl rfl rfl (hQ.2 rfl) w1 w2 w3 w4 w5 w6 _ _ _ _ _ rfl rfl rfl rfl ?_
            unfold barM AbsY
            rw [hs]
            by_cases e1 : m.sk = 0
            · by_cases e2 : m.lo = 0
              · by_cases e3 : m.code.length = 0
                · by_cases e4 : m.hs.length = 0
                  · simp [e1, e2, e3, e4]
                  · have : 0 < m.hs.length := by omega
                    simp [e1, e2, e3, e4, this]
                · have : 0 < m.code.length := by omega
                  simp [e1, e2, e3, this]
              · simp [e1, e2]
            · simp [e1]
        | false =>
          have hQ := do_of hY ha
          rw [ha] at hQ
          rw [if_neg (by simp)]
          cases hz : ((m.code.length : Int) == 0) with
          | true => exact refMth_none m.n m.d (ms p.2) m.st false m.sk m.lo 0 p.1.length m.code.length m.hs.length ac ah cc ch w _ false _ _ _ _ _ _ hm hmn rfl rfl rfl rfl rfl rfl rfl hQ w1 w2 w3 w4 w5 w6 hz
          | false =>
            rw [if_neg (by simp), if_neg (by simp)]
            by_cases hl : m.lo < argM m p.1.length
            · rw [if_pos hl]
              exact refMth_args m.n m.d (ms p.2) m.st false m.sk m.lo 0 p.1.length m.code.length m.hs.length ac ah cc ch w _ false _ _ _ _ _ _ hm hmn rfl rfl rfl rfl rfl rfl rfl hQ w1 w2 w3 w4 w5 w6 hz hnp (decide_eq_true hl)
            · rw [if_neg hl]
              exact refMth_code m (ms p.2) 0 p.1.length ac ah cc ch w _ false _ _ _ _ _ _ m.st rfl hm hmn rfl rfl rfl rfl rfl rfl rfl false hQ w1 w2 w3 w4 w5 w6 hz hnp (decide_eq_false hl) h1 h2 hM

open Go.RowKit
set_option linter.unusedVariables false

theorem head_split (nn em en sn : Bool) (h : en = !em) : (nn = false) ∨ (nn = true ∧ em = false ∧ en = true ∧ sn = false) ∨ (nn = true ∧ em = true ∧ en = false) ∨ (nn = true ∧ em = false ∧ en = true ∧ sn = true) := by
  subst h
  cases nn <;> cases em <;> cases sn <;> simp
theorem lim_split (l1 l2 l3 : Bool) : (l1 = true) ∨ (l1 = false ∧ l2 = true) ∨ (l1 = false ∧ l2 = false ∧ l3 = true) ∨ (l1 = false ∧ l2 = false ∧ l3 = false) := by
  cases l1 <;> cases l2 <;> cases l3 <;> simp
theorem ret_eq {a x : Int} (h : a = x) : Ending.returned (.int .i64 a) = .returned (.int .i64 x) := by rw [h]

set_option maxRecDepth 100000 in
set_option maxHeartbeats 32000000 in
theorem refCls_any (c : Cls) (vi vf vm : Value) (w : World) (h : ClsAt w c vi vf vm) (hF : Fine c) :
    Calls Tryz.prog 12 #[.agg #[.string c.n, .string c.s, .bool c.it, .bool c.ab, vi, vf, vm]] w fun e w' => e = .returned (.int .i64 (chkE c)) ∧ Ch w w' := by
  have hcW : Ch w (w.alloc (.cells (clsC c vi vf vm) 26)) := (Ch.refl w).alloc _
  have HB : Hid (∀ w', Ch (w.alloc (.cells (clsC c vi vf vm) 26)) w' → _) := fun w' k => clsC_at (kept_at k (heap_alloc_new w (.cells (clsC c vi vf vm) 26)))
  have HK : Hid (∀ w0, Ch (w.alloc (.cells (clsC c vi vf vm) 26)) w0 → ClsAt w0 c vi vf vm) := fun w0 k => h.keep (hcW.trans k)
  have hpl : ∀ w0, Ch (w.alloc (.cells (clsC c vi vf vm) 26)) w0 → _ := fun w0 k => refPool_any c vi vf vm w0 (h.keep (hcW.trans k)) hF
  have HF : Hid (Fine c) := hF
  have hn1 := fun w0 => refName_any c.n w0 hF.n
  have hn2 := fun w0 => refName_any c.s w0 hF.s
  obtain ⟨x, hx⟩ : ∃ x, chkE c = x := ⟨_, rfl⟩
  rw [hx]
  unfold chkE hdE empOr at hx
  obtain ⟨em, hem⟩ : ∃ q, (c.s.toList == []) = q := ⟨_, rfl⟩
  obtain ⟨en, hen⟩ : ∃ q, (c.s.toList != []) = q := ⟨_, rfl⟩
  have hnot : en = !em := by rw [← hen, ← hem]; rfl
  rw [← bl_toList c.s, hem] at hx
  rw [bl_toList c.s] at hx
  generalize isName (bl c.n) = nn at *
  generalize isName (bl c.s) = sn at *
  obtain ⟨l1, v1⟩ : ∃ q, decide ((30 : Int) < c.im.length) = q := ⟨_, rfl⟩
  obtain ⟨l2, v2⟩ : ∃ q, decide ((20 : Int) < c.fs.length) = q := ⟨_, rfl⟩
  obtain ⟨l3, v3⟩ : ∃ q, decide ((20 : Int) < c.me.length) = q := ⟨_, rfl⟩
  rw [v1, v2, v3] at hx
  obtain ⟨r0, hr0⟩ : ∃ r, firstF nmE c.im = r := ⟨_, rfl⟩
  obtain ⟨r1, hr1⟩ : ∃ r, firstF fldE c.fs = r := ⟨_, rfl⟩
  obtain ⟨r2, hr2⟩ : ∃ r, firstF mthE c.me = r := ⟨_, rfl⟩
  rw [hr0, hr1, hr2] at hx
  unfold polE at hx
  have HX : Hid (_ = x) := hx
  have HR0 : Hid (firstF nmE c.im = r0) := hr0
  have HR1 : Hid (firstF fldE c.fs = r1) := hr1
  have HR2 : Hid (firstF mthE c.me = r2) := hr2
  clear hx hr0 hr1 hr2
  obtain ⟨a1, c1, rfl, _, _⟩ := h.1.form
  obtain ⟨a2, c2, rfl, hf1, hf2⟩ := h.2.1.form
  obtain ⟨a3, c3, rfl, hm1, hm2⟩ := h.2.2.form
  have hs4 := head_split nn em en sn hnot
  clear h hF hnot
  unfold clsC at *
  rcases hs4 with rfl | ⟨rfl, rfl, rfl, rfl⟩ | ⟨rfl, rfl, rfl⟩ | ⟨rfl, rfl, rfl, rfl⟩
  · go_enter Tryz.func12, Tryz.ntmps12
    go_wp2_with (first
      | (go_at_call 41; (with_reducible refine (hn1 _).mono ?_); rintro e w' ⟨rfl, hx⟩; have hx := hx.symm; subst hx))
    go_ret
    exact ⟨ret_eq (by rw [← HX.out]; simp [orL]), hcW⟩
  · go_enter Tryz.func12, Tryz.ntmps12
    go_wp2_with (first
      | (go_at_call 41; (with_reducible refine (hn1 _).mono ?_); rintro e w' ⟨rfl, hx⟩; have hx := hx.symm; subst hx)
      | (go_at_call 41; (with_reducible refine (hn2 _).mono ?_); rintro e w' ⟨rfl, hx⟩; have hx := hx.symm; subst hx))
    go_ret
    exact ⟨ret_eq (by rw [← HX.out]; simp [orL]), hcW⟩
  all_goals
    go_enter Tryz.func12, Tryz.ntmps12
    go_wp2_with (first
      | (go_at_call 41; (with_reducible refine (hn1 _).mono ?_); rintro e w' ⟨rfl, hx⟩; have hx := hx.symm; subst hx)
      | (go_at_call 41; (with_reducible refine (hn2 _).mono ?_); rintro e w' ⟨rfl, hx⟩; have hx := hx.symm; subst hx))
    clear hn1 hn2
    generalize w.alloc (.cells #[.string c.n, .string c.s, .bool c.it, .bool c.ab, .slice a1 c.im.length c1, .slice a2 c.fs.length c2, .slice a3 c.me.length c3] 26) = W at *
    go_loopw [3] (fun i wr => ∃ k : Nat, k ≤ c.im.length ∧ i = .int .i64 k ∧ firstF nmE (c.im.drop k) = r0 ∧ Ch W wr) (fun i _ => c.im.length - (intOf i).toNat)
    case atStart => exact ⟨0, Nat.zero_le _, rfl, by simpa using HR0.out, Ch.refl _⟩
    case round =>
      obtain ⟨k, hk, rfl, hd, hcr⟩ := hrel
      obtain ⟨z0, z1, z2, z3, z4, z5, z6⟩ := HB.out wr hcr
      by_cases hlt : k < c.im.length
      · obtain ⟨y, hy⟩ : ∃ a, c.im[k]? = some a := ⟨_, List.getElem?_eq_getElem hlt⟩
        obtain ⟨b, off, hao, d0⟩ := (HK.out wr hcr).1.atS hy
        have hnm := fun w0 => refName_any y w0 (HF.out.im y (List.mem_of_getElem? hy))
        rw [firstF_step _ hy, nmE] at hd
        generalize isName (bl y) = q at *
        have HD : Hid ((if (if q then (0 : Int) else 6) = 0 then firstF nmE (c.im.drop (k + 1)) else (if q then 0 else 6)) = r0) := hd
        clear hd hy
        subst hao
        cases q
        · go_wp2_with (first
            | (go_at_call 41; (with_reducible refine (hnm _).mono ?_); rintro e w' ⟨rfl, hx⟩; have hx := hx.symm; subst hx))
          go_ret
          have e := HD.out
          simp at e
          exact ⟨ret_eq (by rw [← HX.out, ← e]; simp [orL]), hcW.trans hcr⟩
        · go_wp2_with (first
            | (go_at_call 41; (with_reducible refine (hnm _).mono ?_); rintro e w' ⟨rfl, hx⟩; have hx := hx.symm; subst hx))
          go_roundw
          case rel => exact ⟨k + 1, by omega, by go_num, by have e := HD.out; simpa using e, hcr⟩
          case measure => simp [intOf]; omega
      · obtain rfl : k = c.im.length := by omega
        rw [firstF_end _ (Nat.le_refl _)] at hd
        subst hd
        rcases lim_split l1 l2 l3 with rfl | ⟨rfl, rfl⟩ | ⟨rfl, rfl, rfl⟩ | ⟨rfl, rfl, rfl⟩
        · go_wp2
          go_ret
          exact ⟨ret_eq (by rw [← HX.out]; simp [orL]), hcW.trans hcr⟩
        · go_wp2
          go_ret
          exact ⟨ret_eq (by rw [← HX.out]; simp [orL]), hcW.trans hcr⟩
        · go_wp2
          go_ret
          exact ⟨ret_eq (by rw [← HX.out]; simp [orL]), hcW.trans hcr⟩
        · have HX2 : Hid ((if r1 = 0 then (if r2 = 0 then (if (500 : Int) < ((poolL c).length : Int) then 5 else 0) else r2) else r1) = x) := by
            show _ = _
            rw [← HX.out]
            simp only [orL]
            simp
            split
            · split
              · split <;> simp_all
              · rfl
            · rfl
          clear hlt hk
          go_wp2
          clear z0 z1 z2 z3 z4 z5 z6
          go_loopw [4] (fun i wr => ∃ k : Nat, k ≤ c.fs.length ∧ i = .int .i64 k ∧ firstF fldE (c.fs.drop k) = r1 ∧ Ch W wr) (fun i _ => c.fs.length - (intOf i).toNat)
          case atStart => exact ⟨0, Nat.zero_le _, rfl, by simpa using HR1.out, hcr⟩
          case round =>
            clear hcr
            obtain ⟨k, hk, rfl, hd, hcr⟩ := hrel
            obtain ⟨z0, z1, z2, z3, z4, z5, z6⟩ := HB.out wr hcr
            by_cases hlt : k < c.fs.length
            · obtain ⟨y, hy⟩ : ∃ a, c.fs[k]? = some a := ⟨_, List.getElem?_eq_getElem hlt⟩
              obtain ⟨b, off, hao, d0, d1, d2⟩ := (HK.out wr hcr).2.1.atF hy
              have hfs := HF.out.fs y (List.mem_of_getElem? hy)
              have hnm := fun w0 => refName_any y.n w0 hfs.1
              have hty := fun w0 => refType_any y.d w0 hfs.2
              rw [firstF_step _ hy, fldE] at hd
              generalize isName (bl y.n) = q at *
              generalize isType (bl y.d) = q2 at *
              have HD : Hid ((if (if q && q2 then (0 : Int) else 6) = 0 then firstF fldE (c.fs.drop (k + 1)) else (if q && q2 then 0 else 6)) = r1) := hd
              clear hd hy hfs
              subst hao
              cases q
              · go_wp2_with (first
                  | (go_at_call 41; (with_reducible refine (hnm _).mono ?_); rintro e w' ⟨rfl, hx⟩; have hx := hx.symm; subst hx))
                go_ret
                have e := HD.out
                simp at e
                exact ⟨ret_eq (by rw [← HX2.out, ← e]; simp), hcW.trans hcr⟩
              · cases q2
                · go_wp2_with (first
                    | (go_at_call 41; (with_reducible refine (hnm _).mono ?_); rintro e w' ⟨rfl, hx⟩; have hx := hx.symm; subst hx)
                    | (go_at_call 42; (with_reducible refine (hty _).mono ?_); rintro e w' ⟨rfl, hx⟩; have hx := hx.symm; subst hx))
                  go_ret
                  have e := HD.out
                  simp at e
                  exact ⟨ret_eq (by rw [← HX2.out, ← e]; simp), hcW.trans hcr⟩
                · go_wp2_with (first
                    | (go_at_call 41; (with_reducible refine (hnm _).mono ?_); rintro e w' ⟨rfl, hx⟩; have hx := hx.symm; subst hx)
                    | (go_at_call 42; (with_reducible refine (hty _).mono ?_); rintro e w' ⟨rfl, hx⟩; have hx := hx.symm; subst hx))
                  go_roundw
                  case rel => exact ⟨k + 1, by omega, by go_num, by have e := HD.out; simpa using e, hcr⟩
                  case measure => simp [intOf]; omega
            · obtain rfl : k = c.fs.length := by omega
              rw [firstF_end _ (Nat.le_refl _)] at hd
              subst hd
              clear hlt hk
              go_wp2
              clear z0 z1 z2 z3 z4 z5 z6
              go_loopw [5] (fun i wr => ∃ k : Nat, k ≤ c.me.length ∧ i = .int .i64 k ∧ firstF mthE (c.me.drop k) = r2 ∧ Ch W wr) (fun i _ => c.me.length - (intOf i).toNat)
              case atStart => exact ⟨0, Nat.zero_le _, rfl, by simpa using HR2.out, hcr⟩
              case round =>
                clear hcr
                obtain ⟨k, hk, rfl, hd, hcr⟩ := hrel
                obtain ⟨z0, z1, z2, z3, z4, z5, z6⟩ := HB.out wr hcr
                by_cases hlt : k < c.me.length
                · obtain ⟨y, hy⟩ : ∃ a, c.me[k]? = some a := ⟨_, List.getElem?_eq_getElem hlt⟩
                  obtain ⟨b, off, vc, vh, hao, hsc, hsh, d0, d1, d2, d3, d4, d5, d6, d7⟩ := (HK.out wr hcr).2.2.atM hy
                  have hmf := HF.out.me y (List.mem_of_getElem? hy)
                  have hmt := refMth_any y vc vh wr hmf hsc hsh
                  rw [firstF_step _ hy] at hd
                  obtain ⟨q, hq⟩ : ∃ q, mthE y = q := ⟨_, rfl⟩
                  rw [hq] at hd hmt
                  have HD : Hid ((if q = 0 then firstF mthE (c.me.drop (k + 1)) else q) = r2) := hd
                  obtain ⟨ac, cc, rfl, _, _⟩ := hsc.form
                  obtain ⟨ah, chh, rfl, _, _⟩ := hsh.form
                  clear hd hy hmf hq hsc hsh
                  subst hao
                  by_cases hq0 : q = 0
                  · subst hq0
                    go_wp2_with (first
                      | (go_at_call 43; (with_reducible refine hmt.mono ?_); rintro e w4 ⟨rfl, hc4⟩))
                    go_roundw
                    case rel => exact ⟨k + 1, by omega, by go_num, by have e := HD.out; simpa using e, hcr.trans hc4⟩
                    case measure => simp [intOf]; omega
                  · have tq : (q != 0) = true := by simpa using hq0
                    have tq2 : (q == 0) = false := by simpa using hq0
                    have HQ0 : Hid (¬ q = 0) := hq0
                    clear hq0
                    go_wp2_with (first
                      | (go_at_call 43; (with_reducible refine hmt.mono ?_); rintro e w4 ⟨rfl, hc4⟩))
                    go_ret
                    have e := HD.out
                    rw [if_neg HQ0.out] at e
                    exact ⟨ret_eq (by rw [← HX2.out, ← e]; simp [HQ0.out]), hcW.trans (hcr.trans hc4)⟩
                · obtain rfl : k = c.me.length := by omega
                  rw [firstF_end _ (Nat.le_refl _)] at hd
                  subst hd
                  have hp := hpl wr hcr
                  clear hlt hk hpl
                  generalize poolL c = L at *
                  by_cases hl : (500 : Int) < (L.length : Int)
                  · go_wp2_with (first
                      | (go_at_call 15; (with_reducible refine hp.mono ?_); rintro e w4 ⟨v4, rfl, ho4, hc4⟩; obtain ⟨a4, c4, rfl⟩ := own_form ho4))
                    go_ret
                    exact ⟨ret_eq (by rw [← HX2.out]; simp [hl]), hcW.trans (hcr.trans hc4)⟩
                  · go_wp2_with (first
                      | (go_at_call 15; (with_reducible refine hp.mono ?_); rintro e w4 ⟨v4, rfl, ho4, hc4⟩; obtain ⟨a4, c4, rfl⟩ := own_form ho4))
                    go_ret
                    exact ⟨ret_eq (by rw [← HX2.out]; simp [hl]), hcW.trans (hcr.trans hc4)⟩
end Go.Proofs.YtdalibfgkkgcpaaGreat
