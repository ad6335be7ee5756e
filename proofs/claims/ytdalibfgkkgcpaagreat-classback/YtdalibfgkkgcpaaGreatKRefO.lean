/- The document's own check of a method: its code, its handlers. -/
import Derived.Test.YtdalibfgkkgcpaaGreatKRefM
import Derived.Test.YtdalibfgkkgcpaaGreatKChkC
namespace Go.Proofs.YtdalibfgkkgcpaaGreat
open Go.RowKit
set_option linter.unusedVariables false

theorem split8 (u1 u2 u3 u4 u5 em en nb : Bool) (h : en = !em) : (u1 = true) ∨ (u1 = false ∧ u2 = true) ∨ (u1 = false ∧ u2 = false ∧ u3 = true) ∨ (u1 = false ∧ u2 = false ∧ u3 = false ∧ u4 = true) ∨ (u1 = false ∧ u2 = false ∧ u3 = false ∧ u4 = false ∧ u5 = true) ∨
    (u1 = false ∧ u2 = false ∧ u3 = false ∧ u4 = false ∧ u5 = false ∧ em = true ∧ en = false) ∨ (u1 = false ∧ u2 = false ∧ u3 = false ∧ u4 = false ∧ u5 = false ∧ em = false ∧ en = true ∧ nb = true) ∨ (u1 = false ∧ u2 = false ∧ u3 = false ∧ u4 = false ∧ u5 = false ∧ em = false ∧ en = true ∧ nb = false) := by
  subst h
  cases u1 <;> cases u2 <;> cases u3 <;> cases u4 <;> cases u5 <;> cases em <;> cases nb <;> simp
set_option maxRecDepth 100000 in
set_option maxHeartbeats 32000000 in
theorem refMth_code (m : Mth) (r : ByteArray) (ec : Int) (np : Nat) (aco aho : Option Addr) (cco cho : Nat) (w : World) (mn bm cl ii dn rn dq rq : Bool) (st : Bool) (hst : m.st = st)
    (hm : ∀ w0, Calls Tryz.prog 79 #[.string m.d] w0 fun e w' => (∃ pa pc, e = .returned (.tuple #[.slice pa np pc, .string r, .int .i64 ec])) ∧ Ch w0 w')
    (hmn : ∀ w0, Calls Tryz.prog 80 #[.string m.n] w0 fun e w' => e = .returned (.bool mn) ∧ w' = w0)
    (hec : (ec != 0) = bm) (hcl : (m.n.toList == [60, 99, 108, 105, 110, 105, 116, 62]) = cl) (hii : (m.n.toList == [60, 105, 110, 105, 116, 62]) = ii) (hdn : (m.d.toList != [40, 41, 86]) = dn) (hrn : (r.toList != [86]) = rn) (hdq : (m.d.toList == [40, 41, 86]) = dq) (hrq : (r.toList == [86]) = rq)
    (ab : Bool) (hp : DoQ mn bm cl ii st ab dn rn dq rq) (h1 : decide (m.sk < 0) = false) (h2 : decide (20 < m.sk) = false) (h3 : decide (m.lo < 0) = false) (h4 : decide (20 < m.lo) = false) (h5 : decide ((200 : Int) < (m.code.length : Int)) = false) (h6 : decide ((20 : Int) < (m.hs.length : Int)) = false)
    (k3 : ((m.code.length : Int) == 0) = false) (hnp : np ≤ 100) (hlt : decide (m.lo < (if st then (np : Int) else (np : Int) + 1)) = false)
    (hsc : Sl 6 RI w (.slice aco m.code.length cco) m.code) (hsh : Sl 4 RH w (.slice aho m.hs.length cho) m.hs) (hM : MFine m) :
    Calls Tryz.prog 43 #[.agg #[.string m.n, .string m.d, .bool st, .bool ab, .int .i64 m.sk, .int .i64 m.lo, .slice aco m.code.length cco, .slice aho m.hs.length cho]] w fun e w' => e = .returned (.int .i64 (codE m)) ∧ Ch w w' := by
  obtain ⟨x, hx⟩ : ∃ x, x = codE m := ⟨_, rfl⟩
  rw [← hx]
  obtain ⟨r1, hr1⟩ : ∃ r, firstF (insE m.code.length m.lo) m.code = r := ⟨_, rfl⟩
  obtain ⟨r2, hr2⟩ : ∃ r, firstF (hndE m.code.length) m.hs = r := ⟨_, rfl⟩
  have HX : Hid (x = if r1 = 0 then r2 else r1) := by
    show _ = _
    rw [hx, codE, hr1, hr2]
    simp only [orL]
    split
    · split <;> simp_all
    · rfl
  have HR1 : Hid (firstF (insE m.code.length m.lo) m.code = r1) := hr1
  have HR2 : Hid (firstF (hndE m.code.length) m.hs = r2) := hr2
  have HM : Hid (MFine m) := hM
  have HSC : Hid (Sl 6 RI w (.slice aco m.code.length cco) m.code) := hsc
  have HSH : Hid (Sl 4 RH w (.slice aho m.hs.length cho) m.hs) := hsh
  have hcl2 : m.code.length ≤ 200 := by simp at h5; omega
  have hhl2 : m.hs.length ≤ 20 := by simp at h6; omega
  have HW : Hid (Ch w (w.alloc (.cells #[.string m.n, .string m.d, .bool st, .bool ab, .int .i64 m.sk, .int .i64 m.lo, .slice aco m.code.length cco, .slice aho m.hs.length cho] 45))) := (Ch.refl w).alloc _
  have HB : Hid (∀ w', Ch (w.alloc (.cells #[.string m.n, .string m.d, .bool st, .bool ab, .int .i64 m.sk, .int .i64 m.lo, .slice aco m.code.length cco, .slice aho m.hs.length cho] 45)) w' → _) := fun w' k => mC_at (kept_at k (heap_alloc_new w (.cells #[.string m.n, .string m.d, .bool st, .bool ab, .int .i64 m.sk, .int .i64 m.lo, .slice aco m.code.length cco, .slice aho m.hs.length cho] 45)))
  clear hx hr1 hr2 hM hsc hsh hst
  rcases hp with ⟨rfl, rfl, rfl, rfl, rfl, rfl, rfl, rfl⟩ | ⟨rfl, rfl, rfl, rfl, rfl, rfl, rfl, rfl⟩ | ⟨rfl, rfl, rfl, rfl, rfl, rfl⟩ | ⟨rfl, rfl, rfl, rfl, rfl, rfl⟩
  all_goals
    simp only [if_true, Bool.false_eq_true, if_false] at hlt
    go_enter Tryz.func43, Tryz.ntmps43
    go_wp2_with (first
      | (go_at_call 79; (with_reducible refine (hm _).mono ?_); rintro e w3 ⟨⟨pa, pc, rfl⟩, hc3⟩; obtain ⟨z0, z1, z2, z3, z4, z5, z6, z7⟩ := HB.out _ hc3)
      | (go_at_call 80; (with_reducible refine (hmn _).mono ?_); rintro e w' ⟨rfl, hx⟩; have hx := hx.symm; subst hx))
    clear hm hmn hcl hii hdn hrn hdq hrq
    generalize w.alloc (.cells #[.string m.n, .string m.d, .bool _, .bool _, .int .i64 m.sk, .int .i64 m.lo, .slice aco m.code.length cco, .slice aho m.hs.length cho] 45) = W at *
    clear z0 z1 z2 z3 z4 z5 z6 z7
    go_loopw [7] (fun i wr => ∃ k : Nat, k ≤ m.code.length ∧ i = .int .i64 k ∧ firstF (insE m.code.length m.lo) (m.code.drop k) = r1 ∧ Ch W wr) (fun i _ => m.code.length - (intOf i).toNat)
    case atStart => exact ⟨0, Nat.zero_le _, rfl, by simpa using HR1.out, hc3⟩
    case round =>
      clear hc3
      obtain ⟨k, hk, rfl, hd, hcr⟩ := hrel
      obtain ⟨z0, z1, z2, z3, z4, z5, z6, z7⟩ := HB.out wr hcr
      by_cases hltk : k < m.code.length
      · obtain ⟨y, hy⟩ : ∃ a, m.code[k]? = some a := ⟨_, List.getElem?_eq_getElem hltk⟩
        have hys := HM.out.code y (List.mem_of_getElem? hy)
        obtain ⟨b, off, hao, d0, d1, d2, d3, d4, d5⟩ := (HSC.out.keepI (HW.out.trans hcr)).atI hy
        rw [firstF_step _ hy] at hd
        have hck := fun w0 => refCheck_any y m.code.length m.lo w0 hys
        obtain ⟨q, hq⟩ : ∃ q, insE m.code.length m.lo y = q := ⟨_, rfl⟩
        rw [hq] at hd hck
        have HD : Hid ((if q = 0 then firstF (insE m.code.length m.lo) (m.code.drop (k + 1)) else q) = r1) := hd
        clear hd hy hys hq
        subst hao
        have HT : Hid (∀ w', Ch wr w' → w'.cell? ⟨w.heap.size, 6, none⟩ = some (.slice (some ⟨b, off, none⟩) m.code.length cco) ∧ w'.cell? ⟨w.heap.size, 5, none⟩ = some (.int .i64 m.lo) ∧ w'.cell? ⟨b, off + k * 6, none⟩ = some (.int .i64 y.op) ∧ w'.cell? ⟨b, off + k * 6 + 1, none⟩ = some (.int .i64 y.a) ∧ w'.cell? ⟨b, off + k * 6 + 2, none⟩ = some (.int .i64 y.b) ∧ w'.cell? ⟨b, off + k * 6 + 3, none⟩ = some (.string y.c) ∧ w'.cell? ⟨b, off + k * 6 + 4, none⟩ = some (.string y.n) ∧ w'.cell? ⟨b, off + k * 6 + 5, none⟩ = some (.string y.d)) := fun w' hw => ⟨cell_keep hw z6, cell_keep hw z5, cell_keep hw d0, cell_keep hw d1, cell_keep hw d2, cell_keep hw d3, cell_keep hw d4, cell_keep hw d5⟩
        have t1 : (0 : Int) ≤ (k : Int) := by omega
        have t2 : (k : Int) < (m.code.length : Int) := by omega
        by_cases hq0 : q = 0
        · subst hq0
          go_wp2_with fail
          go_region_held (fun w' => w'.cell? ⟨w.heap.size, 6, none⟩ = some (.slice (some ⟨b, off, none⟩) m.code.length cco) ∧ w'.cell? ⟨w.heap.size, 5, none⟩ = some (.int .i64 m.lo) ∧ w'.cell? ⟨b, off + k * 6, none⟩ = some (.int .i64 y.op) ∧ w'.cell? ⟨b, off + k * 6 + 1, none⟩ = some (.int .i64 y.a) ∧ w'.cell? ⟨b, off + k * 6 + 2, none⟩ = some (.int .i64 y.b) ∧ w'.cell? ⟨b, off + k * 6 + 3, none⟩ = some (.string y.c) ∧ w'.cell? ⟨b, off + k * 6 + 4, none⟩ = some (.string y.n) ∧ w'.cell? ⟨b, off + k * 6 + 5, none⟩ = some (.string y.d)) (first | assumption | (refine HT.out _ ?_; repeat (first | exact Ch.refl _ | refine Ch.drew ?_ | refine Ch.alloc ?_ _ | refine Ch.trans ?_ (by assumption)))) (first
            | (go_at_call 81; (with_reducible refine (hck _).mono ?_); rintro e w4 ⟨rfl, hc4⟩))
          go_wp2
          go_roundw
          case rel => exact ⟨k + 1, by omega, by go_num, by have e := HD.out; simpa using e, hcr.trans ((Ch.refl wr).drew.trans hc4)⟩
          case measure => simp [intOf]; omega
        · have tq : (q != 0) = true := by simpa using hq0
          have HQ0 : Hid (¬ q = 0) := hq0
          clear hq0
          go_wp2_with fail
          go_region_held (fun w' => w'.cell? ⟨w.heap.size, 6, none⟩ = some (.slice (some ⟨b, off, none⟩) m.code.length cco) ∧ w'.cell? ⟨w.heap.size, 5, none⟩ = some (.int .i64 m.lo) ∧ w'.cell? ⟨b, off + k * 6, none⟩ = some (.int .i64 y.op) ∧ w'.cell? ⟨b, off + k * 6 + 1, none⟩ = some (.int .i64 y.a) ∧ w'.cell? ⟨b, off + k * 6 + 2, none⟩ = some (.int .i64 y.b) ∧ w'.cell? ⟨b, off + k * 6 + 3, none⟩ = some (.string y.c) ∧ w'.cell? ⟨b, off + k * 6 + 4, none⟩ = some (.string y.n) ∧ w'.cell? ⟨b, off + k * 6 + 5, none⟩ = some (.string y.d)) (first | assumption | (refine HT.out _ ?_; repeat (first | exact Ch.refl _ | refine Ch.drew ?_ | refine Ch.alloc ?_ _ | refine Ch.trans ?_ (by assumption)))) (first
            | (go_at_call 81; (with_reducible refine (hck _).mono ?_); rintro e w4 ⟨rfl, hc4⟩))
          go_wp2
          go_ret
          have e := HD.out
          rw [if_neg HQ0.out] at e
          exact ⟨congrArg (fun b => Ending.returned (.int .i64 b)) (show q = x by rw [HX.out, ← e, if_neg HQ0.out]), HW.out.trans (hcr.trans ((Ch.refl wr).drew.trans hc4))⟩
      · obtain rfl : k = m.code.length := by omega
        rw [firstF_end _ (Nat.le_refl _)] at hd
        have HX2 : Hid (x = r2) := by show _ = _; rw [HX.out, if_pos hd.symm]
        clear hltk hk hd
        go_wp2
        clear z0 z1 z2 z3 z4 z5 z6 z7
        go_loopw [9] (fun i wr => ∃ k : Nat, k ≤ m.hs.length ∧ i = .int .i64 k ∧ firstF (hndE m.code.length) (m.hs.drop k) = r2 ∧ Ch W wr) (fun i _ => m.hs.length - (intOf i).toNat)
        case atStart => exact ⟨0, Nat.zero_le _, rfl, by simpa using HR2.out, hcr⟩
        case round =>
          clear hcr
          obtain ⟨k, hk, rfl, hd, hcr⟩ := hrel
          obtain ⟨z0, z1, z2, z3, z4, z5, z6, z7⟩ := HB.out wr hcr
          by_cases hltk : k < m.hs.length
          · obtain ⟨y, hy⟩ : ∃ a, m.hs[k]? = some a := ⟨_, List.getElem?_eq_getElem hltk⟩
            have hys := HM.out.hs y (List.mem_of_getElem? hy)
            obtain ⟨b, off, hao, d0, d1, d2, d3⟩ := (HSH.out.keepH (HW.out.trans hcr)).atH hy
            rw [firstF_step _ hy] at hd
            have hnm := fun w0 => refName_any y.c w0 hys
            have hcW : Ch w wr := HW.out.trans hcr
            have hwl : w.heap.size < wr.heap.size := World.block_lt_of_cell? _ _ z0
            obtain ⟨u1, v1⟩ : ∃ q, decide (y.fr < 0) = q := ⟨_, rfl⟩
            obtain ⟨u2, v2⟩ : ∃ q, decide (y.to ≤ y.fr) = q := ⟨_, rfl⟩
            obtain ⟨u3, v3⟩ : ∃ q, decide ((m.code.length : Int) < y.to) = q := ⟨_, rfl⟩
            obtain ⟨u4, v4⟩ : ∃ q, decide (y.pl < 0) = q := ⟨_, rfl⟩
            obtain ⟨u5, v5⟩ : ∃ q, decide ((m.code.length : Int) ≤ y.pl) = q := ⟨_, rfl⟩
            obtain ⟨em, hem⟩ : ∃ q, (y.c.toList == []) = q := ⟨_, rfl⟩
            obtain ⟨en, hen⟩ : ∃ q, (y.c.toList != []) = q := ⟨_, rfl⟩
            have hnot : en = !em := by rw [← hen, ← hem]; rfl
            have hh : hndE m.code.length y = if u1 || u2 || u3 || u4 || u5 then 4 else if em || isName (bl y.c) then 0 else 6 := by unfold hndE empOr; rw [v1, v2, v3, v4, v5, ← hem, bl_toList]
            generalize isName (bl y.c) = nb at *
            rw [hh] at hd
            have HD : Hid ((if (if u1 || u2 || u3 || u4 || u5 then (4 : Int) else if em || nb then 0 else 6) = 0 then firstF (hndE m.code.length) (m.hs.drop (k + 1)) else (if u1 || u2 || u3 || u4 || u5 then 4 else if em || nb then 0 else 6)) = r2) := hd
            have hs8 := split8 u1 u2 u3 u4 u5 em en nb hnot
            clear hd hh hy hnot
            subst hao
            rcases hs8 with rfl | ⟨rfl, rfl⟩ | ⟨rfl, rfl, rfl⟩ | ⟨rfl, rfl, rfl, rfl⟩ | ⟨rfl, rfl, rfl, rfl, rfl⟩ | ⟨rfl, rfl, rfl, rfl, rfl, rfl, rfl⟩ | ⟨rfl, rfl, rfl, rfl, rfl, rfl, rfl, rfl⟩ | ⟨rfl, rfl, rfl, rfl, rfl, rfl, rfl, rfl⟩
            · go_wp2_with (first
                | (go_at_call 41; (with_reducible refine (hnm _).mono ?_); rintro e w' ⟨rfl, hx⟩; have hx := hx.symm; subst hx))
              go_ret
              have e := HD.out
              simp at e
              exact ⟨congrArg (fun b => Ending.returned (.int .i64 b)) (e.trans HX2.out.symm), hcW.alloc _⟩
            · go_wp2_with (first
                | (go_at_call 41; (with_reducible refine (hnm _).mono ?_); rintro e w' ⟨rfl, hx⟩; have hx := hx.symm; subst hx))
              go_ret
              have e := HD.out
              simp at e
              exact ⟨congrArg (fun b => Ending.returned (.int .i64 b)) (e.trans HX2.out.symm), hcW.alloc _⟩
            · go_wp2_with (first
                | (go_at_call 41; (with_reducible refine (hnm _).mono ?_); rintro e w' ⟨rfl, hx⟩; have hx := hx.symm; subst hx))
              go_ret
              have e := HD.out
              simp at e
              exact ⟨congrArg (fun b => Ending.returned (.int .i64 b)) (e.trans HX2.out.symm), hcW.alloc _⟩
            · go_wp2_with (first
                | (go_at_call 41; (with_reducible refine (hnm _).mono ?_); rintro e w' ⟨rfl, hx⟩; have hx := hx.symm; subst hx))
              go_ret
              have e := HD.out
              simp at e
              exact ⟨congrArg (fun b => Ending.returned (.int .i64 b)) (e.trans HX2.out.symm), hcW.alloc _⟩
            · go_wp2_with (first
                | (go_at_call 41; (with_reducible refine (hnm _).mono ?_); rintro e w' ⟨rfl, hx⟩; have hx := hx.symm; subst hx))
              go_ret
              have e := HD.out
              simp at e
              exact ⟨congrArg (fun b => Ending.returned (.int .i64 b)) (e.trans HX2.out.symm), hcW.alloc _⟩
            · go_wp2_with (first
                | (go_at_call 41; (with_reducible refine (hnm _).mono ?_); rintro e w' ⟨rfl, hx⟩; have hx := hx.symm; subst hx))
              go_roundw
              case rel => exact ⟨k + 1, by omega, by go_num, by have e := HD.out; simpa using e, hcr.alloc _⟩
              case measure => simp [intOf]; omega
            · go_wp2_with (first
                | (go_at_call 41; (with_reducible refine (hnm _).mono ?_); rintro e w' ⟨rfl, hx⟩; have hx := hx.symm; subst hx))
              go_roundw
              case rel => exact ⟨k + 1, by omega, by go_num, by have e := HD.out; simpa using e, hcr.alloc _⟩
              case measure => simp [intOf]; omega
            · go_wp2_with (first
                | (go_at_call 41; (with_reducible refine (hnm _).mono ?_); rintro e w' ⟨rfl, hx⟩; have hx := hx.symm; subst hx))
              go_ret
              have e := HD.out
              simp at e
              exact ⟨congrArg (fun b => Ending.returned (.int .i64 b)) (e.trans HX2.out.symm), hcW.alloc _⟩
          · obtain rfl : k = m.hs.length := by omega
            rw [firstF_end _ (Nat.le_refl _)] at hd
            go_wp2
            go_ret
            exact ⟨congrArg (fun b => Ending.returned (.int .i64 b)) (hd.trans HX2.out.symm), HW.out.trans hcr⟩
end Go.Proofs.YtdalibfgkkgcpaaGreat
