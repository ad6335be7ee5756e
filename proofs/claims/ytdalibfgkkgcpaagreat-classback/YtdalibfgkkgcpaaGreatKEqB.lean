/- Two methods, two classes: alike or not. -/
import Derived.Test.YtdalibfgkkgcpaaGreatKEqA
namespace Go.Proofs.YtdalibfgkkgcpaaGreat
open Go.RowKit
set_option linter.unusedVariables false

set_option maxHeartbeats 4000000 in
theorem sameM_any (m n : Mth) (vc vh uc uh : Value) (w : World) (h1 : Sl 6 RI w vc m.code) (h2 : Sl 4 RH w vh m.hs) (h3 : Sl 6 RI w uc n.code) (h4 : Sl 4 RH w uh n.hs) :
    Calls Tryz.prog 57 #[.agg #[.string m.n, .string m.d, .bool m.st, .bool m.ab, .int .i64 m.sk, .int .i64 m.lo, vc, vh], .agg #[.string n.n, .string n.d, .bool n.st, .bool n.ab, .int .i64 n.sk, .int .i64 n.lo, uc, uh]] w
      fun e w' => e = .returned (.bool (eqM m n)) ∧ Ch w w' := by
  have hI : ∀ w0, Ch w w0 → Calls Tryz.prog 97 #[vc, uc, .func (.func 98) #[] #[]] w0 fun e w' => e = .returned (.bool (eqL eqO m.code n.code)) ∧ Ch w0 w' := fun w0 c => eqIs_any _ _ _ _ w0 (h1.keepI c) (h3.keepI c)
  have hH : ∀ w0, Ch w w0 → Calls Tryz.prog 99 #[vh, uh] w0 fun e w' => e = .returned (.bool (eqL eqH m.hs n.hs)) ∧ Ch w0 w' := fun w0 c => eqHs_any _ _ _ _ w0 (h2.keepH c) (h4.keepH c)
  obtain ⟨a1, c1, rfl, _, _⟩ := h1.form
  obtain ⟨a2, c2, rfl, _, _⟩ := h2.form
  obtain ⟨a3, c3, rfl, _, _⟩ := h3.form
  obtain ⟨a4, c4, rfl, _, _⟩ := h4.form
  clear h1 h2 h3 h4
  obtain ⟨r, hr⟩ : ∃ r, eqM m n = r := ⟨_, rfl⟩
  rw [hr]
  unfold eqM at hr
  have HB1 : Hid (((w.alloc (.cells (mthC m (.slice a1 m.code.length c1) (.slice a2 m.hs.length c2)) 45)).alloc (.cells (mthC n (.slice a3 n.code.length c3) (.slice a4 n.hs.length c4)) 45)).heap[w.heap.size]? = some (.cells (mthC m (.slice a1 m.code.length c1) (.slice a2 m.hs.length c2)) 45)) := heap_alloc2_old _ _ _
  have HB2 : Hid (((w.alloc (.cells (mthC m (.slice a1 m.code.length c1) (.slice a2 m.hs.length c2)) 45)).alloc (.cells (mthC n (.slice a3 n.code.length c3) (.slice a4 n.hs.length c4)) 45)).heap[w.heap.size + 1]? = some (.cells (mthC n (.slice a3 n.code.length c3) (.slice a4 n.hs.length c4)) 45)) := heap_alloc2_new _ _ _
  generalize m.code.length = l1 at *
  generalize m.hs.length = l2 at *
  generalize n.code.length = l3 at *
  generalize n.hs.length = l4 at *
  generalize eqL eqO m.code n.code = q7 at *
  generalize eqL eqH m.hs n.hs = q8 at *
  obtain ⟨q1, e1⟩ : ∃ q, (m.n.toList == n.n.toList) = q := ⟨_, rfl⟩
  obtain ⟨q2, e2⟩ : ∃ q, (m.d.toList == n.d.toList) = q := ⟨_, rfl⟩
  obtain ⟨q3, e3⟩ : ∃ q, (m.st == n.st) = q := ⟨_, rfl⟩
  obtain ⟨q4, e4⟩ : ∃ q, (m.ab == n.ab) = q := ⟨_, rfl⟩
  obtain ⟨q5, e5⟩ : ∃ q, (m.sk == n.sk) = q := ⟨_, rfl⟩
  obtain ⟨q6, e6⟩ : ∃ q, (m.lo == n.lo) = q := ⟨_, rfl⟩
  rw [e1, e2, e3, e4, e5, e6] at hr
  have HR : Hid ((q1 && (q2 && (q3 && (q4 && (q5 && (q6 && (q7 && q8))))))) = r) := hr
  clear hr
  go_enter Tryz.func57, Tryz.ntmps57
  go_wp2_with (first
    | (go_at_call 97; (with_reducible refine (hI _ (((Ch.refl w).alloc _).alloc _)).mono ?_); rintro e w3 ⟨rfl, hc3⟩; obtain ⟨_, _, _, _, _, _, _, g7⟩ := mthC_at (kept_at hc3 HB1.out); obtain ⟨_, _, _, _, _, _, _, k7⟩ := mthC_at (kept_at hc3 HB2.out))
    | (go_at_call 99; (with_reducible refine (hH _ ((((Ch.refl w).alloc _).alloc _).trans hc3)).mono ?_); rintro e w4 ⟨rfl, hc4⟩))
  all_goals go_ret
  all_goals
    refine ⟨congrArg (fun b => Ending.returned (.bool b)) ?_, ?_⟩
    · rw [← HR.out]
      clear hI hH HB1 HB2 HR
      simp_all
    · first
        | exact ((((Ch.refl w).alloc _).alloc _).trans hc3).trans hc4
        | exact (((Ch.refl w).alloc _).alloc _).trans hc3
        | exact ((Ch.refl w).alloc _).alloc _

set_option maxHeartbeats 4000000 in
theorem eqMs_any (xs ys : List Mth) (v u : Value) (w : World) (hx : Sl 8 RM w v xs) (hy : Sl 8 RM w u ys) :
    Calls Tryz.prog 56 #[v, u, .func (.func 57) #[] #[]] w fun e w' => e = .returned (.bool (eqL eqM xs ys)) ∧ Ch w w' := by
  obtain ⟨ax, cx, rfl, hx1, hx2⟩ := hx.form
  obtain ⟨ay, cy, rfl, hy1, hy2⟩ := hy.form
  by_cases hl : xs.length = ys.length
  · obtain ⟨r, hr⟩ : ∃ r, eqL eqM xs ys = r := ⟨_, rfl⟩
    rw [hr]
    have t1 : ((xs.length : Int) != (ys.length : Int)) = false := by simp [hl]
    go_enter Tryz.func56, Tryz.ntmps56
    go_wp2
    go_loopw [7, 8, 9, 17, 18] (fun _ _ _ i _ wr => ∃ k : Nat, k ≤ xs.length ∧ i = .int .i64 k ∧ eqL eqM (xs.drop k) (ys.drop k) = r ∧ Ch w wr) (fun _ _ _ i _ _ => xs.length - (intOf i).toNat)
    case atStart => exact ⟨0, Nat.zero_le _, rfl, by simpa using hr, Ch.refl _⟩
    case round =>
      obtain ⟨k, hk, rfl, hd, hcr⟩ := hrel
      by_cases hlt : k < xs.length
      · obtain ⟨x, hxk⟩ : ∃ a, xs[k]? = some a := ⟨_, List.getElem?_eq_getElem hlt⟩
        obtain ⟨y, hyk⟩ : ∃ a, ys[k]? = some a := ⟨_, List.getElem?_eq_getElem (by omega)⟩
        obtain ⟨b, off, vc, vh, hao, hs1, hs2, d0, d1, d2, d3, d4, d5, d6, d7⟩ := (hx.keepM hcr).atM hxk
        obtain ⟨b2, off2, uc, uh, hao2, hs3, hs4, f0, f1, f2, f3, f4, f5, f6, f7⟩ := (hy.keepM hcr).atM hyk
        rw [eqL_step eqM hxk hyk] at hd
        have HD : Hid ((eqM x y && eqL eqM (xs.drop (k + 1)) (ys.drop (k + 1))) = r) := hd
        have HE : Hid (xs.length = ys.length) := hl
        have hlt2 : k < ys.length := by omega
        clear hd hxk hyk hr hl
        subst hao hao2
        have hl2 : b2 < wr.heap.size := World.block_lt_of_cell? _ _ f0
        have hs : ∀ w0, Ch wr w0 → _ := fun w0 c => sameM_any x y vc vh uc uh w0 (hs1.keepI c) (hs2.keepH c) (hs3.keepI c) (hs4.keepH c)
        obtain ⟨a1, c1, rfl, _, _⟩ := hs1.form
        obtain ⟨a2, c2, rfl, _, _⟩ := hs2.form
        obtain ⟨a3, c3, rfl, _, _⟩ := hs3.form
        obtain ⟨a4, c4, rfl, _, _⟩ := hs4.form
        clear hs1 hs2 hs3 hs4
        generalize x.code.length = l1 at *
        generalize x.hs.length = l2 at *
        generalize y.code.length = l3 at *
        generalize y.hs.length = l4 at *
        obtain ⟨q, hq⟩ : ∃ q, eqM x y = q := ⟨_, rfl⟩
        rw [hq] at hs
        have HQ : Hid (eqM x y = q) := hq
        clear hq
        cases q
        · go_wp2_with (first
            | (go_at_call 57; (with_reducible refine (hs _ (((Ch.refl wr).alloc _).alloc _)).mono ?_); rintro e w3 ⟨rfl, hc3⟩))
          go_ret
          have e := HD.out
          rw [HQ.out, Bool.false_and] at e
          exact ⟨congrArg (fun b => Ending.returned (.bool b)) e, ((hcr.alloc _).alloc _).trans hc3⟩
        · go_wp2_with (first
            | (go_at_call 57; (with_reducible refine (hs _ (((Ch.refl wr).alloc _).alloc _)).mono ?_); rintro e w3 ⟨rfl, hc3⟩))
          go_roundw
          case rel => exact ⟨k + 1, by omega, by go_num, by have e := HD.out; rw [HQ.out, Bool.true_and] at e; exact e, ((hcr.alloc _).alloc _).trans hc3⟩
          case measure => simp [intOf]; omega
      · obtain rfl : k = xs.length := by omega
        rw [eqL_end eqM (Nat.le_refl _) (by omega)] at hd
        subst hd
        clear hr
        go_wp2
        go_ret
        exact ⟨rfl, hcr⟩
  · have t1 : ((xs.length : Int) != (ys.length : Int)) = true := by simp; omega
    rw [eqL_len _ _ _ hl]
    clear hl
    go_enter Tryz.func56, Tryz.ntmps56
    go_wp2
    go_ret
    exact ⟨rfl, Ch.refl _⟩

def clsV (c : Cls) (vi vf vm : Value) : Value := .agg #[.string c.n, .string c.s, .bool c.it, .bool c.ab, vi, vf, vm]

set_option maxHeartbeats 4000000 in
theorem sameC_any (a b : Cls) (vi vf vm ui uf um : Value) (w : World) (ha : ClsAt w a vi vf vm) (hb : ClsAt w b ui uf um) :
    Calls Tryz.prog 18 #[.agg #[.string a.n, .string a.s, .bool a.it, .bool a.ab, vi, vf, vm], .agg #[.string b.n, .string b.s, .bool b.it, .bool b.ab, ui, uf, um]] w
      fun e w' => e = .returned (.bool (eqC a b)) ∧ Ch w w' := by
  have hI : ∀ w0, Ch w w0 → Calls Tryz.prog 54 #[vi, ui] w0 fun e w' => e = .returned (.bool (eqL eqT a.im b.im)) ∧ Ch w0 w' := fun w0 c => eqS_any _ _ _ _ w0 (ha.1.keepS c) (hb.1.keepS c)
  have hF : ∀ w0, Ch w w0 → Calls Tryz.prog 55 #[vf, uf] w0 fun e w' => e = .returned (.bool (eqL eqF a.fs b.fs)) ∧ Ch w0 w' := fun w0 c => eqFs_any _ _ _ _ w0 (ha.2.1.keepF c) (hb.2.1.keepF c)
  have hM : ∀ w0, Ch w w0 → Calls Tryz.prog 56 #[vm, um, .func (.func 57) #[] #[]] w0 fun e w' => e = .returned (.bool (eqL eqM a.me b.me)) ∧ Ch w0 w' := fun w0 c => eqMs_any _ _ _ _ w0 (ha.2.2.keepM c) (hb.2.2.keepM c)
  obtain ⟨a1, c1, rfl, _, _⟩ := ha.1.form
  obtain ⟨a2, c2, rfl, _, _⟩ := ha.2.1.form
  obtain ⟨a3, c3, rfl, _, _⟩ := ha.2.2.form
  obtain ⟨a4, c4, rfl, _, _⟩ := hb.1.form
  obtain ⟨a5, c5, rfl, _, _⟩ := hb.2.1.form
  obtain ⟨a6, c6, rfl, _, _⟩ := hb.2.2.form
  clear ha hb
  obtain ⟨r, hr⟩ : ∃ r, eqC a b = r := ⟨_, rfl⟩
  rw [hr]
  unfold eqC at hr
  have HB1 : Hid (((w.alloc (.cells (clsC a (.slice a1 a.im.length c1) (.slice a2 a.fs.length c2) (.slice a3 a.me.length c3)) 26)).alloc (.cells (clsC b (.slice a4 b.im.length c4) (.slice a5 b.fs.length c5) (.slice a6 b.me.length c6)) 26)).heap[w.heap.size]? = some (.cells (clsC a (.slice a1 a.im.length c1) (.slice a2 a.fs.length c2) (.slice a3 a.me.length c3)) 26)) := heap_alloc2_old _ _ _
  have HB2 : Hid (((w.alloc (.cells (clsC a (.slice a1 a.im.length c1) (.slice a2 a.fs.length c2) (.slice a3 a.me.length c3)) 26)).alloc (.cells (clsC b (.slice a4 b.im.length c4) (.slice a5 b.fs.length c5) (.slice a6 b.me.length c6)) 26)).heap[w.heap.size + 1]? = some (.cells (clsC b (.slice a4 b.im.length c4) (.slice a5 b.fs.length c5) (.slice a6 b.me.length c6)) 26)) := heap_alloc2_new _ _ _
  generalize a.im.length = l1 at *
  generalize a.fs.length = l2 at *
  generalize a.me.length = l3 at *
  generalize b.im.length = l4 at *
  generalize b.fs.length = l5 at *
  generalize b.me.length = l6 at *
  generalize eqL eqT a.im b.im = q5 at *
  generalize eqL eqF a.fs b.fs = q6 at *
  generalize eqL eqM a.me b.me = q7 at *
  obtain ⟨q1, e1⟩ : ∃ q, (a.n.toList == b.n.toList) = q := ⟨_, rfl⟩
  obtain ⟨q2, e2⟩ : ∃ q, (a.s.toList == b.s.toList) = q := ⟨_, rfl⟩
  obtain ⟨q3, e3⟩ : ∃ q, (a.it == b.it) = q := ⟨_, rfl⟩
  obtain ⟨q4, e4⟩ : ∃ q, (a.ab == b.ab) = q := ⟨_, rfl⟩
  rw [e1, e2, e3, e4] at hr
  have HR : Hid ((q1 && (q2 && (q3 && (q4 && (q5 && (q6 && q7)))))) = r) := hr
  clear hr
  go_enter Tryz.func18, Tryz.ntmps18
  go_wp2_with (first
    | (go_at_call 54; (with_reducible refine (hI _ (((Ch.refl w).alloc _).alloc _)).mono ?_); rintro e w3 ⟨rfl, hc3⟩; obtain ⟨_, _, _, _, _, g5, _⟩ := clsC_at (kept_at hc3 HB1.out); obtain ⟨_, _, _, _, _, k5, _⟩ := clsC_at (kept_at hc3 HB2.out))
    | (go_at_call 55; (with_reducible refine (hF _ ((((Ch.refl w).alloc _).alloc _).trans hc3)).mono ?_); rintro e w4 ⟨rfl, hc4⟩; obtain ⟨_, _, _, _, _, _, g6⟩ := clsC_at (kept_at (hc3.trans hc4) HB1.out); obtain ⟨_, _, _, _, _, _, k6⟩ := clsC_at (kept_at (hc3.trans hc4) HB2.out))
    | (go_at_call 56; (with_reducible refine (hM _ (((((Ch.refl w).alloc _).alloc _).trans hc3).trans hc4)).mono ?_); rintro e w5 ⟨rfl, hc5⟩))
  all_goals go_ret
  all_goals
    refine ⟨congrArg (fun b => Ending.returned (.bool b)) ?_, ?_⟩
    · rw [← HR.out]
      clear hI hF hM HB1 HB2 HR
      simp_all
    · first
        | exact (((((Ch.refl w).alloc _).alloc _).trans hc3).trans hc4).trans hc5
        | exact ((((Ch.refl w).alloc _).alloc _).trans hc3).trans hc4
        | exact (((Ch.refl w).alloc _).alloc _).trans hc3
        | exact ((Ch.refl w).alloc _).alloc _
end Go.Proofs.YtdalibfgkkgcpaaGreat
