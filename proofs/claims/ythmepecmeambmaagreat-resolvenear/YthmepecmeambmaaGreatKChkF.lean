/- Whether a class may be. -/
import Derived.Test.YthmepecmeambmaaGreatKChkE
namespace Go.Proofs.YthmepecmeambmaaGreat
open Go.RowKit
set_option linter.unusedVariables false

set_option maxHeartbeats 2000000 in
theorem firstM_any (xs : List Mth) (v : Value) (w : World) (hx : Sl 8 RM w v xs) (hsz : ∀ m ∈ xs, MFine m) :
    Calls Tryz.prog 146 #[v, .func (.func 147) #[] #[]] w fun e w' => e = .returned (.int .i64 (firstF mthE xs)) ∧ Ch w w' := by
  obtain ⟨ax, cx, rfl, hx1, hx2⟩ := hx.form
  obtain ⟨r, hr⟩ : ∃ r, firstF mthE xs = r := ⟨_, rfl⟩
  rw [hr]
  go_enter Tryz.func146, Tryz.ntmps146
  go_wp2
  go_loopw [10] (fun i wr => ∃ k : Nat, k ≤ xs.length ∧ i = .int .i64 k ∧ firstF mthE (xs.drop k) = r ∧ Ch w wr) (fun i _ => xs.length - (intOf i).toNat)
  case atStart => exact ⟨0, Nat.zero_le _, rfl, by simpa using hr, Ch.refl _⟩
  case round =>
    clear hr
    obtain ⟨k, hk, rfl, hd, hcr⟩ := hrel
    by_cases hlt : k < xs.length
    · obtain ⟨x, hxk⟩ : ∃ a, xs[k]? = some a := ⟨_, List.getElem?_eq_getElem hlt⟩
      have hxs := hsz x (List.mem_of_getElem? hxk)
      obtain ⟨b, off, vc, vh, hao, hsc, hsh, d0, d1, d2, d3, d4, d5, d6, d7⟩ := (hx.keepM hcr).atM hxk
      have hc : ∀ w0, Ch wr w0 → _ := fun w0 c => checkMethod_any x vc vh w0 hxs (hsc.keepI c) (hsh.keepH c)
      obtain ⟨a1, c1, rfl, _, _⟩ := hsc.form
      obtain ⟨a2, c2, rfl, _, _⟩ := hsh.form
      clear hsc hsh
      rw [firstF_step mthE hxk] at hd
      have HD : Hid ((if mthE x = 0 then firstF mthE (xs.drop (k + 1)) else mthE x) = r) := hd
      clear hd hxk
      subst hao
      obtain ⟨q, hq⟩ : ∃ q, mthE x = q := ⟨_, rfl⟩
      rw [hq] at hc HD
      clear hq
      by_cases h0 : q = 0
      · subst h0
        go_wp2_with (first
          | (go_at_call 147; (with_reducible refine (hc _ ((Ch.refl wr).alloc _)).mono ?_); rintro e w3 ⟨rfl, hc3⟩))
        go_roundw
        case rel => exact ⟨k + 1, by omega, by go_num, by simpa using HD.out, (hcr.alloc _).trans hc3⟩
        case measure => simp [intOf]; omega
      · have t0 : (q == 0) = false := by simpa using h0
        go_wp2_with (first
          | (go_at_call 147; (with_reducible refine (hc _ ((Ch.refl wr).alloc _)).mono ?_); rintro e w3 ⟨rfl, hc3⟩))
        go_ret
        have e := HD.out
        rw [if_neg h0] at e
        exact ⟨congrArg (fun b => Ending.returned (.int .i64 b)) e, (hcr.alloc _).trans hc3⟩
    · obtain rfl : k = xs.length := by omega
      rw [firstF_end mthE (Nat.le_refl _)] at hd
      subst hd
      go_wp2
      go_ret
      exact ⟨rfl, hcr⟩


theorem fld63 (a : Value) (M : Option Nat) (W : World) (h : a.oneCell' = true) : (Instr.field 281 (.agg #[a, .map M]) 0).run Tryz.prog W = .ok a W := by
  cases a <;> first | kernel_rfl | (simp [Value.oneCell'] at h)

set_option maxHeartbeats 2000000 in
theorem pool_any (c : Cls) (vi vf vm : Value) (w : World) (h : ClsAt w c vi vf vm) (hF : Fine c) :
    Calls Tryz.prog 213 #[.agg #[.string c.n, .string c.s, .bool c.it, .bool c.ab, vi, vf, vm]] w fun e w' => ∃ v, e = .returned v ∧ w'.ownsRow w.heap.size 9 1 v (poolL c).length ((poolL c).map strV) ∧ Ch w w' := by
  have hp : ∀ w0, Ch w w0 → _ := fun w0 k => poolOf_any c vi vf vm w0 (h.keep k) hF
  have hf := fun ao n c M W => fld63 (.slice ao n c) M W rfl
  obtain ⟨ai, ci, rfl, _, _⟩ := h.1.form
  obtain ⟨af, cf, rfl, _, _⟩ := h.2.1.form
  obtain ⟨am, cm, rfl, _, _⟩ := h.2.2.form
  clear h hF
  generalize c.im.length = l1 at *
  generalize c.fs.length = l2 at *
  generalize c.me.length = l3 at *
  go_enter Tryz.func213, Tryz.ntmps213
  go_wp2_with (first
    | (go_at_call 277; (with_reducible refine (hp _ ((Ch.refl w).alloc _)).mono ?_); rintro e w3 ⟨vt, M, rfl, ho3, hm3, _, hc3⟩; obtain ⟨a3, c3, rfl⟩ := own_form ho3))
  go_ret
  exact ⟨_, rfl, ownsRow_base ho3 (by simp), ((Ch.refl w).alloc _).trans hc3⟩

def polE (c : Cls) : Int := if (500 : Int) < ((poolL c).length : Int) then 5 else 0
set_option maxHeartbeats 2000000 in
theorem checkPool_any (c : Cls) (vi vf vm : Value) (w : World) (h : ClsAt w c vi vf vm) (hF : Fine c) :
    Calls Tryz.prog 148 #[.agg #[.string c.n, .string c.s, .bool c.it, .bool c.ab, vi, vf, vm]] w fun e w' => e = .returned (.int .i64 (polE c)) ∧ Ch w w' := by
  have hp : ∀ w0, Ch w w0 → _ := fun w0 k => pool_any c vi vf vm w0 (h.keep k) hF
  obtain ⟨ai, ci, rfl, _, _⟩ := h.1.form
  obtain ⟨af, cf, rfl, _, _⟩ := h.2.1.form
  obtain ⟨am, cm, rfl, _, _⟩ := h.2.2.form
  clear h hF
  unfold polE
  generalize c.im.length = l1 at *
  generalize c.fs.length = l2 at *
  generalize c.me.length = l3 at *
  generalize poolL c = L at *
  by_cases hl : (500 : Int) < (L.length : Int)
  · rw [if_pos hl]
    go_enter Tryz.func148, Tryz.ntmps148
    go_wp2_with (first
      | (go_at_call 213; (with_reducible refine (hp _ ((Ch.refl w).alloc _)).mono ?_); rintro e w3 ⟨v3, rfl, ho3, hc3⟩; obtain ⟨a3, c3, rfl⟩ := own_form ho3))
    go_ret
    exact ⟨rfl, ((Ch.refl w).alloc _).trans hc3⟩
  · rw [if_neg hl]
    go_enter Tryz.func148, Tryz.ntmps148
    go_wp2_with (first
      | (go_at_call 213; (with_reducible refine (hp _ ((Ch.refl w).alloc _)).mono ?_); rintro e w3 ⟨v3, rfl, ho3, hc3⟩; obtain ⟨a3, c3, rfl⟩ := own_form ho3))
    go_ret
    exact ⟨rfl, ((Ch.refl w).alloc _).trans hc3⟩

def hdE (c : Cls) : Int :=
  if isName (bl c.n) && (empOr c.s && (firstF nmE c.im == 0)) then (if decide ((30 : Int) < c.im.length) || (decide ((20 : Int) < c.fs.length) || decide ((20 : Int) < c.me.length)) then 5 else 0) else 6
set_option maxHeartbeats 4000000 in
theorem checkHead_any (c : Cls) (vi vf vm : Value) (w : World) (h : ClsAt w c vi vf vm) (hF : Fine c) :
    Calls Tryz.prog 143 #[.agg #[.string c.n, .string c.s, .bool c.it, .bool c.ab, vi, vf, vm]] w fun e w' => e = .returned (.int .i64 (hdE c)) ∧ Ch w w' := by
  have HK : Hid (∀ w', Ch (w.alloc (.cells (clsC c vi vf vm) 41)) w' → _) := fun w' k => clsC_at (kept_at k (heap_alloc_new _ _))
  have hcW : Ch w (w.alloc (.cells (clsC c vi vf vm) 41)) := (Ch.refl w).alloc _
  have hn := fun w0 => name_any c.n w0 hF.n
  have hs := fun w0 => emptyOr_any c.s w0 hF.s
  have hi : ∀ w0, Ch w w0 → Calls Tryz.prog 205 #[vi, .func (.func 206) #[] #[]] w0 fun e w' => e = .returned (.int .i64 (firstF nmE c.im)) ∧ Ch w0 w' := fun w0 k => firstS_any c.im vi w0 (h.1.keepS k) hF.im
  obtain ⟨ai, ci, rfl, _, _⟩ := h.1.form
  obtain ⟨af, cf, rfl, _, _⟩ := h.2.1.form
  obtain ⟨am, cm, rfl, _, _⟩ := h.2.2.form
  clear h hF
  obtain ⟨r, hr⟩ : ∃ r, hdE c = r := ⟨_, rfl⟩
  rw [hr]
  unfold hdE at hr
  generalize c.im.length = l1 at *
  generalize c.fs.length = l2 at *
  generalize c.me.length = l3 at *
  generalize isName (bl c.n) = b1 at *
  generalize empOr c.s = b2 at *
  generalize firstF nmE c.im = f at *
  unfold clsC at HK hcW
  by_cases h0 : f = 0
  · subst h0
    have HR : Hid (_ = r) := hr
    clear hr
    go_enter Tryz.func143, Tryz.ntmps143
    go_wp2_with (first
      | (go_at_call 203; (with_reducible refine (hn _).mono ?_); rintro e w2 ⟨rfl, hx⟩; have hx := hx.symm; subst hx)
      | (go_at_call 204; (with_reducible refine (hs _).mono ?_); rintro e w3 ⟨rfl, hc3⟩; obtain ⟨z0, z1, z2, z3, z4, z5, z6⟩ := HK.out _ hc3)
      | (go_at_call 205; (with_reducible refine (hi _ (hcW.trans hc3)).mono ?_); rintro e w4 ⟨rfl, hc4⟩; obtain ⟨y0, y1, y2, y3, y4, y5, y6⟩ := HK.out _ (hc3.trans hc4)))
    all_goals go_ret
    all_goals
      refine ⟨congrArg (fun b => Ending.returned (.int .i64 b)) ?_, ?_⟩
      · rw [← HR.out]
        clear hn hs hi HR HK hcW
        first | (simp_all; done) | (simp_all; omega)
      · first
          | exact hcW.trans (hc3.trans hc4)
          | exact hcW.trans hc3
          | exact hcW
  · have t0 : (f == 0) = false := by simpa using h0
    rw [t0] at hr
    have HR : Hid (_ = r) := hr
    clear hr
    go_enter Tryz.func143, Tryz.ntmps143
    go_wp2_with (first
      | (go_at_call 203; (with_reducible refine (hn _).mono ?_); rintro e w2 ⟨rfl, hx⟩; have hx := hx.symm; subst hx)
      | (go_at_call 204; (with_reducible refine (hs _).mono ?_); rintro e w3 ⟨rfl, hc3⟩; obtain ⟨z0, z1, z2, z3, z4, z5, z6⟩ := HK.out _ hc3)
      | (go_at_call 205; (with_reducible refine (hi _ (hcW.trans hc3)).mono ?_); rintro e w4 ⟨rfl, hc4⟩; obtain ⟨y0, y1, y2, y3, y4, y5, y6⟩ := HK.out _ (hc3.trans hc4)))
    all_goals go_ret
    all_goals
      refine ⟨congrArg (fun b => Ending.returned (.int .i64 b)) ?_, ?_⟩
      · rw [← HR.out]
        clear hn hs hi HR HK hcW
        first | (simp_all; done) | (simp_all; omega)
      · first
          | exact hcW.trans (hc3.trans hc4)
          | exact hcW.trans hc3
          | exact hcW

def chkE (c : Cls) : Int := orL [hdE c, firstF fldE c.fs, firstF mthE c.me, polE c]
set_option maxHeartbeats 8000000 in
theorem check_cls (c : Cls) (vi vf vm : Value) (w : World) (h : ClsAt w c vi vf vm) (hF : Fine c) :
    Calls Tryz.prog 78 #[.agg #[.string c.n, .string c.s, .bool c.it, .bool c.ab, vi, vf, vm]] w fun e w' => e = .returned (.int .i64 (chkE c)) ∧ Ch w w' := by
  have HK : Hid (∀ w', Ch (w.alloc (.cells (clsC c vi vf vm) 41)) w' → _) := fun w' k => clsC_at (kept_at k (heap_alloc_new _ _))
  have hcW : Ch w (w.alloc (.cells (clsC c vi vf vm) 41)) := (Ch.refl w).alloc _
  have h1 : ∀ w0, Ch (w.alloc (.cells (clsC c vi vf vm) 41)) w0 → Calls Tryz.prog 143 #[.agg #[.string c.n, .string c.s, .bool c.it, .bool c.ab, vi, vf, vm]] w0 fun e w' => e = .returned (.int .i64 (hdE c)) ∧ Ch w0 w' := fun w0 k => checkHead_any c vi vf vm w0 (h.keep (hcW.trans k)) hF
  have h2 : ∀ w0, Ch (w.alloc (.cells (clsC c vi vf vm) 41)) w0 → Calls Tryz.prog 144 #[vf, .func (.func 145) #[] #[]] w0 fun e w' => e = .returned (.int .i64 (firstF fldE c.fs)) ∧ Ch w0 w' := fun w0 k => firstFs_any c.fs vf w0 (h.2.1.keepF (hcW.trans k)) hF.fs
  have h3 : ∀ w0, Ch (w.alloc (.cells (clsC c vi vf vm) 41)) w0 → Calls Tryz.prog 146 #[vm, .func (.func 147) #[] #[]] w0 fun e w' => e = .returned (.int .i64 (firstF mthE c.me)) ∧ Ch w0 w' := fun w0 k => firstM_any c.me vm w0 (h.2.2.keepM (hcW.trans k)) hF.me
  have h4 : ∀ w0, Ch (w.alloc (.cells (clsC c vi vf vm) 41)) w0 → Calls Tryz.prog 148 #[.agg #[.string c.n, .string c.s, .bool c.it, .bool c.ab, vi, vf, vm]] w0 fun e w' => e = .returned (.int .i64 (polE c)) ∧ Ch w0 w' := fun w0 k => checkPool_any c vi vf vm w0 (h.keep (hcW.trans k)) hF
  obtain ⟨ai, ci, rfl, _, _⟩ := h.1.form
  obtain ⟨af, cf, rfl, _, _⟩ := h.2.1.form
  obtain ⟨am, cm, rfl, _, _⟩ := h.2.2.form
  clear h hF
  unfold chkE
  generalize c.im.length = l1 at *
  generalize c.fs.length = l2 at *
  generalize c.me.length = l3 at *
  generalize hdE c = r1 at *
  generalize firstF fldE c.fs = r2 at *
  generalize firstF mthE c.me = r3 at *
  generalize polE c = r4 at *
  unfold clsC at *
  go_enter Tryz.func78, Tryz.ntmps78
  go_wp2_with fail
  generalize w.alloc (.cells #[.string c.n, .string c.s, .bool c.it, .bool c.ab, .slice ai l1 ci, .slice af l2 cf, .slice am l3 cm] 41) = w1 at *
  go_region_held (fun w' => w'.cell? ⟨w.heap.size, 0, none⟩ = some (.string c.n) ∧ w'.cell? ⟨w.heap.size, 1, none⟩ = some (.string c.s) ∧ w'.cell? ⟨w.heap.size, 2, none⟩ = some (.bool c.it) ∧ w'.cell? ⟨w.heap.size, 3, none⟩ = some (.bool c.ab) ∧ w'.cell? ⟨w.heap.size, 4, none⟩ = some (.slice ai l1 ci) ∧ w'.cell? ⟨w.heap.size, 5, none⟩ = some (.slice af l2 cf) ∧ w'.cell? ⟨w.heap.size, 6, none⟩ = some (.slice am l3 cm))
    ((refine HK.out _ ?_; repeat (first | exact Ch.refl _ | refine Ch.drew ?_ | refine Ch.alloc ?_ _ | refine Ch.trans ?_ (by assumption)))) (first
      | (go_at_call 143; (with_reducible refine (h1 _ (by repeat (first | exact Ch.refl _ | refine Ch.drew ?_ | refine Ch.alloc ?_ _ | refine Ch.trans ?_ (by assumption)))).mono ?_); rintro e w3 ⟨rfl, hc3⟩)
      | (go_at_call 144; (with_reducible refine (h2 _ (by repeat (first | exact Ch.refl _ | refine Ch.drew ?_ | refine Ch.alloc ?_ _ | refine Ch.trans ?_ (by assumption)))).mono ?_); rintro e w4 ⟨rfl, hc4⟩)
      | (go_at_call 146; (with_reducible refine (h3 _ (by repeat (first | exact Ch.refl _ | refine Ch.drew ?_ | refine Ch.alloc ?_ _ | refine Ch.trans ?_ (by assumption)))).mono ?_); rintro e w5 ⟨rfl, hc5⟩)
      | (go_at_call 148; (with_reducible refine (h4 _ (by repeat (first | exact Ch.refl _ | refine Ch.drew ?_ | refine Ch.alloc ?_ _ | refine Ch.trans ?_ (by assumption)))).mono ?_); rintro e w6 ⟨rfl, hc6⟩)
      | (go_at_call 142; (with_reducible refine (or4 _ _ _ _ _ _ (by first | exact alloc_at _ _ _ (by simp) | exact alloc_at' _ _ _ (by simp))).mono ?_); rintro e w7 ⟨rfl, hx⟩; subst hx))
  all_goals
    go_wp2
    go_ret
    refine ⟨rfl, hcW.trans ?_⟩
    repeat (first | exact Ch.refl _ | refine Ch.drew ?_ | refine Ch.alloc ?_ _ | refine Ch.trans ?_ (by assumption))
end Go.Proofs.YthmepecmeambmaaGreat
