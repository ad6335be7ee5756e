/- Whether the super, and the interfaces, are there. -/
/- The first that is wanted; an interface's shape; a concrete class's. -/
import Derived.Test.YthmepecmeambmaaGreatKLkP
namespace Go.Proofs.YthmepecmeambmaaGreat
open Go.RowKit
set_option linter.unusedVariables false

theorem Sl.take {α : Type} {k : Nat} {R : World → List Value → α → Prop} {w : World} {ao : Option Addr} {n cap : Nat} {xs : List α} (h : Sl k R w (.slice ao n cap) xs) (m : Nat) (hm : m ≤ xs.length) : Sl k R w (.slice ao m cap) (xs.take m) := by
  obtain ⟨ao', cap', hv, h1, h2, h3⟩ := h
  obtain ⟨rfl, rfl, rfl⟩ : ao = ao' ∧ n = xs.length ∧ cap = cap' := by simpa using hv
  have hl : (xs.take m).length = m := by rw [List.length_take]; omega
  refine ⟨ao, cap, by rw [hl], by omega, h2, fun hp => ?_⟩
  obtain ⟨b, off, ha, hc⟩ := h3 (by omega)
  refine ⟨b, off, ha, fun i a hi => hc i a ?_⟩
  have hlt := (List.getElem?_eq_some_iff.1 hi).1
  rw [List.getElem?_take_of_lt (by omega)] at hi
  exact hi
theorem tw_step {α : Type} (f : α → α → Bool) {xs : List α} {k : Nat} {x : α} (h : xs[k]? = some x) : tw f (xs.take k) (xs.drop k) = ((xs.take k).any (fun y => f y x) || tw f (xs.take (k + 1)) (xs.drop (k + 1))) := by
  obtain ⟨hk, hx⟩ := List.getElem?_eq_some_iff.1 h
  rw [List.drop_eq_getElem_cons hk, hx, tw, List.take_succ_eq_append_getElem hk, hx]
theorem tw_end {α : Type} (f : α → α → Bool) (xs : List α) : tw f xs (xs.drop xs.length) = false := by rw [List.drop_length]; rfl

set_option maxHeartbeats 4000000 in
theorem twiceS_any (xs : List ByteArray) (v : Value) (w : World) (hv : Sl 1 RS w v xs) :
    Calls Tryz.prog 218 #[v] w fun e w' => e = .returned (.bool (tw nq [] xs)) ∧ w' = w := by
  obtain ⟨ao, c, rfl, hc1, hc2⟩ := hv.form
  have HV : Hid (Sl 1 RS w (.slice ao xs.length c) xs) := hv
  clear hv
  obtain ⟨ans, hans⟩ : ∃ q, tw nq [] xs = q := ⟨_, rfl⟩
  rw [hans]
  have HA : Hid (tw nq (xs.take 0) (xs.drop 0) = ans) := hans
  clear hans
  go_enter Tryz.func218, Tryz.ntmps218
  go_wp2
  go_loop [7] (fun i => ∃ k : Nat, k ≤ xs.length ∧ i = .int .i64 k ∧ tw nq (xs.take k) (xs.drop k) = ans) (fun i => xs.length - (intOf i).toNat)
  case atStart => exact ⟨0, Nat.zero_le _, rfl, HA.out⟩
  case round =>
    obtain ⟨k, hk, rfl, hno⟩ := hrel
    by_cases hlt : k < xs.length
    · obtain ⟨x, hx⟩ : ∃ x, xs[k]? = some x := ⟨_, List.getElem?_eq_getElem hlt⟩
      obtain ⟨b', off, rfl, q0⟩ := HV.out.atS hx
      rw [tw_step nq hx] at hno
      have hco := containsS_any x (xs.take k) _ w (HV.out.take k (by omega))
      have hl : (xs.take k).length = k := by rw [List.length_take]; omega
      have HN : Hid ((hasN (xs.take k) x || tw nq (xs.take (k + 1)) (xs.drop (k + 1))) = ans) := hno
      clear hx hno hl
      obtain ⟨bq, hbq⟩ : ∃ q, hasN (xs.take k) x = q := ⟨_, rfl⟩
      rw [hbq] at hco HN
      clear hbq
      cases bq with
      | true =>
        go_wp2_with (first
          | (go_at_call 100; (with_reducible refine hco.mono ?_); rintro e w' ⟨rfl, hw⟩; have hw := hw.symm; subst hw)
          | fail)
        go_ret
        exact ⟨by rw [← HN.out]; rfl, rfl⟩
      | false =>
        go_wp2_with (first
          | (go_at_call 100; (with_reducible refine hco.mono ?_); rintro e w' ⟨rfl, hw⟩; have hw := hw.symm; subst hw)
          | fail)
        exact ⟨⟨k + 1, by omega, rfl, by rw [← HN.out]; rfl⟩, by simp [intOf]; omega⟩
    · obtain rfl : k = xs.length := by omega
      rw [List.take_length, tw_end] at hno
      subst hno
      go_wp2
      go_ret
      exact ⟨rfl, rfl⟩

set_option maxHeartbeats 4000000 in
theorem hasSuper_any (c : Cls) (vi vf vm : Value) (P : List Cls) (g b : Nat) (w : World) (h : Pm w g b P) (hc : ClsAt w c vi vf vm) :
    Calls Tryz.prog 155 #[.pointer (some ⟨g, 0, none⟩), .agg #[.string c.n, .string c.s, .bool c.it, .bool c.ab, vi, vf, vm]] w fun e w' => e = .returned (.bool (k1 P c)) ∧ Ch w w' := by
  obtain ⟨ai, ci, rfl, _, _⟩ := hc.1.form
  obtain ⟨af, cf, rfl, _, _⟩ := hc.2.1.form
  obtain ⟨am, cm, rfl, _, _⟩ := hc.2.2.form
  clear hc
  have hb0 : Bo w w.heap.size 41 #[.string c.n, .string c.s, .bool c.it, .bool c.ab, .slice ai c.im.length ci, .slice af c.fs.length cf, .slice am c.me.length cm] _ := Bo.new (Ch.refl w) _ _
  have hfi := find_any c.s P g b _ (h.keep hb0.ch)
  have HB : Hid (Ch w (w.alloc (.cells #[.string c.n, .string c.s, .bool c.it, .bool c.ab, .slice ai c.im.length ci, .slice af c.fs.length cf, .slice am c.me.length cm] 41))) := hb0.ch
  have HP : Hid (Pm w g b P) := h
  clear hb0 h
  unfold k1
  obtain ⟨cn, cs, it, ab, im, fs, me⟩ := c
  dsimp only at *
  generalize im.length = l1 at *
  generalize fs.length = l2 at *
  generalize me.length = l3 at *
  cases it with
  | true =>
    have hq : (cs.toList == [79, 98, 106, 101, 99, 116]) = nq cs nObject := by rw [bl_toList]; rfl
    rw [if_pos rfl]
    generalize nq cs nObject = r at *
    go_enter Tryz.func155, Tryz.ntmps155
    go_wp2_with fail
    go_ret
    exact ⟨rfl, HB.out⟩
  | false =>
    rw [if_neg (by simp)]
    cases hx : ixN P cs with
    | none =>
      rw [pn_no hx] at hfi
      rw [ix_none.1 hx]
      dsimp only
      clear hx
      go_enter Tryz.func155, Tryz.ntmps155
      go_wp2_with (first
        | (go_at_call 92; (with_reducible refine hfi.mono ?_); rintro e w3 ⟨rfl, c3⟩)
        | fail)
      go_ret
      exact ⟨rfl, HB.out.trans c3⟩
    | some i =>
      obtain ⟨⟨xn, xsu, xit, xab, xim, xfs, xme⟩, hxi, hxl, _⟩ := ix_some hx
      rw [pn_is hx] at hfi
      rw [hxl]
      dsimp only
      have Q : Hid (∀ w', Ch w w' → w'.cell? ⟨b, i * 7, none⟩ = some (.string xn) ∧ w'.cell? ⟨b, i * 7 + 2, none⟩ = some (.bool xit)) := fun w' k => by
        obtain ⟨_, _, _, _, q, _, q2, _⟩ := (HP.out.keep k).at hxi
        exact ⟨q, q2⟩
      have hq : (xn.toList == [83, 121, 115]) = nq xn nSys := by rw [bl_toList]; rfl
      clear hx hxi hxl
      unfold ptr at *
      generalize nq xn nSys = r at *
      have hq2 : (xn.toList != [83, 121, 115]) = !r := by rw [← hq]; rfl
      cases xit <;> cases r <;>
      · try rw [Bool.not_true] at hq2
        try rw [Bool.not_false] at hq2
        go_enter Tryz.func155, Tryz.ntmps155
        go_wp2_with (first
          | (go_at_call 92; (with_reducible refine hfi.mono ?_); rintro e w3 ⟨rfl, c3⟩; obtain ⟨q1, q2⟩ := Q.out w3 (HB.out.trans c3))
          | fail)
        go_ret
        exact ⟨rfl, HB.out.trans c3⟩

set_option maxHeartbeats 4000000 in
theorem hasInterfaces_any (c : Cls) (vi vf vm : Value) (P : List Cls) (g b : Nat) (w : World) (h : Pm w g b P) (hc : ClsAt w c vi vf vm) :
    Calls Tryz.prog 156 #[.pointer (some ⟨g, 0, none⟩), .agg #[.string c.n, .string c.s, .bool c.it, .bool c.ab, vi, vf, vm]] w fun e w' => e = .returned (.bool (k2 P c)) ∧ Ch w w' := by
  have HS : Hid (Sl 1 RS w vi c.im) := hc.1
  obtain ⟨ai, ci, rfl, hl1, hl2⟩ := hc.1.form
  obtain ⟨af, cf, rfl, _, _⟩ := hc.2.1.form
  obtain ⟨am, cm, rfl, _, _⟩ := hc.2.2.form
  clear hc
  have hb0 : Bo w w.heap.size 41 #[.string c.n, .string c.s, .bool c.it, .bool c.ab, .slice ai c.im.length ci, .slice af c.fs.length cf, .slice am c.me.length cm] _ := Bo.new (Ch.refl w) _ _
  have HB : Hid (Bo w w.heap.size 41 #[.string c.n, .string c.s, .bool c.it, .bool c.ab, .slice ai c.im.length ci, .slice af c.fs.length cf, .slice am c.me.length cm] (w.alloc (.cells #[.string c.n, .string c.s, .bool c.it, .bool c.ab, .slice ai c.im.length ci, .slice af c.fs.length cf, .slice am c.me.length cm] 41))) := hb0
  have HP : Hid (Pm w g b P) := h
  have b4 := hb0.c 4 rfl
  have hcb := hb0.ch
  clear hb0 h
  obtain ⟨ans, hans⟩ : ∃ q, k2 P c = q := ⟨_, rfl⟩
  rw [hans]
  have HA : Hid (((c.im.drop 0).all (isIf P) && !tw nq [] c.im) = ans) := hans
  clear hans
  go_enter Tryz.func156, Tryz.ntmps156
  go_wp2_with fail
  go_loopw [11] (fun i wr => ∃ k : Nat, k ≤ c.im.length ∧ i = .int .i64 k ∧ ((c.im.drop k).all (isIf P) && !tw nq [] c.im) = ans ∧ Ch (w.alloc (.cells #[.string c.n, .string c.s, .bool c.it, .bool c.ab, .slice ai c.im.length ci, .slice af c.fs.length cf, .slice am c.me.length cm] 41)) wr) (fun i _ => c.im.length - (intOf i).toNat)
  case atStart => exact ⟨0, Nat.zero_le _, rfl, HA.out, Ch.refl _⟩
  case round =>
    clear b4
    obtain ⟨k, hk, rfl, hno, hcr⟩ := hrel
    have hcw := hcb.trans hcr
    by_cases hlt : k < c.im.length
    · obtain ⟨s, hs⟩ : ∃ s, c.im[k]? = some s := ⟨_, List.getElem?_eq_getElem hlt⟩
      obtain ⟨b', off, rfl, q0⟩ := (HS.out.keepS hcw).atS hs
      have hfi := find_any s P g b _ (HP.out.keep hcw)
      have hd : c.im.drop k = s :: c.im.drop (k + 1) := by
        obtain ⟨h1, h2⟩ := List.getElem?_eq_some_iff.1 hs
        rw [List.drop_eq_getElem_cons h1, h2]
      rw [hd, List.all_cons] at hno
      have HN : Hid (((isIf P s && (c.im.drop (k + 1)).all (isIf P)) && !tw nq [] c.im) = ans) := hno
      clear hno hd hs
      cases hx : ixN P s with
      | none =>
        rw [pn_no hx] at hfi
        have hi : isIf P s = false := by unfold isIf; rw [ix_none.1 hx]
        rw [hi] at HN
        have HX : Hid (ixN P s = none) := hx
        clear hx hi
        go_wp2_with (first
          | (go_at_call 92; (with_reducible refine hfi.mono ?_); rintro e w3 ⟨rfl, c3⟩)
          | fail)
        go_ret
        exact ⟨by rw [← HN.out]; rfl, hcw.trans c3⟩
      | some i =>
        obtain ⟨⟨xn, xsu, xit, xab, xim, xfs, xme⟩, hxi, hxl, _⟩ := ix_some hx
        rw [pn_is hx] at hfi
        have hi : isIf P s = xit := by unfold isIf; rw [hxl]
        rw [hi] at HN
        have Q : Hid (∀ w', Ch w w' → w'.cell? ⟨b, i * 7 + 2, none⟩ = some (.bool xit)) := fun w' k => by
          obtain ⟨_, _, _, _, q, _, q2, _⟩ := (HP.out.keep k).at hxi
          exact q2
        clear hx hxi hxl hi
        unfold ptr at *
        cases xit with
        | false =>
          go_wp2_with (first
            | (go_at_call 92; (with_reducible refine hfi.mono ?_); rintro e w3 ⟨rfl, c3⟩; have q1 := Q.out w3 (hcw.trans c3))
            | fail)
          go_ret
          exact ⟨by rw [← HN.out]; rfl, hcw.trans c3⟩
        | true =>
          go_wp2_with (first
            | (go_at_call 92; (with_reducible refine hfi.mono ?_); rintro e w3 ⟨rfl, c3⟩; have q1 := Q.out w3 (hcw.trans c3))
            | fail)
          go_roundw
          case rel => exact ⟨k + 1, by omega, by go_num, by rw [← HN.out]; rfl, hcr.trans c3⟩
          case measure => simp [intOf]; omega
    · obtain rfl : k = c.im.length := by omega
      rw [List.drop_length] at hno
      have htw := twiceS_any c.im _ wr (HS.out.keepS hcw)
      have b4 := (HB.out.call hcr).c 4 rfl
      have HN : Hid ((!tw nq [] c.im) = ans) := by rw [← hno]; rfl
      clear hno
      generalize tw nq [] c.im = t at *
      go_wp2_with (first
        | (go_at_call 218; (with_reducible refine htw.mono ?_); rintro e w' ⟨rfl, hw⟩; have hw := hw.symm; subst hw)
        | fail)
      go_ret
      exact ⟨by rw [← HN.out]; rfl, hcw⟩
end Go.Proofs.YthmepecmeambmaaGreat
namespace Go.Proofs.YthmepecmeambmaaGreat
open Go.RowKit
set_option linter.unusedVariables false

/-- The place of the first that is wanted, or -1. -/
def idJ {α : Type} (pd : α → Bool) : Nat → List α → Int
  | _, [] => -1
  | k, x :: r => if pd x then (k : Int) else idJ pd (k + 1) r
def idI {α : Type} (pd : α → Bool) (xs : List α) : Int := idJ pd 0 xs
theorem idJ_step {α : Type} (pd : α → Bool) {xs : List α} {k : Nat} {x : α} (h : xs[k]? = some x) : idJ pd k (xs.drop k) = if pd x then (k : Int) else idJ pd (k + 1) (xs.drop (k + 1)) := by
  obtain ⟨hk, hx⟩ := List.getElem?_eq_some_iff.1 h
  rw [List.drop_eq_getElem_cons hk, hx, idJ]
theorem idJ_any {α : Type} (pd : α → Bool) : ∀ (xs : List α) (k : Nat), decide (0 ≤ idJ pd k xs) = xs.any pd
  | [], k => rfl
  | x :: r, k => by
    rw [idJ, List.any_cons]
    cases pd x with
    | true => rw [if_pos rfl]; simp
    | false => rw [if_neg (by simp), idJ_any pd r]; rfl
theorem idI_any {α : Type} (pd : α → Bool) (xs : List α) : decide (0 ≤ idI pd xs) = xs.any pd := idJ_any pd xs 0

set_option maxHeartbeats 4000000 in
theorem ixF220 (pd : Fld → Bool) (xs : List Fld) (v : Value) (w : World) (hv : Sl 3 RF w v xs) (hf : ∀ w', Ch w w' → ∀ x ∈ xs, Calls Tryz.prog 220 #[.agg #[.string x.n, .string x.d, .bool x.st]] w' fun e w2 => e = .returned (.bool (pd x)) ∧ Ch w' w2) :
    Calls Tryz.prog 198 #[v, .func (.func 220) #[] #[]] w fun e w' => e = .returned (.int .i64 (idI pd xs)) ∧ Ch w w' := by
  obtain ⟨ao, c, rfl, hc1, hc2⟩ := hv.form
  have HS : Hid (Sl 3 RF w (.slice ao xs.length c) xs) := hv
  have HF : Hid (∀ w', Ch w w' → ∀ x ∈ xs, Calls Tryz.prog 220 #[.agg #[.string x.n, .string x.d, .bool x.st]] w' fun e w2 => e = .returned (.bool (pd x)) ∧ Ch w' w2) := hf
  clear hv hf
  obtain ⟨ans, hans⟩ : ∃ q, idI pd xs = q := ⟨_, rfl⟩
  rw [hans]
  have HA : Hid (idJ pd 0 (xs.drop 0) = ans) := hans
  clear hans
  go_enter Tryz.func198, Tryz.ntmps198
  go_wp2_with fail
  go_loopw [8] (fun i wr => ∃ k : Nat, k ≤ xs.length ∧ i = .int .i64 k ∧ idJ pd k (xs.drop k) = ans ∧ Ch w wr) (fun i _ => xs.length - (intOf i).toNat)
  case atStart => exact ⟨0, Nat.zero_le _, rfl, HA.out, Ch.refl _⟩
  case round =>
    obtain ⟨k, hk, rfl, hno, hcr⟩ := hrel
    by_cases hlt : k < xs.length
    · obtain ⟨x, hx⟩ : ∃ x, xs[k]? = some x := ⟨_, List.getElem?_eq_getElem hlt⟩
      obtain ⟨b, off, rfl, q0, q1, q2⟩ := (HS.out.keepF hcr).atF hx
      have hfk := HF.out wr hcr x (List.mem_of_getElem? hx)
      rw [idJ_step pd hx] at hno
      have HN : Hid ((if pd x then (k : Int) else idJ pd (k + 1) (xs.drop (k + 1))) = ans) := hno
      clear hno hx
      obtain ⟨bq, hbq⟩ : ∃ q, pd x = q := ⟨_, rfl⟩
      rw [hbq] at hfk HN
      clear hbq
      cases bq with
      | true =>
        go_wp2_with (first
          | (go_at_call 220; (with_reducible refine hfk.mono ?_); rintro e w3 ⟨rfl, c3⟩)
          | fail)
        go_ret
        exact ⟨by rw [← HN.out]; rfl, hcr.trans c3⟩
      | false =>
        go_wp2_with (first
          | (go_at_call 220; (with_reducible refine hfk.mono ?_); rintro e w3 ⟨rfl, c3⟩)
          | fail)
        go_roundw
        case rel => exact ⟨k + 1, by omega, by go_num, by rw [← HN.out]; rfl, hcr.trans c3⟩
        case measure => simp [intOf]; omega
    · obtain rfl : k = xs.length := by omega
      rw [List.drop_length] at hno
      subst hno
      go_wp2_with fail
      go_ret
      exact ⟨rfl, hcr⟩

set_option maxHeartbeats 1000000 in
theorem coF220 (pd : Fld → Bool) (xs : List Fld) (v : Value) (w : World) (hv : Sl 3 RF w v xs) (hf : ∀ w', Ch w w' → ∀ x ∈ xs, Calls Tryz.prog 220 #[.agg #[.string x.n, .string x.d, .bool x.st]] w' fun e w2 => e = .returned (.bool (pd x)) ∧ Ch w' w2) :
    Calls Tryz.prog 222 #[v, .func (.func 220) #[] #[]] w fun e w' => e = .returned (.bool (xs.any pd)) ∧ Ch w w' := by
  have hi := ixF220 pd xs v w hv hf
  rw [← idI_any]
  obtain ⟨ao, c, rfl, hc1, hc2⟩ := hv.form
  clear hv hf
  generalize idI pd xs = r at *
  go_enter Tryz.func222, Tryz.ntmps222
  go_wp2_with (first
    | (go_at_call 198; (with_reducible refine hi.mono ?_); rintro e w3 ⟨rfl, c3⟩)
    | fail)
  go_ret
  exact ⟨rfl, c3⟩

set_option maxHeartbeats 4000000 in
theorem ixM221 (pd : Mth → Bool) (xs : List Mth) (v : Value) (w : World) (hv : Sl 8 RM w v xs) (hf : ∀ w', Ch w w' → ∀ x ∈ xs, ∀ vc vh, Sl 6 RI w' vc x.code → Sl 4 RH w' vh x.hs → Calls Tryz.prog 221 #[.agg #[.string x.n, .string x.d, .bool x.st, .bool x.ab, .int .i64 x.sk, .int .i64 x.lo, vc, vh]] w' fun e w2 => e = .returned (.bool (pd x)) ∧ Ch w' w2) :
    Calls Tryz.prog 200 #[v, .func (.func 221) #[] #[]] w fun e w' => e = .returned (.int .i64 (idI pd xs)) ∧ Ch w w' := by
  obtain ⟨ao, c, rfl, hc1, hc2⟩ := hv.form
  have HS : Hid (Sl 8 RM w (.slice ao xs.length c) xs) := hv
  have HF : Hid (∀ w', Ch w w' → ∀ x ∈ xs, ∀ vc vh, Sl 6 RI w' vc x.code → Sl 4 RH w' vh x.hs → Calls Tryz.prog 221 #[.agg #[.string x.n, .string x.d, .bool x.st, .bool x.ab, .int .i64 x.sk, .int .i64 x.lo, vc, vh]] w' fun e w2 => e = .returned (.bool (pd x)) ∧ Ch w' w2) := hf
  clear hv hf
  obtain ⟨ans, hans⟩ : ∃ q, idI pd xs = q := ⟨_, rfl⟩
  rw [hans]
  have HA : Hid (idJ pd 0 (xs.drop 0) = ans) := hans
  clear hans
  go_enter Tryz.func200, Tryz.ntmps200
  go_wp2_with fail
  go_loopw [8] (fun i wr => ∃ k : Nat, k ≤ xs.length ∧ i = .int .i64 k ∧ idJ pd k (xs.drop k) = ans ∧ Ch w wr) (fun i _ => xs.length - (intOf i).toNat)
  case atStart => exact ⟨0, Nat.zero_le _, rfl, HA.out, Ch.refl _⟩
  case round =>
    obtain ⟨k, hk, rfl, hno, hcr⟩ := hrel
    by_cases hlt : k < xs.length
    · obtain ⟨x, hx⟩ : ∃ x, xs[k]? = some x := ⟨_, List.getElem?_eq_getElem hlt⟩
      obtain ⟨b, off, vc, vh, rfl, s1, s2, q0, q1, q2, q3, q4, q5, q6, q7⟩ := (HS.out.keepM hcr).atM hx
      have hfk := HF.out wr hcr x (List.mem_of_getElem? hx) vc vh s1 s2
      obtain ⟨ac, cc, rfl, _, _⟩ := s1.form
      obtain ⟨ah, chh, rfl, _, _⟩ := s2.form
      clear s1 s2
      rw [idJ_step pd hx] at hno
      have HN : Hid ((if pd x then (k : Int) else idJ pd (k + 1) (xs.drop (k + 1))) = ans) := hno
      clear hno hx
      obtain ⟨bq, hbq⟩ : ∃ q, pd x = q := ⟨_, rfl⟩
      rw [hbq] at hfk HN
      clear hbq
      cases bq with
      | true =>
        go_wp2_with (first
          | (go_at_call 221; (with_reducible refine hfk.mono ?_); rintro e w3 ⟨rfl, c3⟩)
          | fail)
        go_ret
        exact ⟨by rw [← HN.out]; rfl, hcr.trans c3⟩
      | false =>
        go_wp2_with (first
          | (go_at_call 221; (with_reducible refine hfk.mono ?_); rintro e w3 ⟨rfl, c3⟩)
          | fail)
        go_roundw
        case rel => exact ⟨k + 1, by omega, by go_num, by rw [← HN.out]; rfl, hcr.trans c3⟩
        case measure => simp [intOf]; omega
    · obtain rfl : k = xs.length := by omega
      rw [List.drop_length] at hno
      subst hno
      go_wp2_with fail
      go_ret
      exact ⟨rfl, hcr⟩

set_option maxHeartbeats 1000000 in
theorem coM221 (pd : Mth → Bool) (xs : List Mth) (v : Value) (w : World) (hv : Sl 8 RM w v xs) (hf : ∀ w', Ch w w' → ∀ x ∈ xs, ∀ vc vh, Sl 6 RI w' vc x.code → Sl 4 RH w' vh x.hs → Calls Tryz.prog 221 #[.agg #[.string x.n, .string x.d, .bool x.st, .bool x.ab, .int .i64 x.sk, .int .i64 x.lo, vc, vh]] w' fun e w2 => e = .returned (.bool (pd x)) ∧ Ch w' w2) :
    Calls Tryz.prog 223 #[v, .func (.func 221) #[] #[]] w fun e w' => e = .returned (.bool (xs.any pd)) ∧ Ch w w' := by
  have hi := ixM221 pd xs v w hv hf
  rw [← idI_any]
  obtain ⟨ao, c, rfl, hc1, hc2⟩ := hv.form
  clear hv hf
  generalize idI pd xs = r at *
  go_enter Tryz.func223, Tryz.ntmps223
  go_wp2_with (first
    | (go_at_call 200; (with_reducible refine hi.mono ?_); rintro e w3 ⟨rfl, c3⟩)
    | fail)
  go_ret
  exact ⟨rfl, c3⟩

set_option maxHeartbeats 4000000 in
theorem ixM224 (pd : Mth → Bool) (xs : List Mth) (v : Value) (w : World) (hv : Sl 8 RM w v xs) (hf : ∀ w', Ch w w' → ∀ x ∈ xs, ∀ vc vh, Sl 6 RI w' vc x.code → Sl 4 RH w' vh x.hs → Calls Tryz.prog 224 #[.agg #[.string x.n, .string x.d, .bool x.st, .bool x.ab, .int .i64 x.sk, .int .i64 x.lo, vc, vh]] w' fun e w2 => e = .returned (.bool (pd x)) ∧ Ch w' w2) :
    Calls Tryz.prog 200 #[v, .func (.func 224) #[] #[]] w fun e w' => e = .returned (.int .i64 (idI pd xs)) ∧ Ch w w' := by
  obtain ⟨ao, c, rfl, hc1, hc2⟩ := hv.form
  have HS : Hid (Sl 8 RM w (.slice ao xs.length c) xs) := hv
  have HF : Hid (∀ w', Ch w w' → ∀ x ∈ xs, ∀ vc vh, Sl 6 RI w' vc x.code → Sl 4 RH w' vh x.hs → Calls Tryz.prog 224 #[.agg #[.string x.n, .string x.d, .bool x.st, .bool x.ab, .int .i64 x.sk, .int .i64 x.lo, vc, vh]] w' fun e w2 => e = .returned (.bool (pd x)) ∧ Ch w' w2) := hf
  clear hv hf
  obtain ⟨ans, hans⟩ : ∃ q, idI pd xs = q := ⟨_, rfl⟩
  rw [hans]
  have HA : Hid (idJ pd 0 (xs.drop 0) = ans) := hans
  clear hans
  go_enter Tryz.func200, Tryz.ntmps200
  go_wp2_with fail
  go_loopw [8] (fun i wr => ∃ k : Nat, k ≤ xs.length ∧ i = .int .i64 k ∧ idJ pd k (xs.drop k) = ans ∧ Ch w wr) (fun i _ => xs.length - (intOf i).toNat)
  case atStart => exact ⟨0, Nat.zero_le _, rfl, HA.out, Ch.refl _⟩
  case round =>
    obtain ⟨k, hk, rfl, hno, hcr⟩ := hrel
    by_cases hlt : k < xs.length
    · obtain ⟨x, hx⟩ : ∃ x, xs[k]? = some x := ⟨_, List.getElem?_eq_getElem hlt⟩
      obtain ⟨b, off, vc, vh, rfl, s1, s2, q0, q1, q2, q3, q4, q5, q6, q7⟩ := (HS.out.keepM hcr).atM hx
      have hfk := HF.out wr hcr x (List.mem_of_getElem? hx) vc vh s1 s2
      obtain ⟨ac, cc, rfl, _, _⟩ := s1.form
      obtain ⟨ah, chh, rfl, _, _⟩ := s2.form
      clear s1 s2
      rw [idJ_step pd hx] at hno
      have HN : Hid ((if pd x then (k : Int) else idJ pd (k + 1) (xs.drop (k + 1))) = ans) := hno
      clear hno hx
      obtain ⟨bq, hbq⟩ : ∃ q, pd x = q := ⟨_, rfl⟩
      rw [hbq] at hfk HN
      clear hbq
      cases bq with
      | true =>
        go_wp2_with (first
          | (go_at_call 224; (with_reducible refine hfk.mono ?_); rintro e w3 ⟨rfl, c3⟩)
          | fail)
        go_ret
        exact ⟨by rw [← HN.out]; rfl, hcr.trans c3⟩
      | false =>
        go_wp2_with (first
          | (go_at_call 224; (with_reducible refine hfk.mono ?_); rintro e w3 ⟨rfl, c3⟩)
          | fail)
        go_roundw
        case rel => exact ⟨k + 1, by omega, by go_num, by rw [← HN.out]; rfl, hcr.trans c3⟩
        case measure => simp [intOf]; omega
    · obtain rfl : k = xs.length := by omega
      rw [List.drop_length] at hno
      subst hno
      go_wp2_with fail
      go_ret
      exact ⟨rfl, hcr⟩

set_option maxHeartbeats 1000000 in
theorem coM224 (pd : Mth → Bool) (xs : List Mth) (v : Value) (w : World) (hv : Sl 8 RM w v xs) (hf : ∀ w', Ch w w' → ∀ x ∈ xs, ∀ vc vh, Sl 6 RI w' vc x.code → Sl 4 RH w' vh x.hs → Calls Tryz.prog 224 #[.agg #[.string x.n, .string x.d, .bool x.st, .bool x.ab, .int .i64 x.sk, .int .i64 x.lo, vc, vh]] w' fun e w2 => e = .returned (.bool (pd x)) ∧ Ch w' w2) :
    Calls Tryz.prog 223 #[v, .func (.func 224) #[] #[]] w fun e w' => e = .returned (.bool (xs.any pd)) ∧ Ch w w' := by
  have hi := ixM224 pd xs v w hv hf
  rw [← idI_any]
  obtain ⟨ao, c, rfl, hc1, hc2⟩ := hv.form
  clear hv hf
  generalize idI pd xs = r at *
  go_enter Tryz.func223, Tryz.ntmps223
  go_wp2_with (first
    | (go_at_call 200; (with_reducible refine hi.mono ?_); rintro e w3 ⟨rfl, c3⟩)
    | fail)
  go_ret
  exact ⟨rfl, c3⟩

theorem nst_any (x : Fld) (w : World) : Calls Tryz.prog 220 #[.agg #[.string x.n, .string x.d, .bool x.st]] w fun e w' => e = .returned (.bool (!x.st)) ∧ Ch w w' := by
  go_enter Tryz.func220, Tryz.ntmps220
  go_wp2
  go_ret
  exact ⟨rfl, (Ch.refl w).alloc _⟩
theorem abs_any (x : Mth) (a1 : Option Addr) (n1 c1 : Nat) (a2 : Option Addr) (n2 c2 : Nat) (w : World) : Calls Tryz.prog 224 #[.agg #[.string x.n, .string x.d, .bool x.st, .bool x.ab, .int .i64 x.sk, .int .i64 x.lo, .slice a1 n1 c1, .slice a2 n2 c2]] w fun e w' => e = .returned (.bool x.ab) ∧ Ch w w' := by
  go_enter Tryz.func224, Tryz.ntmps224
  go_wp2
  go_ret
  exact ⟨rfl, (Ch.refl w).alloc _⟩
set_option maxHeartbeats 1000000 in
theorem code_any (x : Mth) (a1 : Option Addr) (n1 c1 : Nat) (a2 : Option Addr) (n2 c2 : Nat) (w : World) : Calls Tryz.prog 221 #[.agg #[.string x.n, .string x.d, .bool x.st, .bool x.ab, .int .i64 x.sk, .int .i64 x.lo, .slice a1 n1 c1, .slice a2 n2 c2]] w fun e w' => e = .returned (.bool (!x.ab && !nq x.n nClinit)) ∧ Ch w w' := by
  obtain ⟨xn, xd, xst, xab, xsk, xlo, xc, xh⟩ := x
  dsimp only
  have hq : (xn.toList == [60, 99, 108, 105, 110, 105, 116, 62]) = nq xn nClinit := by rw [bl_toList]; rfl
  generalize nq xn nClinit = r at *
  have hq2 : (xn.toList != [60, 99, 108, 105, 110, 105, 116, 62]) = !r := by rw [← hq]; rfl
  cases xab <;> cases r <;>
  · try rw [Bool.not_true] at hq2
    try rw [Bool.not_false] at hq2
    go_enter Tryz.func221, Tryz.ntmps221
    go_wp2
    go_ret
    exact ⟨rfl, (Ch.refl w).alloc _⟩

set_option maxHeartbeats 4000000 in
theorem fitConcrete_any (c : Cls) (vi vf vm : Value) (vp : Value) (w : World) (hc : ClsAt w c vi vf vm) :
    Calls Tryz.prog 160 #[vp, .agg #[.string c.n, .string c.s, .bool c.it, .bool c.ab, vi, vf, vm]] w fun e w' => e = .returned (.bool (k6 c)) ∧ Ch w w' := by
  have hco : ∀ w', Ch w w' → Calls Tryz.prog 223 #[vm, .func (.func 224) #[] #[]] w' fun e w2 => e = .returned (.bool (c.me.any (·.ab))) ∧ Ch w' w2 := fun w' k => coM224 (·.ab) c.me vm w' (hc.2.2.keepM k) (fun w2 k2 x _ vc vh s1 s2 => by
    obtain ⟨a1, c1, rfl, _, _⟩ := s1.form
    obtain ⟨a2, c2, rfl, _, _⟩ := s2.form
    exact abs_any x a1 _ c1 a2 _ c2 w2)
  obtain ⟨ai, ci, rfl, _, _⟩ := hc.1.form
  obtain ⟨af, cf, rfl, _, _⟩ := hc.2.1.form
  obtain ⟨am, cm, rfl, _, _⟩ := hc.2.2.form
  clear hc
  obtain ⟨cn, cs, it, ab, im, fs, me⟩ := c
  unfold k6
  dsimp only at *
  have HC : Hid (∀ w', Ch w w' → Calls Tryz.prog 223 #[.slice am me.length cm, .func (.func 224) #[] #[]] w' fun e w2 => e = .returned (.bool (me.any (·.ab))) ∧ Ch w' w2) := hco
  have hca := (Ch.refl w).alloc (.cells #[.string cn, .string cs, .bool it, .bool ab, .slice ai im.length ci, .slice af fs.length cf, .slice am me.length cm] 41)
  clear hco
  generalize me.any (·.ab) = r at *
  cases ab <;> cases r <;>
  · go_enter Tryz.func160, Tryz.ntmps160
    go_wp2_with (first
      | (go_at_call 223; (with_reducible refine (HC.out _ hca).mono ?_); rintro e w3 ⟨rfl, c3⟩)
      | fail)
    go_ret
    first | exact ⟨rfl, hca⟩ | exact ⟨rfl, hca.trans c3⟩

set_option maxHeartbeats 8000000 in
theorem fitInterface_any (c : Cls) (vi vf vm : Value) (vp : Value) (w : World) (hc : ClsAt w c vi vf vm) :
    Calls Tryz.prog 159 #[vp, .agg #[.string c.n, .string c.s, .bool c.it, .bool c.ab, vi, vf, vm]] w fun e w' => e = .returned (.bool (k5 c)) ∧ Ch w w' := by
  have hco : ∀ w', Ch w w' → Calls Tryz.prog 223 #[vm, .func (.func 221) #[] #[]] w' fun e w2 => e = .returned (.bool (c.me.any fun m => !m.ab && !nq m.n nClinit)) ∧ Ch w' w2 := fun w' k => coM221 (fun m => !m.ab && !nq m.n nClinit) c.me vm w' (hc.2.2.keepM k) (fun w2 k2 x _ vc vh s1 s2 => by
    obtain ⟨a1, c1, rfl, _, _⟩ := s1.form
    obtain ⟨a2, c2, rfl, _, _⟩ := s2.form
    exact code_any x a1 _ c1 a2 _ c2 w2)
  have hcf : ∀ w', Ch w w' → Calls Tryz.prog 222 #[vf, .func (.func 220) #[] #[]] w' fun e w2 => e = .returned (.bool (c.fs.any fun f => !f.st)) ∧ Ch w' w2 := fun w' k => coF220 (fun f => !f.st) c.fs vf w' (hc.2.1.keepF k) (fun w2 k2 x _ => nst_any x w2)
  obtain ⟨ai, ci, rfl, _, _⟩ := hc.1.form
  obtain ⟨af, cf, rfl, _, _⟩ := hc.2.1.form
  obtain ⟨am, cm, rfl, _, _⟩ := hc.2.2.form
  clear hc
  obtain ⟨cn, cs, it, ab, im, fs, me⟩ := c
  unfold k5
  dsimp only at *
  have HC : Hid (∀ w', Ch w w' → Calls Tryz.prog 223 #[.slice am me.length cm, .func (.func 221) #[] #[]] w' fun e w2 => e = .returned (.bool (me.any fun m => !m.ab && !nq m.n nClinit)) ∧ Ch w' w2) := hco
  have HF : Hid (∀ w', Ch w w' → Calls Tryz.prog 222 #[.slice af fs.length cf, .func (.func 220) #[] #[]] w' fun e w2 => e = .returned (.bool (fs.any fun f => !f.st)) ∧ Ch w' w2) := hcf
  have hB : Bo w w.heap.size 41 #[.string cn, .string cs, .bool it, .bool ab, .slice ai im.length ci, .slice af fs.length cf, .slice am me.length cm] _ := Bo.new (Ch.refl w) _ _
  have HB : Hid (∀ w', Ch (w.alloc (.cells #[.string cn, .string cs, .bool it, .bool ab, .slice ai im.length ci, .slice af fs.length cf, .slice am me.length cm] 41)) w' → w'.cell? ⟨w.heap.size, 6, none⟩ = some (.slice am me.length cm)) := fun w' k => (hB.call k).c 6 rfl
  have hca := hB.ch
  clear hco hcf hB
  generalize (me.any fun m => !m.ab && !nq m.n nClinit) = r at *
  generalize (fs.any fun f => !f.st) = q at *
  cases it <;> cases ab <;> cases q <;> cases r <;>
  · go_enter Tryz.func159, Tryz.ntmps159
    go_wp2_with (first
      | (go_at_call 222; (with_reducible refine (HF.out _ hca).mono ?_); rintro e w3 ⟨rfl, c3⟩; have b6 := HB.out w3 c3)
      | (go_at_call 223; (with_reducible refine (HC.out _ (hca.trans c3)).mono ?_); rintro e w4 ⟨rfl, c4⟩)
      | fail)
    go_ret
    first | exact ⟨rfl, hca⟩ | exact ⟨rfl, hca.trans c3⟩ | exact ⟨rfl, (hca.trans c3).trans c4⟩
end Go.Proofs.YthmepecmeambmaaGreat
