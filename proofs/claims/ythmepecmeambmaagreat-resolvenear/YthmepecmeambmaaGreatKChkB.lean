/- Whether names, fields, handlers may be; the first fault of a row. -/
/- The faults of handlers and of instructions. -/
import Derived.Test.YthmepecmeambmaaGreatKPoolE
namespace Go.Proofs.YthmepecmeambmaaGreat
open Go.RowKit
set_option linter.unusedVariables false

/-- The first fault of a row; 0: none. -/
def firstF {α : Type} (f : α → Int) : List α → Int
  | [] => 0
  | x :: r => if f x = 0 then firstF f r else f x
theorem firstF_step {α : Type} (f : α → Int) {xs : List α} {k : Nat} {a : α} (h : xs[k]? = some a) : firstF f (xs.drop k) = if f a = 0 then firstF f (xs.drop (k + 1)) else f a := by
  obtain ⟨h1, e1⟩ := List.getElem?_eq_some_iff.1 h
  rw [List.drop_eq_getElem_cons h1, e1, firstF]
theorem firstF_end {α : Type} (f : α → Int) {xs : List α} {k : Nat} (h : xs.length ≤ k) : firstF f (xs.drop k) = 0 := by
  rw [List.drop_eq_nil_of_le h, firstF]

def nmE (s : ByteArray) : Int := if isName (bl s) then 0 else 6
def empOr (s : ByteArray) : Bool := (bl s == []) || isName (bl s)
def fldE (f : Fld) : Int := if isName (bl f.n) && isType (bl f.d) then 0 else 6
def hndE (len : Int) (h : Hnd) : Int := if decide (h.fr < 0) || decide (h.to ≤ h.fr) || decide (len < h.to) || decide (h.pl < 0) || decide (len ≤ h.pl) then 4 else if empOr h.c then 0 else 6

theorem checkName_any (s : ByteArray) (w : World) (hs : s.size ≤ 100000) : Calls Tryz.prog 206 #[.string s] w fun e w' => e = .returned (.int .i64 (nmE s)) ∧ Ch w w' := by
  have hn := fun w0 => name_any s w0 hs
  unfold nmE
  generalize isName (bl s) = b at *
  cases b
  all_goals
    go_enter Tryz.func206, Tryz.ntmps206
    go_wp2_with (first
      | (go_at_call 203; (with_reducible refine (hn _).mono ?_); rintro e w2 ⟨rfl, hw⟩; have hw := hw.symm; subst hw))
    go_ret
    exact ⟨rfl, Ch.refl _⟩
theorem emptyOr_any (s : ByteArray) (w : World) (hs : s.size ≤ 100000) : Calls Tryz.prog 204 #[.string s] w fun e w' => e = .returned (.bool (empOr s)) ∧ Ch w w' := by
  have hn := fun w0 => name_any s w0 hs
  unfold empOr
  have h0 : (s.toList == []) = (bl s == []) := by rw [bl_toList]
  rw [← h0]
  clear h0
  generalize isName (bl s) = b at *
  obtain ⟨q, hq⟩ : ∃ q, (s.toList == []) = q := ⟨_, rfl⟩
  rw [hq]
  cases q
  all_goals
    go_enter Tryz.func204, Tryz.ntmps204
    go_wp2_with (first
      | (go_at_call 203; (with_reducible refine (hn _).mono ?_); rintro e w2 ⟨rfl, hw⟩; have hw := hw.symm; subst hw))
    go_ret
    exact ⟨rfl, Ch.refl _⟩
theorem checkField_any (x : Fld) (w : World) (h1 : x.n.size ≤ 100000) (h2 : x.d.size ≤ 100000) : Calls Tryz.prog 145 #[.agg #[.string x.n, .string x.d, .bool x.st]] w fun e w' => e = .returned (.int .i64 (fldE x)) ∧ Ch w w' := by
  have hn := fun w0 => name_any x.n w0 h1
  have ht := fun w0 => type_any x.d w0 h2
  unfold fldE
  generalize isName (bl x.n) = b1 at *
  generalize isType (bl x.d) = b2 at *
  cases b1 <;> cases b2
  all_goals
    go_enter Tryz.func145, Tryz.ntmps145
    go_wp2_with (first
      | (go_at_call 203; (with_reducible refine (hn _).mono ?_); rintro e w2 ⟨rfl, hw⟩; have hw := hw.symm; subst hw)
      | (go_at_call 119; (with_reducible refine (ht _).mono ?_); rintro e w2 ⟨rfl, hw⟩; have hw := hw.symm; subst hw))
    go_ret
    exact ⟨rfl, (Ch.refl _).alloc _⟩

set_option maxHeartbeats 2000000 in
theorem firstS_any (xs : List ByteArray) (v : Value) (w : World) (hx : Sl 1 RS w v xs) (hsz : ∀ s ∈ xs, s.size ≤ 100000) :
    Calls Tryz.prog 205 #[v, .func (.func 206) #[] #[]] w fun e w' => e = .returned (.int .i64 (firstF nmE xs)) ∧ Ch w w' := by
  obtain ⟨ax, cx, rfl, hx1, hx2⟩ := hx.form
  obtain ⟨r, hr⟩ : ∃ r, firstF nmE xs = r := ⟨_, rfl⟩
  rw [hr]
  go_enter Tryz.func205, Tryz.ntmps205
  go_wp2
  go_loopw [10] (fun i wr => ∃ k : Nat, k ≤ xs.length ∧ i = .int .i64 k ∧ firstF nmE (xs.drop k) = r ∧ Ch w wr) (fun i _ => xs.length - (intOf i).toNat)
  case atStart => exact ⟨0, Nat.zero_le _, rfl, by simpa using hr, Ch.refl _⟩
  case round =>
    clear hr
    obtain ⟨k, hk, rfl, hd, hcr⟩ := hrel
    by_cases hlt : k < xs.length
    · obtain ⟨x, hxk⟩ : ∃ a, xs[k]? = some a := ⟨_, List.getElem?_eq_getElem hlt⟩
      have hxs := hsz x (List.mem_of_getElem? hxk)
      obtain ⟨b, off, hao, d0⟩ := (hx.keepS hcr).atS hxk
      have hc := fun w0 => checkName_any x w0 hxs
      rw [firstF_step nmE hxk] at hd
      have HD : Hid ((if nmE x = 0 then firstF nmE (xs.drop (k + 1)) else nmE x) = r) := hd
      clear hd hxk
      subst hao
      obtain ⟨q, hq⟩ : ∃ q, nmE x = q := ⟨_, rfl⟩
      rw [hq] at hc HD
      clear hq
      by_cases h0 : q = 0
      · subst h0
        go_wp2_with (first
          | (go_at_call 206; (with_reducible refine (hc _).mono ?_); rintro e w3 ⟨rfl, hc3⟩))
        go_roundw
        case rel => exact ⟨k + 1, by omega, by go_num, by simpa using HD.out, hcr.trans hc3⟩
        case measure => simp [intOf]; omega
      · have t0 : (q == 0) = false := by simpa using h0
        go_wp2_with (first
          | (go_at_call 206; (with_reducible refine (hc _).mono ?_); rintro e w3 ⟨rfl, hc3⟩))
        go_ret
        have e := HD.out
        rw [if_neg h0] at e
        exact ⟨congrArg (fun b => Ending.returned (.int .i64 b)) e, hcr.trans hc3⟩
    · obtain rfl : k = xs.length := by omega
      rw [firstF_end nmE (Nat.le_refl _)] at hd
      subst hd
      go_wp2
      go_ret
      exact ⟨rfl, hcr⟩

set_option maxHeartbeats 2000000 in
theorem firstFs_any (xs : List Fld) (v : Value) (w : World) (hx : Sl 3 RF w v xs) (hsz : ∀ f ∈ xs, f.n.size ≤ 100000 ∧ f.d.size ≤ 100000) :
    Calls Tryz.prog 144 #[v, .func (.func 145) #[] #[]] w fun e w' => e = .returned (.int .i64 (firstF fldE xs)) ∧ Ch w w' := by
  obtain ⟨ax, cx, rfl, hx1, hx2⟩ := hx.form
  obtain ⟨r, hr⟩ : ∃ r, firstF fldE xs = r := ⟨_, rfl⟩
  rw [hr]
  go_enter Tryz.func144, Tryz.ntmps144
  go_wp2
  go_loopw [10] (fun i wr => ∃ k : Nat, k ≤ xs.length ∧ i = .int .i64 k ∧ firstF fldE (xs.drop k) = r ∧ Ch w wr) (fun i _ => xs.length - (intOf i).toNat)
  case atStart => exact ⟨0, Nat.zero_le _, rfl, by simpa using hr, Ch.refl _⟩
  case round =>
    clear hr
    obtain ⟨k, hk, rfl, hd, hcr⟩ := hrel
    by_cases hlt : k < xs.length
    · obtain ⟨x, hxk⟩ : ∃ a, xs[k]? = some a := ⟨_, List.getElem?_eq_getElem hlt⟩
      have hxs := hsz x (List.mem_of_getElem? hxk)
      obtain ⟨b, off, hao, d0, d1, d2⟩ := (hx.keepF hcr).atF hxk
      have hc := fun w0 => checkField_any x w0 hxs.1 hxs.2
      rw [firstF_step fldE hxk] at hd
      have HD : Hid ((if fldE x = 0 then firstF fldE (xs.drop (k + 1)) else fldE x) = r) := hd
      clear hd hxk
      subst hao
      obtain ⟨q, hq⟩ : ∃ q, fldE x = q := ⟨_, rfl⟩
      rw [hq] at hc HD
      clear hq
      by_cases h0 : q = 0
      · subst h0
        go_wp2_with (first
          | (go_at_call 145; (with_reducible refine (hc _).mono ?_); rintro e w3 ⟨rfl, hc3⟩))
        go_roundw
        case rel => exact ⟨k + 1, by omega, by go_num, by simpa using HD.out, (hcr.alloc _).trans hc3⟩
        case measure => simp [intOf]; omega
      · have t0 : (q == 0) = false := by simpa using h0
        go_wp2_with (first
          | (go_at_call 145; (with_reducible refine (hc _).mono ?_); rintro e w3 ⟨rfl, hc3⟩))
        go_ret
        have e := HD.out
        rw [if_neg h0] at e
        exact ⟨congrArg (fun b => Ending.returned (.int .i64 b)) e, (hcr.alloc _).trans hc3⟩
    · obtain rfl : k = xs.length := by omega
      rw [firstF_end fldE (Nat.le_refl _)] at hd
      subst hd
      go_wp2
      go_ret
      exact ⟨rfl, hcr⟩

/-- The first of few that is not 0. -/
def orL : List Int → Int
  | [] => 0
  | x :: r => if x = 0 then orL r else x
theorem orL_step {xs : List Int} {k : Nat} {a : Int} (h : xs[k]? = some a) : orL (xs.drop k) = if a = 0 then orL (xs.drop (k + 1)) else a := by
  obtain ⟨h1, e1⟩ := List.getElem?_eq_some_iff.1 h
  rw [List.drop_eq_getElem_cons h1, e1, orL]
set_option maxHeartbeats 2000000 in
theorem or_any (xs : List Int) (g n : Nat) (w : World) (hg : w.heap[g]? = some (.cells (xs.map (Value.int .i64)).toArray 26)) (hn : n = xs.length) (hl : n ≤ 100) :
    Calls Tryz.prog 142 #[.slice (some ⟨g, 0, none⟩) n n] w fun e w' => e = .returned (.int .i64 (orL xs)) ∧ w' = w := by
  obtain ⟨r, hr⟩ : ∃ r, orL xs = r := ⟨_, rfl⟩
  rw [hr]
  have HG : Hid (∀ (k : Nat) (x : Int), xs[k]? = some x → w.cell? ⟨g, k, none⟩ = some (.int .i64 x)) := fun k x hk => by simp [World.cell?, hg, hk]
  have HN : Hid (n = xs.length) := hn
  clear hg hn
  go_enter Tryz.func142, Tryz.ntmps142
  go_wp2
  go_loop [8] (fun i => ∃ k : Nat, k ≤ n ∧ i = .int .i64 k ∧ orL (xs.drop k) = r) (fun i => n - (intOf i).toNat)
  case atStart => exact ⟨0, Nat.zero_le _, rfl, by simpa using hr⟩
  case round =>
    clear hr
    obtain ⟨k, hk, rfl, hd⟩ := hrel
    by_cases hlt : k < n
    · obtain ⟨x, hxk⟩ : ∃ a, xs[k]? = some a := ⟨_, List.getElem?_eq_getElem (by rw [← HN.out]; exact hlt)⟩
      have d0 := HG.out k x hxk
      rw [orL_step hxk] at hd
      have HD : Hid ((if x = 0 then orL (xs.drop (k + 1)) else x) = r) := hd
      clear hd hxk
      have ad : (⟨g, 0, none⟩ : Addr).add k = ⟨g, k, none⟩ := by unfold Addr.add; split <;> simp_all
      by_cases h0 : x = 0
      · subst h0
        go_wp2
        exact ⟨⟨k + 1, by omega, rfl, by simpa using HD.out⟩, by simp [intOf]; omega⟩
      · have t0 : (x == 0) = false := by simpa using h0
        go_wp2
        go_ret
        have e := HD.out
        rw [if_neg h0] at e
        exact ⟨congrArg (fun b => Ending.returned (.int .i64 b)) e, rfl⟩
    · obtain rfl : k = n := by omega
      rw [List.drop_eq_nil_of_le (by rw [← HN.out]; exact Nat.le_refl _), orL] at hd
      subst hd
      go_wp2
      go_ret
      exact ⟨rfl, rfl⟩
end Go.Proofs.YthmepecmeambmaaGreat
namespace Go.Proofs.YthmepecmeambmaaGreat
open Go.RowKit
set_option linter.unusedVariables false

set_option maxHeartbeats 4000000 in
theorem checkHandler_any (x : Hnd) (len : Int) (w : World) (hs : x.c.size ≤ 100000) : Calls Tryz.prog 276 #[.agg #[.int .i64 x.fr, .int .i64 x.to, .int .i64 x.pl, .string x.c], .int .i64 len] w fun e w' => e = .returned (.int .i64 (hndE len x)) ∧ Ch w w' := by
  have hn := fun w0 => emptyOr_any x.c w0 hs
  obtain ⟨r, hr⟩ : ∃ r, hndE len x = r := ⟨_, rfl⟩
  rw [hr]
  unfold hndE at hr
  generalize empOr x.c = b at *
  have HR : Hid (_ = r) := hr
  clear hr
  go_enter Tryz.func276, Tryz.ntmps276
  go_wp2_with (first
    | (go_at_call 204; (with_reducible refine (hn _).mono ?_); rintro e w2 ⟨rfl, hc2⟩))
  all_goals go_ret
  all_goals
    refine ⟨congrArg (fun b => Ending.returned (.int .i64 b)) ?_, ?_⟩
    · rw [← HR.out]
      clear hn HR
      first | (simp_all; done) | (simp_all; omega)
    · first
        | exact ((Ch.refl w).alloc _).trans hc2
        | exact (Ch.refl w).alloc _

theorem clos70_any (x : Hnd) (len : Int) (g : Nat) (w : World) (hs : x.c.size ≤ 100000) (hg : w.cell? ⟨g, 0, none⟩ = some (.int .i64 len)) : Calls Tryz.prog 275 #[.agg #[.int .i64 x.fr, .int .i64 x.to, .int .i64 x.pl, .string x.c], .pointer (some ⟨g, 0, none⟩)] w fun e w' => e = .returned (.int .i64 (hndE len x)) ∧ Ch w w' := by
  have hn := fun w0 => checkHandler_any x len w0 hs
  have hl : g < w.heap.size := World.block_lt_of_cell? _ _ hg
  go_enter Tryz.func275, Tryz.ntmps275
  go_wp2_with (first
    | (go_at_call 276; (with_reducible refine (hn _).mono ?_); rintro e w2 ⟨rfl, hc2⟩))
  go_ret
  exact ⟨rfl, ((Ch.refl w).alloc _).trans hc2⟩
def insE (len loc : Int) (x : Ins) : Int := chk (kd (ix x.op)) x.op x.a x.b (bl x.c) (bl x.n) (bl x.d) len loc
theorem clos67_any (x : Ins) (len loc : Int) (g m : Nat) (w : World) (hs : x.c.size ≤ 90000 ∧ x.n.size ≤ 90000 ∧ x.d.size ≤ 90000) (hg : w.cell? ⟨g, 0, none⟩ = some (.int .i64 len)) (hm : w.cell? ⟨m, 5, none⟩ = some (.int .i64 loc)) :
    Calls Tryz.prog 272 #[.agg #[.int .i64 x.op, .int .i64 x.a, .int .i64 x.b, .string x.c, .string x.n, .string x.d], .pointer (some ⟨g, 0, none⟩), .pointer (some ⟨m, 0, none⟩)] w fun e w' => e = .returned (.int .i64 (insE len loc x)) ∧ Ch w w' := by
  have hn := fun w0 => check_any x.op x.a x.b len loc x.c x.n x.d w0 hs.1 hs.2.1 hs.2.2
  unfold insE
  generalize chk (kd (ix x.op)) x.op x.a x.b (bl x.c) (bl x.n) (bl x.d) len loc = r at *
  have hl : g < w.heap.size := World.block_lt_of_cell? _ _ hg
  have hl2 : m < w.heap.size := World.block_lt_of_cell? _ _ hm
  go_enter Tryz.func272, Tryz.ntmps272
  go_wp2_with (first
    | (go_at_call 273; (with_reducible refine (hn _).mono ?_); rintro e w2 ⟨rfl, hc2⟩))
  go_ret
  exact ⟨rfl, ((Ch.refl w).alloc _).trans hc2⟩

set_option maxHeartbeats 2000000 in
theorem firstH_any (xs : List Hnd) (v : Value) (w : World) (hx : Sl 4 RH w v xs) (len : Int) (g : Nat) (hg : w.cell? ⟨g, 0, none⟩ = some (.int .i64 len)) (hsz : ∀ h ∈ xs, h.c.size ≤ 100000) :
    Calls Tryz.prog 274 #[v, .func (.func 275) #[] #[.pointer (some ⟨g, 0, none⟩)]] w fun e w' => e = .returned (.int .i64 (firstF (hndE len) xs)) ∧ Ch w w' := by
  obtain ⟨ax, cx, rfl, hx1, hx2⟩ := hx.form
  obtain ⟨r, hr⟩ : ∃ r, firstF (hndE len) xs = r := ⟨_, rfl⟩
  rw [hr]
  go_enter Tryz.func274, Tryz.ntmps274
  go_wp2
  go_loopw [10] (fun i wr => ∃ k : Nat, k ≤ xs.length ∧ i = .int .i64 k ∧ firstF (hndE len) (xs.drop k) = r ∧ Ch w wr) (fun i _ => xs.length - (intOf i).toNat)
  case atStart => exact ⟨0, Nat.zero_le _, rfl, by simpa using hr, Ch.refl _⟩
  case round =>
    clear hr
    obtain ⟨k, hk, rfl, hd, hcr⟩ := hrel
    by_cases hlt : k < xs.length
    · obtain ⟨x, hxk⟩ : ∃ a, xs[k]? = some a := ⟨_, List.getElem?_eq_getElem hlt⟩
      have hxs := hsz x (List.mem_of_getElem? hxk)
      obtain ⟨b, off, hao, d0, d1, d2, d3⟩ := (hx.keepH hcr).atH hxk
      have hc : ∀ w0, Ch w w0 → _ := fun w0 c => clos70_any x len g w0 hxs (cell_keep c hg)
      rw [firstF_step (hndE len) hxk] at hd
      have HD : Hid ((if hndE len x = 0 then firstF (hndE len) (xs.drop (k + 1)) else hndE len x) = r) := hd
      clear hd hxk
      subst hao
      obtain ⟨q, hq⟩ : ∃ q, hndE len x = q := ⟨_, rfl⟩
      rw [hq] at hc HD
      clear hq
      by_cases h0 : q = 0
      · subst h0
        go_wp2_with (first
          | (go_at_call 275; (with_reducible refine (hc _ (hcr.alloc _)).mono ?_); rintro e w3 ⟨rfl, hc3⟩))
        go_roundw
        case rel => exact ⟨k + 1, by omega, by go_num, by simpa using HD.out, (hcr.alloc _).trans hc3⟩
        case measure => simp [intOf]; omega
      · have t0 : (q == 0) = false := by simpa using h0
        go_wp2_with (first
          | (go_at_call 275; (with_reducible refine (hc _ (hcr.alloc _)).mono ?_); rintro e w3 ⟨rfl, hc3⟩))
        go_ret
        have e := HD.out
        rw [if_neg h0] at e
        exact ⟨congrArg (fun b => Ending.returned (.int .i64 b)) e, (hcr.alloc _).trans hc3⟩
    · obtain rfl : k = xs.length := by omega
      rw [firstF_end (hndE len) (Nat.le_refl _)] at hd
      subst hd
      go_wp2
      go_ret
      exact ⟨rfl, hcr⟩

set_option maxHeartbeats 2000000 in
theorem firstI_any (xs : List Ins) (v : Value) (w : World) (hx : Sl 6 RI w v xs) (len loc : Int) (g m : Nat) (hg : w.cell? ⟨g, 0, none⟩ = some (.int .i64 len)) (hm : w.cell? ⟨m, 5, none⟩ = some (.int .i64 loc)) (hsz : ∀ x ∈ xs, x.c.size ≤ 90000 ∧ x.n.size ≤ 90000 ∧ x.d.size ≤ 90000) :
    Calls Tryz.prog 271 #[v, .func (.func 272) #[] #[.pointer (some ⟨g, 0, none⟩), .pointer (some ⟨m, 0, none⟩)]] w fun e w' => e = .returned (.int .i64 (firstF (insE len loc) xs)) ∧ Ch w w' := by
  obtain ⟨ax, cx, rfl, hx1, hx2⟩ := hx.form
  obtain ⟨r, hr⟩ : ∃ r, firstF (insE len loc) xs = r := ⟨_, rfl⟩
  rw [hr]
  go_enter Tryz.func271, Tryz.ntmps271
  go_wp2
  go_loopw [10] (fun i wr => ∃ k : Nat, k ≤ xs.length ∧ i = .int .i64 k ∧ firstF (insE len loc) (xs.drop k) = r ∧ Ch w wr) (fun i _ => xs.length - (intOf i).toNat)
  case atStart => exact ⟨0, Nat.zero_le _, rfl, by simpa using hr, Ch.refl _⟩
  case round =>
    clear hr
    obtain ⟨k, hk, rfl, hd, hcr⟩ := hrel
    by_cases hlt : k < xs.length
    · obtain ⟨x, hxk⟩ : ∃ a, xs[k]? = some a := ⟨_, List.getElem?_eq_getElem hlt⟩
      have hxs := hsz x (List.mem_of_getElem? hxk)
      obtain ⟨b, off, hao, d0, d1, d2, d3, d4, d5⟩ := (hx.keepI hcr).atI hxk
      have hc : ∀ w0, Ch w w0 → _ := fun w0 c => clos67_any x len loc g m w0 hxs (cell_keep c hg) (cell_keep c hm)
      rw [firstF_step (insE len loc) hxk] at hd
      have HD : Hid ((if insE len loc x = 0 then firstF (insE len loc) (xs.drop (k + 1)) else insE len loc x) = r) := hd
      clear hd hxk
      subst hao
      obtain ⟨q, hq⟩ : ∃ q, insE len loc x = q := ⟨_, rfl⟩
      rw [hq] at hc HD
      clear hq
      by_cases h0 : q = 0
      · subst h0
        go_wp2_with (first
          | (go_at_call 272; (with_reducible refine (hc _ (hcr.alloc _)).mono ?_); rintro e w3 ⟨rfl, hc3⟩))
        go_roundw
        case rel => exact ⟨k + 1, by omega, by go_num, by simpa using HD.out, (hcr.alloc _).trans hc3⟩
        case measure => simp [intOf]; omega
      · have t0 : (q == 0) = false := by simpa using h0
        go_wp2_with (first
          | (go_at_call 272; (with_reducible refine (hc _ (hcr.alloc _)).mono ?_); rintro e w3 ⟨rfl, hc3⟩))
        go_ret
        have e := HD.out
        rw [if_neg h0] at e
        exact ⟨congrArg (fun b => Ending.returned (.int .i64 b)) e, (hcr.alloc _).trans hc3⟩
    · obtain rfl : k = xs.length := by omega
      rw [firstF_end (insE len loc) (Nat.le_refl _)] at hd
      subst hd
      go_wp2
      go_ret
      exact ⟨rfl, hcr⟩

end Go.Proofs.YthmepecmeambmaaGreat
