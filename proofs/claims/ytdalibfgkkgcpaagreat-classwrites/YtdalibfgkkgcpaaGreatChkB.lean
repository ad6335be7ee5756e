/- The faults of handlers and of instructions. -/
import Derived.Test.YtdalibfgkkgcpaaGreatChkA
namespace Go.Proofs.YtdalibfgkkgcpaaGreat
open Go.RowKit
set_option linter.unusedVariables false

set_option maxHeartbeats 4000000 in
theorem checkHandler_any (x : Hnd) (len : Int) (w : World) (hs : x.c.size ≤ 100000) : Calls Tryz.prog 115 #[.agg #[.int .i64 x.fr, .int .i64 x.to, .int .i64 x.pl, .string x.c], .int .i64 len] w fun e w' => e = .returned (.int .i64 (hndE len x)) ∧ Ch w w' := by
  have hn := fun w0 => emptyOr_any x.c w0 hs
  obtain ⟨r, hr⟩ : ∃ r, hndE len x = r := ⟨_, rfl⟩
  rw [hr]
  unfold hndE at hr
  generalize empOr x.c = b at *
  have HR : Hid (_ = r) := hr
  clear hr
  go_enter Tryz.func115, Tryz.ntmps115
  go_wp2_with (first
    | (go_at_call 68; (with_reducible refine (hn _).mono ?_); rintro e w2 ⟨rfl, hc2⟩))
  all_goals go_ret
  all_goals
    refine ⟨congrArg (fun b => Ending.returned (.int .i64 b)) ?_, ?_⟩
    · rw [← HR.out]
      clear hn HR
      first | (simp_all; done) | (simp_all; omega)
    · first
        | exact ((Ch.refl w).alloc _).trans hc2
        | exact (Ch.refl w).alloc _

theorem clos70_any (x : Hnd) (len : Int) (g : Nat) (w : World) (hs : x.c.size ≤ 100000) (hg : w.cell? ⟨g, 0, none⟩ = some (.int .i64 len)) : Calls Tryz.prog 114 #[.agg #[.int .i64 x.fr, .int .i64 x.to, .int .i64 x.pl, .string x.c], .pointer (some ⟨g, 0, none⟩)] w fun e w' => e = .returned (.int .i64 (hndE len x)) ∧ Ch w w' := by
  have hn := fun w0 => checkHandler_any x len w0 hs
  have hl : g < w.heap.size := World.block_lt_of_cell? _ _ hg
  go_enter Tryz.func114, Tryz.ntmps114
  go_wp2_with (first
    | (go_at_call 115; (with_reducible refine (hn _).mono ?_); rintro e w2 ⟨rfl, hc2⟩))
  go_ret
  exact ⟨rfl, ((Ch.refl w).alloc _).trans hc2⟩
def insE (len loc : Int) (x : Ins) : Int := chk (kd (ix x.op)) x.op x.a x.b (bl x.c) (bl x.n) (bl x.d) len loc
theorem clos67_any (x : Ins) (len loc : Int) (g m : Nat) (w : World) (hs : x.c.size ≤ 90000 ∧ x.n.size ≤ 90000 ∧ x.d.size ≤ 90000) (hg : w.cell? ⟨g, 0, none⟩ = some (.int .i64 len)) (hm : w.cell? ⟨m, 5, none⟩ = some (.int .i64 loc)) :
    Calls Tryz.prog 111 #[.agg #[.int .i64 x.op, .int .i64 x.a, .int .i64 x.b, .string x.c, .string x.n, .string x.d], .pointer (some ⟨g, 0, none⟩), .pointer (some ⟨m, 0, none⟩)] w fun e w' => e = .returned (.int .i64 (insE len loc x)) ∧ Ch w w' := by
  have hn := fun w0 => check_any x.op x.a x.b len loc x.c x.n x.d w0 hs.1 hs.2.1 hs.2.2
  unfold insE
  generalize chk (kd (ix x.op)) x.op x.a x.b (bl x.c) (bl x.n) (bl x.d) len loc = r at *
  have hl : g < w.heap.size := World.block_lt_of_cell? _ _ hg
  have hl2 : m < w.heap.size := World.block_lt_of_cell? _ _ hm
  go_enter Tryz.func111, Tryz.ntmps111
  go_wp2_with (first
    | (go_at_call 112; (with_reducible refine (hn _).mono ?_); rintro e w2 ⟨rfl, hc2⟩))
  go_ret
  exact ⟨rfl, ((Ch.refl w).alloc _).trans hc2⟩

set_option maxHeartbeats 2000000 in
theorem firstH_any (xs : List Hnd) (v : Value) (w : World) (hx : Sl 4 RH w v xs) (len : Int) (g : Nat) (hg : w.cell? ⟨g, 0, none⟩ = some (.int .i64 len)) (hsz : ∀ h ∈ xs, h.c.size ≤ 100000) :
    Calls Tryz.prog 113 #[v, .func (.func 114) #[] #[.pointer (some ⟨g, 0, none⟩)]] w fun e w' => e = .returned (.int .i64 (firstF (hndE len) xs)) ∧ Ch w w' := by
  obtain ⟨ax, cx, rfl, hx1, hx2⟩ := hx.form
  obtain ⟨r, hr⟩ : ∃ r, firstF (hndE len) xs = r := ⟨_, rfl⟩
  rw [hr]
  go_enter Tryz.func113, Tryz.ntmps113
  go_wp2
  go_loopw [10] (fun i wr => ∃ k : Nat, k ≤ xs.length ∧ i = .int .i64 k ∧ firstF (hndE len) (xs.drop k) = r ∧ Ch w wr) (fun i _ => xs.length - (intOf i).toNat)
  case atStart => exact ⟨0, Nat.zero_le _, rfl, by simpa using hr, Ch.refl _⟩
  case round =>
    clear hr
    obtain ⟨k, hk, rfl, hd, hcr⟩ := hrel
    by_cases hlt : k < xs.length
    · obtain ⟨x, hxk⟩ : ∃ a, xs[k]? = some a := ⟨_, List.getElem?_eq_getElem hlt⟩
      have hxs := hsz x (List.mem_of_getElem? hxk)
      obtain ⟨b, off, hao, d0, d1, d2, d3⟩ := (hx.keepH hcr).atH hxk
      have hc : ∀ w0, Ch w w0 → _ := fun w0 c => clos70_any x len g w0 hxs (cell_keep c hg)
      rw [firstF_step (hndE len) hxk] at hd
      have HD : Hid ((if hndE len x = 0 then firstF (hndE len) (xs.drop (k + 1)) else hndE len x) = r) := hd
      clear hd hxk
      subst hao
      obtain ⟨q, hq⟩ : ∃ q, hndE len x = q := ⟨_, rfl⟩
      rw [hq] at hc HD
      clear hq
      by_cases h0 : q = 0
      · subst h0
        go_wp2_with (first
          | (go_at_call 114; (with_reducible refine (hc _ (hcr.alloc _)).mono ?_); rintro e w3 ⟨rfl, hc3⟩))
        go_roundw
        case rel => exact ⟨k + 1, by omega, by go_num, by simpa using HD.out, (hcr.alloc _).trans hc3⟩
        case measure => simp [intOf]; omega
      · have t0 : (q == 0) = false := by simpa using h0
        go_wp2_with (first
          | (go_at_call 114; (with_reducible refine (hc _ (hcr.alloc _)).mono ?_); rintro e w3 ⟨rfl, hc3⟩))
        go_ret
        have e := HD.out
        rw [if_neg h0] at e
        exact ⟨congrArg (fun b => Ending.returned (.int .i64 b)) e, (hcr.alloc _).trans hc3⟩
    · obtain rfl : k = xs.length := by omega
      rw [firstF_end (hndE len) (Nat.le_refl _)] at hd
      subst hd
      go_wp2
      go_ret
      exact ⟨rfl, hcr⟩

set_option maxHeartbeats 2000000 in
theorem firstI_any (xs : List Ins) (v : Value) (w : World) (hx : Sl 6 RI w v xs) (len loc : Int) (g m : Nat) (hg : w.cell? ⟨g, 0, none⟩ = some (.int .i64 len)) (hm : w.cell? ⟨m, 5, none⟩ = some (.int .i64 loc)) (hsz : ∀ x ∈ xs, x.c.size ≤ 90000 ∧ x.n.size ≤ 90000 ∧ x.d.size ≤ 90000) :
    Calls Tryz.prog 110 #[v, .func (.func 111) #[] #[.pointer (some ⟨g, 0, none⟩), .pointer (some ⟨m, 0, none⟩)]] w fun e w' => e = .returned (.int .i64 (firstF (insE len loc) xs)) ∧ Ch w w' := by
  obtain ⟨ax, cx, rfl, hx1, hx2⟩ := hx.form
  obtain ⟨r, hr⟩ : ∃ r, firstF (insE len loc) xs = r := ⟨_, rfl⟩
  rw [hr]
  go_enter Tryz.func110, Tryz.ntmps110
  go_wp2
  go_loopw [10] (fun i wr => ∃ k : Nat, k ≤ xs.length ∧ i = .int .i64 k ∧ firstF (insE len loc) (xs.drop k) = r ∧ Ch w wr) (fun i _ => xs.length - (intOf i).toNat)
  case atStart => exact ⟨0, Nat.zero_le _, rfl, by simpa using hr, Ch.refl _⟩
  case round =>
    clear hr
    obtain ⟨k, hk, rfl, hd, hcr⟩ := hrel
    by_cases hlt : k < xs.length
    · obtain ⟨x, hxk⟩ : ∃ a, xs[k]? = some a := ⟨_, List.getElem?_eq_getElem hlt⟩
      have hxs := hsz x (List.mem_of_getElem? hxk)
      obtain ⟨b, off, hao, d0, d1, d2, d3, d4, d5⟩ := (hx.keepI hcr).atI hxk
      have hc : ∀ w0, Ch w w0 → _ := fun w0 c => clos67_any x len loc g m w0 hxs (cell_keep c hg) (cell_keep c hm)
      rw [firstF_step (insE len loc) hxk] at hd
      have HD : Hid ((if insE len loc x = 0 then firstF (insE len loc) (xs.drop (k + 1)) else insE len loc x) = r) := hd
      clear hd hxk
      subst hao
      obtain ⟨q, hq⟩ : ∃ q, insE len loc x = q := ⟨_, rfl⟩
      rw [hq] at hc HD
      clear hq
      by_cases h0 : q = 0
      · subst h0
        go_wp2_with (first
          | (go_at_call 111; (with_reducible refine (hc _ (hcr.alloc _)).mono ?_); rintro e w3 ⟨rfl, hc3⟩))
        go_roundw
        case rel => exact ⟨k + 1, by omega, by go_num, by simpa using HD.out, (hcr.alloc _).trans hc3⟩
        case measure => simp [intOf]; omega
      · have t0 : (q == 0) = false := by simpa using h0
        go_wp2_with (first
          | (go_at_call 111; (with_reducible refine (hc _ (hcr.alloc _)).mono ?_); rintro e w3 ⟨rfl, hc3⟩))
        go_ret
        have e := HD.out
        rw [if_neg h0] at e
        exact ⟨congrArg (fun b => Ending.returned (.int .i64 b)) e, (hcr.alloc _).trans hc3⟩
    · obtain rfl : k = xs.length := by omega
      rw [firstF_end (insE len loc) (Nat.le_refl _)] at hd
      subst hd
      go_wp2
      go_ret
      exact ⟨rfl, hcr⟩

end Go.Proofs.YtdalibfgkkgcpaaGreat
