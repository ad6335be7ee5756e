/- The document's own check of a method: what an abstract one has; how many locals. -/
import Derived.Test.YtdalibfgkkgcpaaGreatKRefM
namespace Go.Proofs.YtdalibfgkkgcpaaGreat
open Go.RowKit
set_option linter.unusedVariables false

def AbsY (y1 p1 y2 p2 : Bool) (lc lh : Nat) (x : Int) : Prop := (y1 = true ∧ p1 = false ∧ x = 7) ∨ (y1 = false ∧ p1 = true ∧ y2 = true ∧ p2 = false ∧ x = 7) ∨ (y1 = false ∧ p1 = true ∧ y2 = false ∧ p2 = true ∧ 0 < lc ∧ x = 7) ∨ (y1 = false ∧ p1 = true ∧ y2 = false ∧ p2 = true ∧ lc = 0 ∧ 0 < lh ∧ x = 7) ∨ (y1 = false ∧ p1 = true ∧ y2 = false ∧ p2 = true ∧ lc = 0 ∧ lh = 0 ∧ x = 0)
def AbsQ (mn bm cl ii st ab dn rn dq rq : Bool) : Prop := (mn = true ∧ bm = false ∧ cl = true ∧ ii = false ∧ st = true ∧ dn = false ∧ dq = true ∧ ab = true) ∨ (mn = true ∧ bm = false ∧ cl = false ∧ ii = false ∧ ab = true ∧ st = true)
def AbsP (mn bm cl ii st ab dn rn dq rq : Bool) : Prop := (mn = true ∧ bm = false ∧ cl = false ∧ ii = false ∧ ab = true ∧ st = false)
set_option maxRecDepth 100000 in
set_option maxHeartbeats 16000000 in
theorem refMth_abst (n d r : ByteArray) (st ab : Bool) (sk lo ec : Int) (np : Nat) (lc lh : Nat) (aco aho : Option Addr) (cco cho : Nat) (w : World) (mn bm cl ii dn rn dq rq : Bool)
    (hm : ∀ w0, Calls Tryz.prog 79 #[.string d] w0 fun e w' => (∃ pa pc, e = .returned (.tuple #[.slice pa np pc, .string r, .int .i64 ec])) ∧ Ch w0 w')
    (hmn : ∀ w0, Calls Tryz.prog 80 #[.string n] w0 fun e w' => e = .returned (.bool mn) ∧ w' = w0)
    (hec : (ec != 0) = bm) (hcl : (n.toList == [60, 99, 108, 105, 110, 105, 116, 62]) = cl) (hii : (n.toList == [60, 105, 110, 105, 116, 62]) = ii) (hdn : (d.toList != [40, 41, 86]) = dn) (hrn : (r.toList != [86]) = rn) (hdq : (d.toList == [40, 41, 86]) = dq) (hrq : (r.toList == [86]) = rq) (hp : AbsQ mn bm cl ii st ab dn rn dq rq) (h1 : decide (sk < 0) = false) (h2 : decide (20 < sk) = false) (h3 : decide (lo < 0) = false) (h4 : decide (20 < lo) = false) (h5 : decide ((200 : Int) < (lc : Int)) = false) (h6 : decide ((20 : Int) < (lh : Int)) = false) :
    Calls Tryz.prog 43 #[.agg #[.string n, .string d, .bool st, .bool ab, .int .i64 sk, .int .i64 lo, .slice aco lc cco, .slice aho lh cho]] w fun e w' => e = .returned (.int .i64 7) ∧ Ch w w' := by
  rcases hp with ⟨rfl, rfl, rfl, rfl, rfl, rfl, rfl, rfl⟩ | ⟨rfl, rfl, rfl, rfl, rfl, rfl⟩
  all_goals
    go_enter Tryz.func43, Tryz.ntmps43
    go_wp2_with (first
      | (go_at_call 79; (with_reducible refine (hm _).mono ?_); rintro e w3 ⟨⟨pa, pc, rfl⟩, hc3⟩; obtain ⟨z0, z1, z2, z3, z4, z5, z6, z7⟩ := mC_at (kept_at hc3 (heap_alloc_new _ _)))
      | (go_at_call 80; (with_reducible refine (hmn _).mono ?_); rintro e w' ⟨rfl, hx⟩; have hx := hx.symm; subst hx))
  all_goals
    go_ret
    exact ⟨rfl, ((Ch.refl w).alloc _).trans hc3⟩

set_option maxRecDepth 100000 in
set_option maxHeartbeats 16000000 in
theorem refMth_abs (n d r : ByteArray) (st ab : Bool) (sk lo ec : Int) (np : Nat) (lc lh : Nat) (aco aho : Option Addr) (cco cho : Nat) (w : World) (mn bm cl ii dn rn dq rq : Bool)
    (hm : ∀ w0, Calls Tryz.prog 79 #[.string d] w0 fun e w' => (∃ pa pc, e = .returned (.tuple #[.slice pa np pc, .string r, .int .i64 ec])) ∧ Ch w0 w')
    (hmn : ∀ w0, Calls Tryz.prog 80 #[.string n] w0 fun e w' => e = .returned (.bool mn) ∧ w' = w0)
    (hec : (ec != 0) = bm) (hcl : (n.toList == [60, 99, 108, 105, 110, 105, 116, 62]) = cl) (hii : (n.toList == [60, 105, 110, 105, 116, 62]) = ii) (hdn : (d.toList != [40, 41, 86]) = dn) (hrn : (r.toList != [86]) = rn) (hdq : (d.toList == [40, 41, 86]) = dq) (hrq : (r.toList == [86]) = rq) (hp : AbsP mn bm cl ii st ab dn rn dq rq) (h1 : decide (sk < 0) = false) (h2 : decide (20 < sk) = false) (h3 : decide (lo < 0) = false) (h4 : decide (20 < lo) = false) (h5 : decide ((200 : Int) < (lc : Int)) = false) (h6 : decide ((20 : Int) < (lh : Int)) = false) (y1 p1 y2 p2 : Bool) (x : Int) (k1 : (sk != 0) = y1) (kp1 : (sk == 0) = p1) (k2 : (lo != 0) = y2) (kp2 : (lo == 0) = p2) (hy : AbsY y1 p1 y2 p2 lc lh x) :
    Calls Tryz.prog 43 #[.agg #[.string n, .string d, .bool st, .bool ab, .int .i64 sk, .int .i64 lo, .slice aco lc cco, .slice aho lh cho]] w fun e w' => e = .returned (.int .i64 x) ∧ Ch w w' := by
  rcases hp with ⟨rfl, rfl, rfl, rfl, rfl, rfl⟩
  rcases hy with ⟨rfl, rfl, rfl⟩ | ⟨rfl, rfl, rfl, rfl, rfl⟩ | ⟨rfl, rfl, rfl, rfl, hl1, rfl⟩ | ⟨rfl, rfl, rfl, rfl, rfl, hl1, rfl⟩ | ⟨rfl, rfl, rfl, rfl, rfl, rfl, rfl⟩
  all_goals
    go_enter Tryz.func43, Tryz.ntmps43
    go_wp2_with (first
      | (go_at_call 79; (with_reducible refine (hm _).mono ?_); rintro e w3 ⟨⟨pa, pc, rfl⟩, hc3⟩; obtain ⟨z0, z1, z2, z3, z4, z5, z6, z7⟩ := mC_at (kept_at hc3 (heap_alloc_new _ _)))
      | (go_at_call 80; (with_reducible refine (hmn _).mono ?_); rintro e w' ⟨rfl, hx⟩; have hx := hx.symm; subst hx))
  all_goals
    go_ret
    exact ⟨rfl, ((Ch.refl w).alloc _).trans hc3⟩

set_option maxRecDepth 100000 in
set_option maxHeartbeats 16000000 in
theorem refMth_none (n d r : ByteArray) (st ab : Bool) (sk lo ec : Int) (np : Nat) (lc lh : Nat) (aco aho : Option Addr) (cco cho : Nat) (w : World) (mn bm cl ii dn rn dq rq : Bool)
    (hm : ∀ w0, Calls Tryz.prog 79 #[.string d] w0 fun e w' => (∃ pa pc, e = .returned (.tuple #[.slice pa np pc, .string r, .int .i64 ec])) ∧ Ch w0 w')
    (hmn : ∀ w0, Calls Tryz.prog 80 #[.string n] w0 fun e w' => e = .returned (.bool mn) ∧ w' = w0)
    (hec : (ec != 0) = bm) (hcl : (n.toList == [60, 99, 108, 105, 110, 105, 116, 62]) = cl) (hii : (n.toList == [60, 105, 110, 105, 116, 62]) = ii) (hdn : (d.toList != [40, 41, 86]) = dn) (hrn : (r.toList != [86]) = rn) (hdq : (d.toList == [40, 41, 86]) = dq) (hrq : (r.toList == [86]) = rq) (hp : DoQ mn bm cl ii st ab dn rn dq rq) (h1 : decide (sk < 0) = false) (h2 : decide (20 < sk) = false) (h3 : decide (lo < 0) = false) (h4 : decide (20 < lo) = false) (h5 : decide ((200 : Int) < (lc : Int)) = false) (h6 : decide ((20 : Int) < (lh : Int)) = false) (k3 : ((lc : Int) == 0) = true) :
    Calls Tryz.prog 43 #[.agg #[.string n, .string d, .bool st, .bool ab, .int .i64 sk, .int .i64 lo, .slice aco lc cco, .slice aho lh cho]] w fun e w' => e = .returned (.int .i64 7) ∧ Ch w w' := by
  rcases hp with ⟨rfl, rfl, rfl, rfl, rfl, rfl, rfl, rfl⟩ | ⟨rfl, rfl, rfl, rfl, rfl, rfl, rfl, rfl⟩ | ⟨rfl, rfl, rfl, rfl, rfl, rfl⟩ | ⟨rfl, rfl, rfl, rfl, rfl, rfl⟩
  all_goals
    go_enter Tryz.func43, Tryz.ntmps43
    go_wp2_with (first
      | (go_at_call 79; (with_reducible refine (hm _).mono ?_); rintro e w3 ⟨⟨pa, pc, rfl⟩, hc3⟩; obtain ⟨z0, z1, z2, z3, z4, z5, z6, z7⟩ := mC_at (kept_at hc3 (heap_alloc_new _ _)))
      | (go_at_call 80; (with_reducible refine (hmn _).mono ?_); rintro e w' ⟨rfl, hx⟩; have hx := hx.symm; subst hx))
  all_goals
    go_ret
    exact ⟨rfl, ((Ch.refl w).alloc _).trans hc3⟩

set_option maxRecDepth 100000 in
set_option maxHeartbeats 16000000 in
theorem refMth_args (n d r : ByteArray) (st ab : Bool) (sk lo ec : Int) (np : Nat) (lc lh : Nat) (aco aho : Option Addr) (cco cho : Nat) (w : World) (mn bm cl ii dn rn dq rq : Bool)
    (hm : ∀ w0, Calls Tryz.prog 79 #[.string d] w0 fun e w' => (∃ pa pc, e = .returned (.tuple #[.slice pa np pc, .string r, .int .i64 ec])) ∧ Ch w0 w')
    (hmn : ∀ w0, Calls Tryz.prog 80 #[.string n] w0 fun e w' => e = .returned (.bool mn) ∧ w' = w0)
    (hec : (ec != 0) = bm) (hcl : (n.toList == [60, 99, 108, 105, 110, 105, 116, 62]) = cl) (hii : (n.toList == [60, 105, 110, 105, 116, 62]) = ii) (hdn : (d.toList != [40, 41, 86]) = dn) (hrn : (r.toList != [86]) = rn) (hdq : (d.toList == [40, 41, 86]) = dq) (hrq : (r.toList == [86]) = rq) (hp : DoQ mn bm cl ii st ab dn rn dq rq) (h1 : decide (sk < 0) = false) (h2 : decide (20 < sk) = false) (h3 : decide (lo < 0) = false) (h4 : decide (20 < lo) = false) (h5 : decide ((200 : Int) < (lc : Int)) = false) (h6 : decide ((20 : Int) < (lh : Int)) = false) (k3 : ((lc : Int) == 0) = false) (hnp : np ≤ 100) (hlt : decide (lo < (if st then (np : Int) else (np : Int) + 1)) = true) :
    Calls Tryz.prog 43 #[.agg #[.string n, .string d, .bool st, .bool ab, .int .i64 sk, .int .i64 lo, .slice aco lc cco, .slice aho lh cho]] w fun e w' => e = .returned (.int .i64 4) ∧ Ch w w' := by
  rcases hp with ⟨rfl, rfl, rfl, rfl, rfl, rfl, rfl, rfl⟩ | ⟨rfl, rfl, rfl, rfl, rfl, rfl, rfl, rfl⟩ | ⟨rfl, rfl, rfl, rfl, rfl, rfl⟩ | ⟨rfl, rfl, rfl, rfl, rfl, rfl⟩
  all_goals
    simp only [if_true, Bool.false_eq_true, if_false] at hlt
    go_enter Tryz.func43, Tryz.ntmps43
    go_wp2_with (first
      | (go_at_call 79; (with_reducible refine (hm _).mono ?_); rintro e w3 ⟨⟨pa, pc, rfl⟩, hc3⟩; obtain ⟨z0, z1, z2, z3, z4, z5, z6, z7⟩ := mC_at (kept_at hc3 (heap_alloc_new _ _)))
      | (go_at_call 80; (with_reducible refine (hmn _).mono ?_); rintro e w' ⟨rfl, hx⟩; have hx := hx.symm; subst hx))
  all_goals
    go_ret
    exact ⟨rfl, ((Ch.refl w).alloc _).trans hc3⟩
end Go.Proofs.YtdalibfgkkgcpaaGreat
