/- The document's own check of a method: its box. -/
/- The document's own check of a method: names, limits. -/
import Derived.Test.YtdalibfgkkgcpaaGreatKRefD
namespace Go.Proofs.YtdalibfgkkgcpaaGreat
open Go.RowKit
set_option linter.unusedVariables false

theorem mC_at {w : World} {g : Nat} {n d : ByteArray} {st ab : Bool} {sk lo : Int} {vc vh : Value} {t : TypeId} (h : w.heap[g]? = some (.cells #[.string n, .string d, .bool st, .bool ab, .int .i64 sk, .int .i64 lo, vc, vh] t)) :
    w.cell? ⟨g, 0, none⟩ = some (.string n) ∧ w.cell? ⟨g, 1, none⟩ = some (.string d) ∧ w.cell? ⟨g, 2, none⟩ = some (.bool st) ∧ w.cell? ⟨g, 3, none⟩ = some (.bool ab) ∧ w.cell? ⟨g, 4, none⟩ = some (.int .i64 sk) ∧ w.cell? ⟨g, 5, none⟩ = some (.int .i64 lo) ∧ w.cell? ⟨g, 6, none⟩ = some vc ∧ w.cell? ⟨g, 7, none⟩ = some vh := by
  refine ⟨?_, ?_, ?_, ?_, ?_, ?_, ?_, ?_⟩ <;> simp [World.cell?, h]

def DoQ (mn bm cl ii st ab dn rn dq rq : Bool) : Prop := (mn = true ∧ bm = false ∧ cl = true ∧ ii = false ∧ st = true ∧ dn = false ∧ dq = true ∧ ab = false) ∨ (mn = true ∧ bm = false ∧ cl = false ∧ ii = true ∧ st = false ∧ ab = false ∧ rn = false ∧ rq = true) ∨ (mn = true ∧ bm = false ∧ cl = false ∧ ii = false ∧ ab = false ∧ st = true) ∨ (mn = true ∧ bm = false ∧ cl = false ∧ ii = false ∧ ab = false ∧ st = false)
end Go.Proofs.YtdalibfgkkgcpaaGreat
namespace Go.Proofs.YtdalibfgkkgcpaaGreat
open Go.RowKit
set_option linter.unusedVariables false

def NoNm (mn bm cl ii st ab dn rn dq rq : Bool) : Prop := (mn = false) ∨ (mn = true ∧ bm = true) ∨ (mn = true ∧ bm = false ∧ cl = true ∧ ii = false ∧ st = false) ∨ (mn = true ∧ bm = false ∧ cl = true ∧ ii = false ∧ st = true ∧ dn = true ∧ dq = false) ∨ (mn = true ∧ bm = false ∧ cl = false ∧ ii = true ∧ st = true) ∨ (mn = true ∧ bm = false ∧ cl = false ∧ ii = true ∧ st = false ∧ ab = true) ∨ (mn = true ∧ bm = false ∧ cl = false ∧ ii = true ∧ st = false ∧ ab = false ∧ rn = true ∧ rq = false)
def YesNm (mn bm cl ii st ab dn rn dq rq : Bool) : Prop := (mn = true ∧ bm = false ∧ cl = true ∧ ii = false ∧ st = true ∧ dn = false ∧ dq = true) ∨ (mn = true ∧ bm = false ∧ cl = false ∧ ii = true ∧ st = false ∧ ab = false ∧ rn = false ∧ rq = true) ∨ (mn = true ∧ bm = false ∧ cl = false ∧ ii = false)
set_option maxRecDepth 100000 in
set_option maxHeartbeats 16000000 in
theorem refMth_no (n d r : ByteArray) (st ab : Bool) (sk lo ec : Int) (np : Nat) (lc lh : Nat) (aco aho : Option Addr) (cco cho : Nat) (w : World) (mn bm cl ii dn rn dq rq : Bool)
    (hm : ∀ w0, Calls Tryz.prog 79 #[.string d] w0 fun e w' => (∃ pa pc, e = .returned (.tuple #[.slice pa np pc, .string r, .int .i64 ec])) ∧ Ch w0 w')
    (hmn : ∀ w0, Calls Tryz.prog 80 #[.string n] w0 fun e w' => e = .returned (.bool mn) ∧ w' = w0)
    (hec : (ec != 0) = bm) (hcl : (n.toList == [60, 99, 108, 105, 110, 105, 116, 62]) = cl) (hii : (n.toList == [60, 105, 110, 105, 116, 62]) = ii) (hdn : (d.toList != [40, 41, 86]) = dn) (hrn : (r.toList != [86]) = rn) (hdq : (d.toList == [40, 41, 86]) = dq) (hrq : (r.toList == [86]) = rq) (hp : NoNm mn bm cl ii st ab dn rn dq rq) :
    Calls Tryz.prog 43 #[.agg #[.string n, .string d, .bool st, .bool ab, .int .i64 sk, .int .i64 lo, .slice aco lc cco, .slice aho lh cho]] w fun e w' => e = .returned (.int .i64 6) ∧ Ch w w' := by
  rcases hp with ⟨rfl⟩ | ⟨rfl, rfl⟩ | ⟨rfl, rfl, rfl, rfl, rfl⟩ | ⟨rfl, rfl, rfl, rfl, rfl, rfl, rfl⟩ | ⟨rfl, rfl, rfl, rfl, rfl⟩ | ⟨rfl, rfl, rfl, rfl, rfl, rfl⟩ | ⟨rfl, rfl, rfl, rfl, rfl, rfl, rfl, rfl⟩
  all_goals
    go_enter Tryz.func43, Tryz.ntmps43
    go_wp2_with (first
      | (go_at_call 79; (with_reducible refine (hm _).mono ?_); rintro e w3 ⟨⟨pa, pc, rfl⟩, hc3⟩; obtain ⟨z0, z1, z2, z3, z4, z5, z6, z7⟩ := mC_at (kept_at hc3 (heap_alloc_new _ _)))
      | (go_at_call 80; (with_reducible refine (hmn _).mono ?_); rintro e w' ⟨rfl, hx⟩; have hx := hx.symm; subst hx))
  all_goals
    go_ret
    exact ⟨rfl, ((Ch.refl w).alloc _).trans hc3⟩

def NoWi (x1 x2 x3 x4 x5 x6 : Bool) : Prop := (x1 = true) ∨ (x1 = false ∧ x2 = true) ∨ (x1 = false ∧ x2 = false ∧ x3 = true) ∨ (x1 = false ∧ x2 = false ∧ x3 = false ∧ x4 = true) ∨ (x1 = false ∧ x2 = false ∧ x3 = false ∧ x4 = false ∧ x5 = true) ∨ (x1 = false ∧ x2 = false ∧ x3 = false ∧ x4 = false ∧ x5 = false ∧ x6 = true)
set_option maxRecDepth 100000 in
set_option maxHeartbeats 16000000 in
theorem refMth_wi (n d r : ByteArray) (st ab : Bool) (sk lo ec : Int) (np : Nat) (lc lh : Nat) (aco aho : Option Addr) (cco cho : Nat) (w : World) (mn bm cl ii dn rn dq rq : Bool)
    (hm : ∀ w0, Calls Tryz.prog 79 #[.string d] w0 fun e w' => (∃ pa pc, e = .returned (.tuple #[.slice pa np pc, .string r, .int .i64 ec])) ∧ Ch w0 w')
    (hmn : ∀ w0, Calls Tryz.prog 80 #[.string n] w0 fun e w' => e = .returned (.bool mn) ∧ w' = w0)
    (hec : (ec != 0) = bm) (hcl : (n.toList == [60, 99, 108, 105, 110, 105, 116, 62]) = cl) (hii : (n.toList == [60, 105, 110, 105, 116, 62]) = ii) (hdn : (d.toList != [40, 41, 86]) = dn) (hrn : (r.toList != [86]) = rn) (hdq : (d.toList == [40, 41, 86]) = dq) (hrq : (r.toList == [86]) = rq) (hp : YesNm mn bm cl ii st ab dn rn dq rq) (x1 x2 x3 x4 x5 x6 : Bool) (h1 : decide (sk < 0) = x1) (h2 : decide (20 < sk) = x2) (h3 : decide (lo < 0) = x3) (h4 : decide (20 < lo) = x4) (h5 : decide ((200 : Int) < (lc : Int)) = x5) (h6 : decide ((20 : Int) < (lh : Int)) = x6) (hx : NoWi x1 x2 x3 x4 x5 x6) :
    Calls Tryz.prog 43 #[.agg #[.string n, .string d, .bool st, .bool ab, .int .i64 sk, .int .i64 lo, .slice aco lc cco, .slice aho lh cho]] w fun e w' => e = .returned (.int .i64 5) ∧ Ch w w' := by
  rcases hp with ⟨rfl, rfl, rfl, rfl, rfl, rfl, rfl⟩ | ⟨rfl, rfl, rfl, rfl, rfl, rfl, rfl, rfl⟩ | ⟨rfl, rfl, rfl, rfl⟩ <;> rcases hx with ⟨rfl⟩ | ⟨rfl, rfl⟩ | ⟨rfl, rfl, rfl⟩ | ⟨rfl, rfl, rfl, rfl⟩ | ⟨rfl, rfl, rfl, rfl, rfl⟩ | ⟨rfl, rfl, rfl, rfl, rfl, rfl⟩
  all_goals
    go_enter Tryz.func43, Tryz.ntmps43
    go_wp2_with (first
      | (go_at_call 79; (with_reducible refine (hm _).mono ?_); rintro e w3 ⟨⟨pa, pc, rfl⟩, hc3⟩; obtain ⟨z0, z1, z2, z3, z4, z5, z6, z7⟩ := mC_at (kept_at hc3 (heap_alloc_new _ _)))
      | (go_at_call 80; (with_reducible refine (hmn _).mono ?_); rintro e w' ⟨rfl, hx⟩; have hx := hx.symm; subst hx))
  all_goals
    go_ret
    exact ⟨rfl, ((Ch.refl w).alloc _).trans hc3⟩
end Go.Proofs.YtdalibfgkkgcpaaGreat
