/- The document's own check of a method: its box. -/
import Derived.Test.YtdalibfgkkgcpaaGreatRefD
namespace Go.Proofs.YtdalibfgkkgcpaaGreat
open Go.RowKit
set_option linter.unusedVariables false

theorem mC_at {w : World} {g : Nat} {n d : ByteArray} {st ab : Bool} {sk lo : Int} {vc vh : Value} {t : TypeId} (h : w.heap[g]? = some (.cells #[.string n, .string d, .bool st, .bool ab, .int .i64 sk, .int .i64 lo, vc, vh] t)) :
    w.cell? ⟨g, 0, none⟩ = some (.string n) ∧ w.cell? ⟨g, 1, none⟩ = some (.string d) ∧ w.cell? ⟨g, 2, none⟩ = some (.bool st) ∧ w.cell? ⟨g, 3, none⟩ = some (.bool ab) ∧ w.cell? ⟨g, 4, none⟩ = some (.int .i64 sk) ∧ w.cell? ⟨g, 5, none⟩ = some (.int .i64 lo) ∧ w.cell? ⟨g, 6, none⟩ = some vc ∧ w.cell? ⟨g, 7, none⟩ = some vh := by
  refine ⟨?_, ?_, ?_, ?_, ?_, ?_, ?_, ?_⟩ <;> simp [World.cell?, h]

def DoQ (mn bm cl ii st ab dn rn dq rq : Bool) : Prop := (mn = true ∧ bm = false ∧ cl = true ∧ ii = false ∧ st = true ∧ dn = false ∧ dq = true ∧ ab = false) ∨ (mn = true ∧ bm = false ∧ cl = false ∧ ii = true ∧ st = false ∧ ab = false ∧ rn = false ∧ rq = true) ∨ (mn = true ∧ bm = false ∧ cl = false ∧ ii = false ∧ ab = false ∧ st = true) ∨ (mn = true ∧ bm = false ∧ cl = false ∧ ii = false ∧ ab = false ∧ st = false)
end Go.Proofs.YtdalibfgkkgcpaaGreat
