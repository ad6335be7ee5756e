/- One field laid out. -/
import Derived.Test.YtddddikobooifaaHpK
namespace Go.Proofs.Ytddddikobooifaa
open Go.RowKit Go.Maps Go.Sort Go.Shelf
set_option linter.unusedVariables false

/-- How a value that is all zero reads; no other one does. -/
def isZ : Value → Bool
  | .agg cs => match cs.toList with
    | [.int .i64 a, .int .i64 b, .complex .f64 x y] => a == 0 && b == 0 && x == 0 && y == 0
    | _ => false
  | _ => false
theorem isZ_eq {v : Value} (h : isZ v = true) : v = .agg #[.int .i64 0, .int .i64 0, .complex .f64 0 0] := by
  cases v <;> simp [isZ] at h
  rename_i cs
  split at h
  · rename_i a b x y hc
    simp at h
    obtain ⟨⟨⟨rfl, rfl⟩, rfl⟩, rfl⟩ := h
    congr 1
    apply Array.ext'
    exact hc
  · cases h
def RZ (v : Value) : Option (DataW Unit × List MemPlace) := if isZ v = true then some (.lit (.bool true), []) else none
theorem RZ_z : RZ (.agg #[.int .i64 0, .int .i64 0, .complex .f64 0 0]) = some (.lit (.bool true), []) := by rfl
theorem RZ_inv {v : Value} {z : DataW Unit × List MemPlace} (h : RZ v = some z) : v = .agg #[.int .i64 0, .int .i64 0, .complex .f64 0 0] := by
  unfold RZ at h
  split at h
  · exact isZ_eq (by assumption)
  · cases h
def D1 : DataW Unit := (DataW.map []).put (.string [120]) (.lit (.bool true))
theorem D1_keys : strKeys D1 = [[120]] := by rfl
theorem D1_size : Maps.size D1 = 1 := by rfl
theorem map_ch {b n : Nat} {D : DataW Unit} {w w' : World} (h : w.ownsMap Try.prog 9 RZ b n D) (c : Ch w w') : w'.ownsMap Try.prog 9 RZ b n D := by
  have hlt := h.lt
  obtain ⟨es, clock, hb, F, hs, hD⟩ := h
  exact ⟨es, clock, (c.block b hlt).trans hb, F, hs, hD⟩
theorem zero_val (w : World) : (zeroValue 31).run Try.prog w = .ok (.agg #[.int .i64 0, .int .i64 0, .complex .f64 0 0]) w := by
  obtain ⟨i0, hi, hz0, hz1, hz2⟩ := info_parts Try.info31
  simp [zeroValue, typeInfo, hi, hz0, zv]
theorem lookZ {b n : Nat} {D : DataW Unit} {w : World} (h : w.ownsMap Try.prog 9 RZ b n D) (s : ByteArray) (hs : s.size ≤ 1000) :
    (Instr.lookup 65 (.map (some b)) (.string s) false).run Try.prog w = .ok (.agg #[.int .i64 0, .int .i64 0, .complex .f64 0 0]) w := by
  obtain ⟨v, ps, hr, hv⟩ := h.lookup (string_keyed Try.underlying9) Try.underlying65 (zero_val w) RZ_z (key := .string s) (WideMaps.keyOf_string_mk Try.underlying9 (by unfold maxLen; omega))
  rw [hr, RZ_inv hv]
end Go.Proofs.Ytddddikobooifaa
