/- slices.Repeat of one zero value. -/
import Derived.Test.YtddddikobooifaaHpA
import Derived.Shelf.Bits.Mul64
import Derived.Shelf.Lay
import Derived.Ground.NamesProg
import Derived.Lib.Agree
import Derived.KernelRfl
namespace Go.Proofs.Ytddddikobooifaa
open Go.RowKit Go.Shelf
set_option linter.unusedVariables false

def zc (j : Nat) : Value := zv.cells[j % 3]!
def zr (n : Nat) : Array Value := madeCells zv.cells (n * 3)
theorem zr_size (n : Nat) : (zr n).size = n * 3 := size_madeCells _ _
theorem zr_at {n j : Nat} (h : j < n * 3) : (zr n)[j]? = some (zc j) := by
  have : zv.cells.size = 3 := by kernel_rfl
  simp [zr, madeCells, this, zc, h]
theorem zc_one (j : Nat) : (zc j).oneCell' = true := by
  have h : j % 3 < 3 := Nat.mod_lt _ (by omega)
  unfold zc
  generalize j % 3 = i at h ⊢
  match i, h with
  | 0, _ => rfl
  | 1, _ => rfl
  | 2, _ => rfl
theorem zc_add (m j : Nat) : zc (m * 3 + j) = zc j := by unfold zc; congr 1; omega
theorem zc0 : zc 0 = .int .i64 0 := by kernel_rfl
theorem zc1 : zc 1 = .int .i64 0 := by kernel_rfl
theorem zc2 : zc 2 = .complex .f64 0 0 := by kernel_rfl

theorem copyZ (W : World) (ty : TypeId) (g n m d dc : Nat) (a : Addr) (sl sc : Nat) (hg : W.heap[g]? = some (.cells (zr n) 31 (0, 0))) (hd : m + d ≤ n)
    (hs : ∀ j, j < Nat.min sl d * 3 → W.cell? (a.add j) = some (zc j)) :
    (Builtin.copy_ #[43, 43] ty #[.slice (some ⟨g, m * 3, none⟩) d dc, .slice (some a) sl sc]).run Try.prog W = .ok (goInt (Nat.min sl d : Nat)) W := by
  obtain ⟨cs, hcs⟩ : ∃ cs, cs = (List.range (Nat.min sl d * 3)).map zc := ⟨_, rfl⟩
  have hl : cs.length = Nat.min sl d * 3 := by rw [hcs]; simp
  have hat : ∀ j, j < Nat.min sl d * 3 → cs[j]? = some (zc j) := fun j hj => by rw [hcs]; simp [hj]
  have hmin : Nat.min sl d ≤ d := Nat.min_le_right _ _
  have h1 := run_loadCells_list (P := Try.prog) W a cs (fun j v hj => by
    have hlt : j < cs.length := (List.getElem?_eq_some_iff.1 hj).1
    rw [hl] at hlt
    rw [hat j hlt] at hj
    rw [hs j hlt, hj])
  have h2 := run_storeCells_at Try.prog g (m * 3) 31 cs 0 (zr n) W hg (by rw [zr_size]; omega) (fun v hv => by
    obtain ⟨j, hj⟩ := List.getElem?_of_mem hv
    have hlt : j < cs.length := (List.getElem?_eq_some_iff.1 hj).1
    rw [hl] at hlt
    rw [hat j hlt] at hj
    cases hj
    exact zc_one j)
  have h3 : ((zr n).toList.take (m * 3 + 0) ++ cs ++ (zr n).toList.drop (m * 3 + 0 + cs.length)).toArray = zr n := by
    apply Array.ext'
    apply List.ext_getElem?
    intro j
    have hz : (zr n).toList.length = n * 3 := by rw [Array.length_toList, zr_size]
    have hzt : ∀ j, j < n * 3 → (zr n).toList[j]? = some (zc j) := fun j hj => by rw [Array.getElem?_toList]; exact zr_at hj
    simp only [Nat.add_zero, List.append_assoc]
    by_cases ha : j < m * 3
    · rw [List.getElem?_append_left (by simp [hz]; omega), List.getElem?_take_of_lt ha]
    · rw [List.getElem?_append_right (by simp [hz]; omega)]
      have e1 : (List.take (m * 3) (zr n).toList).length = m * 3 := by simp [hz]; omega
      rw [e1]
      by_cases hb : j - m * 3 < cs.length
      · rw [List.getElem?_append_left hb, hat _ (by omega), hzt j (by omega)]
        have := zc_add m (j - m * 3)
        rw [← this]
        congr 2; omega
      · rw [List.getElem?_append_right (by omega), List.getElem?_drop]
        congr 1; omega
  rw [h3, setRow_self W g _ _ _ hg] at h2
  have hi : (Try.prog.info? 31).map (fun i => (i.zero, i.size, i.bytes)) = some (some zv, 3, 32) := Try.info31
  obtain ⟨i0, hi, hz0, hz1, hz2⟩ := info_parts hi
  rw [hl] at h1
  simp [Builtin.copy_, run_underlying Try.underlying43, Builtin.lenOf, Builtin.firstCells, sizeOf, typeInfo, hi, hz1, h1, h2]

shelf_lay Lays.n212 Nm 212 at Try as Try.mulLays

theorem mul_any (n : Nat) (h : n ≤ 100) (w : World) : Calls Try.prog 23 #[.int .u64 1, .int .u64 (n : Int)] w fun e w' => e = .returned (.tuple #[.int .u64 0, .int .u64 (n : Int)]) ∧ w' = w := by
  have := Any.bits_Mul Try.mulLays 1 n (by omega) (by omega) w
  have e1 : 1 * n / 18446744073709551616 = 0 := by omega
  have e2 : 1 * n % 18446744073709551616 = n := by omega
  rw [e1, e2] at this
  exact this
end Go.Proofs.Ytddddikobooifaa
