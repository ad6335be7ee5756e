/- The walk of the law NumberRings. -/
import Derived.Test.YtkmjfkfpjliecaaAwk
namespace Go.Proofs.Ytkmjfkfpjliecaa
open Go.RowKit
set_option linter.unusedVariables false

/-- Two numbers of which one is as many turns of the circle away. -/
theorem W_cong {x y : Int} (h : x % 4294967296 = y % 4294967296) : W x = W y := by unfold W; omega
theorem W_mod (x : Int) : W x % 4294967296 = x % 4294967296 := by unfold W; omega
theorem W_W (x : Int) : W (W x) = W x := W_cong (W_mod x)
theorem mod_mul {x y z : Int} (h : x % 4294967296 = y % 4294967296) : (z * x) % 4294967296 = (z * y) % 4294967296 := by
  rw [Int.mul_emod z x, h, ← Int.mul_emod]
theorem mod_add {x y a b : Int} (h : x % 4294967296 = y % 4294967296) (h2 : a % 4294967296 = b % 4294967296) : (x + a) % 4294967296 = (y + b) % 4294967296 := by omega
theorem mod_sub {x y a b : Int} (h : x % 4294967296 = y % 4294967296) (h2 : a % 4294967296 = b % 4294967296) : (x - a) % 4294967296 = (y - b) % 4294967296 := by omega

theorem ring_add (a b : Int) : W (W a + W b) = W (W b + W a) := by rw [Int.add_comm]
theorem ring_mul (a b : Int) : W (W a * W b) = W (W b * W a) := by rw [Int.mul_comm]
theorem ring_dist (a b c : Int) : W (W a * W (W (W b + W c))) = W (W (W (W a * W b)) + W (W (W a * W c))) := by
  refine W_cong ?_
  rw [W_W, W_W, W_W]
  have h1 : (W a * W (W b + W c)) % 4294967296 = (W a * (W b + W c)) % 4294967296 := mod_mul (W_mod _)
  rw [h1, Int.mul_add]
  exact (mod_add (W_mod _) (W_mod _)).symm
theorem ring_back (a b : Int) : W (W (W (W a + W b)) - W b) = W a := by
  rw [W_W]
  have := W_mod (W a + W b)
  have h : W (W (W a + W b) - W b) = W (W a) := W_cong (by omega)
  rw [h, W_W]

/-- What is left of a quotient. -/
theorem rest_is (a b : Int) (hb : W b ≠ 0) : W (W a - W (W (W (quoW a b) * W b))) = (W a).tmod (W b) := by
  have hq : quoW a b = W ((W a).tdiv (W b)) := by unfold quoW; rw [if_neg hb]
  rw [hq, W_W, W_W]
  have h1 : (W ((W a).tdiv (W b)) * W b) % 4294967296 = ((W a).tdiv (W b) * W b) % 4294967296 := by
    rw [Int.mul_comm, Int.mul_comm _ (W b)]; exact mod_mul (W_mod _)
  have h2 := W_mod (W ((W a).tdiv (W b)) * W b)
  have h3 : W a - (W a).tdiv (W b) * W b = (W a).tmod (W b) := by
    have := Int.tdiv_mul_add_tmod (W a) (W b); omega
  have h4 : W (W a - W (W ((W a).tdiv (W b)) * W b)) = W ((W a).tmod (W b)) := by
    refine W_cong ?_
    rw [← h3]
    exact mod_sub rfl (h2.trans h1)
  rw [h4]
  have h5 : ((W a).tmod (W b)).natAbs ≤ 2147483647 := by
    rw [Int.natAbs_tmod]
    have := Nat.mod_lt (W a).natAbs (show (W b).natAbs > 0 by omega)
    have := W_abs b
    omega
  exact W_id (by omega) (by omega)

theorem rest_lt (a b : Int) (hb : W b ≠ 0) : ((W a).tmod (W b)).natAbs < (W b).natAbs := by
  rw [Int.natAbs_tmod]
  exact Nat.mod_lt _ (by omega)

theorem neg_in (b : Int) : IntKind.i64.wrap (-W b) = -W b := by
  have := W_lo b; have := W_hi b
  exact in64 (by omega) (by omega)
end Go.Proofs.Ytkmjfkfpjliecaa
