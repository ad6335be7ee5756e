/- What the operations on float64 give where all numbers are whole multiples of one power of two and have at most 53 digits: nothing is rounded. -/
import Derived.WalkLawsBesides
namespace Go.Proofs.Ytkmjfkfpjliecaa
open Ieee

/-- A number by its sign and its magnitude. -/
def sg (s : Bool) (m : Nat) : Int := if s then -(m : Int) else (m : Int)

theorem log2_mul_pow (m k : Nat) (h : m ≠ 0) : (m * 2 ^ k).log2 = m.log2 + k := by
  have hp : 0 < 2 ^ k := Nat.two_pow_pos k
  have h1 := (Nat.log2_eq_iff h).1 rfl
  refine (Nat.log2_eq_iff (Nat.mul_ne_zero h (by omega))).2 ⟨?_, ?_⟩
  · rw [Nat.pow_add]; exact Nat.mul_le_mul_right _ h1.1
  · rw [show m.log2 + k + 1 = (m.log2 + 1) + k by omega, Nat.pow_add]
    exact Nat.mul_lt_mul_of_pos_right h1.2 hp

theorem cut_exact (s : Bool) (m j k : Nat) (h : j ≤ k) : Toward.even.cut s (m * 2 ^ k) j = m * 2 ^ (k - j) := by
  unfold Toward.cut
  by_cases hm : m = 0
  · subst hm
    simp [Nat.shiftLeft_eq]
  · have hl : min j ((m * 2 ^ k).log2 + 2) = j := by rw [log2_mul_pow m k hm]; omega
    have hk : m * 2 ^ k = m * 2 ^ (k - j) * 2 ^ j := by rw [Nat.mul_assoc, ← Nat.pow_add]; congr 2; omega
    have hp : 0 < 2 ^ j := Nat.two_pow_pos j
    simp only [hl, Nat.shiftLeft_eq, Nat.one_mul]
    rw [hk, Nat.mul_div_cancel _ hp, Nat.mul_mod_left]
    have h1 : decide (2 ^ j < 2 * 0) = false := by simp
    have h2 : (2 ^ j == 2 * 0) = false := by simp
    rw [h1, h2]; simp

def lastOf (m : Nat) (p : Int) : Int := max (p + m.log2 - 52) (-1074)
def nr (s : Bool) (m : Nat) (p : Int) : Nat := Ieee.double.nearest s m p

theorem log2_le (m : Nat) (h : m < 2 ^ 53) : m.log2 ≤ 52 := by
  by_cases hm : m = 0
  · subst hm; simp
  · have := (Nat.log2_lt hm).2 h
    omega

theorem dbl_least : Ieee.double.leastPlace = -1074 := by decide
theorem dbl_frac : Ieee.double.fractionBits = 52 := rfl
theorem dbl_binade : Ieee.double.binade = 4503599627370496 := by decide
theorem dbl_inf : Ieee.double.infRung = 9218868437227405312 := by decide
theorem dbl_sign : Ieee.double.signWeight = 9223372036854775808 := by decide

/-- What is written does not hang on how the number was given. -/
theorem nr_exact (s : Bool) (m : Nat) (p : Int) (k : Nat) (hm0 : m ≠ 0) (hm : m < 2 ^ 53) (hp : -1074 ≤ p) :
    nr s (m * 2 ^ k) (p - k) = Ieee.double.word s (min ((lastOf m p + 1074).toNat * 4503599627370496 + m * 2 ^ (p - lastOf m p).toNat) 9218868437227405312) := by
  have hL := log2_le m hm
  have hpk : 0 < 2 ^ k := Nat.two_pow_pos k
  unfold nr Format.nearest
  rw [if_neg (Nat.mul_ne_zero hm0 (by omega)), log2_mul_pow m k hm0, dbl_least, dbl_frac, dbl_binade, dbl_inf]
  have e : max (p - (k : Int) + ((m.log2 + k : Nat) : Int) - ((52 : Nat) : Int)) (-1074) = lastOf m p := by unfold lastOf; omega
  have hl : lastOf m p ≤ p := by unfold lastOf; omega
  simp only [e]
  generalize lastOf m p = l at hl ⊢
  have h1 : (l - -1074).toNat = (l + 1074).toNat := by omega
  rw [h1]
  congr 3
  rw [Nat.shiftLeft_eq, Nat.mul_assoc, ← Nat.pow_add]
  rw [cut_exact _ _ _ _ (by omega)]
  congr 2; omega

theorem nr_zero (s : Bool) (p : Int) : nr s 0 p = Ieee.double.word s 0 := by unfold nr Format.nearest; rw [if_pos rfl]

theorem nr_shift (s : Bool) (m : Nat) (p : Int) (k : Nat) (hm : m < 2 ^ 53) (hp : -1074 ≤ p) : nr s (m * 2 ^ k) (p - k) = nr s m p := by
  by_cases hm0 : m = 0
  · subst hm0; rw [Nat.zero_mul, nr_zero, nr_zero]
  · have := nr_exact s m p 0 hm0 hm hp
    rw [nr_exact s m p k hm0 hm hp, ← this]; simp

theorem read_word (s : Bool) (E K : Nat) (hE : E ≤ 1974) (hkept : K < 9007199254740992) (hnorm : E ≠ 0 → 4503599627370496 ≤ K) :
    Ieee.double.read (Ieee.double.word s (E * 4503599627370496 + K)) = .number s K (-1074 + (E : Int)) := by
  have hw : Ieee.double.word s (E * 4503599627370496 + K) / 9223372036854775808 % 2 = (if s = true then 1 else 0) := by
    unfold Format.word; rw [dbl_sign]
    cases s
    · rw [if_neg (by decide), if_neg (by decide)]; omega
    · rw [if_pos rfl, if_pos rfl]; omega
  have hr : Ieee.double.word s (E * 4503599627370496 + K) % 9223372036854775808 = E * 4503599627370496 + K := by
    unfold Format.word; rw [dbl_sign]
    cases s
    · rw [if_neg (by decide)]; omega
    · rw [if_pos rfl]; omega
  generalize Ieee.double.word s (E * 4503599627370496 + K) = B at hw hr ⊢
  unfold Format.read
  rw [dbl_sign, dbl_binade, dbl_inf, dbl_least]
  simp only [hw, hr]
  have hs : ((if s = true then 1 else 0) == 1) = s := by cases s <;> rfl
  rw [hs]
  by_cases hlt : E * 4503599627370496 + K < 4503599627370496
  · rw [if_pos hlt]
    have hE0 : E = 0 := by omega
    rw [hE0, Nat.zero_mul, Nat.zero_add]
    rfl
  · rw [if_neg hlt, if_pos (by omega)]
    have hK : 4503599627370496 ≤ K := by
      by_cases hE0 : E = 0
      · rw [hE0] at hlt; omega
      · exact hnorm hE0
    have hd : (E * 4503599627370496 + K) / 4503599627370496 = E + 1 := by omega
    have hmod : (E * 4503599627370496 + K) % 4503599627370496 = K - 4503599627370496 := by omega
    rw [hd, hmod]
    have e1 : 4503599627370496 + (K - 4503599627370496) = K := by omega
    have e2 : E + 1 - 1 = E := by omega
    rw [e1, e2]

theorem min_rung (E K : Nat) (hE : E ≤ 1974) (hkept : K < 9007199254740992) : min (E * 4503599627370496 + K) 9218868437227405312 = E * 4503599627370496 + K :=
  Nat.min_eq_left (by omega)

/-- What was written is read as it was. -/
theorem read_nr (s : Bool) (m : Nat) (p : Int) (hm : m < 2 ^ 53) (hp : -1074 ≤ p) (hq : p ≤ 900) :
    ∃ a : Nat, Ieee.double.read (nr s m p) = .number s (m * 2 ^ a) (p - a) := by
  by_cases hm0 : m = 0
  · subst hm0
    refine ⟨(p + 1074).toNat, ?_⟩
    rw [nr_zero, Nat.zero_mul]
    have : p - ((p + 1074).toNat : Int) = -1074 := by omega
    rw [this]
    cases s <;> decide
  · refine ⟨(p - lastOf m p).toNat, ?_⟩
    have h0 := nr_exact s m p 0 hm0 hm hp
    have e0 : nr s (m * 2 ^ 0) (p - ((0 : Nat) : Int)) = nr s m p := by simp
    rw [e0] at h0
    rw [h0]
    have hL := log2_le m hm
    have hb := (Nat.log2_eq_iff hm0).1 rfl
    have hl : lastOf m p ≤ p := by unfold lastOf; omega
    have hl2 : -1074 ≤ lastOf m p := by unfold lastOf; omega
    have hkept : m * 2 ^ (p - lastOf m p).toNat < 9007199254740992 := by
      have hA : (p - lastOf m p).toNat ≤ 52 - m.log2 := by unfold lastOf; omega
      have h2 : 2 ^ (p - lastOf m p).toNat ≤ 2 ^ (52 - m.log2) := Nat.pow_le_pow_right (by decide) hA
      have h3 : m * 2 ^ (p - lastOf m p).toNat ≤ m * 2 ^ (52 - m.log2) := Nat.mul_le_mul_left _ h2
      have h4 : m * 2 ^ (52 - m.log2) < 2 ^ (m.log2 + 1) * 2 ^ (52 - m.log2) := Nat.mul_lt_mul_of_pos_right hb.2 (Nat.two_pow_pos _)
      rw [← Nat.pow_add, show m.log2 + 1 + (52 - m.log2) = 53 by omega] at h4
      have : (2 : Nat) ^ 53 = 9007199254740992 := by decide
      omega
    have hnorm : lastOf m p ≠ -1074 → 4503599627370496 ≤ m * 2 ^ (p - lastOf m p).toNat := by
      intro hne
      have hA : (p - lastOf m p).toNat = 52 - m.log2 := by unfold lastOf at hne ⊢; omega
      rw [hA]
      have h4 : 2 ^ m.log2 * 2 ^ (52 - m.log2) ≤ m * 2 ^ (52 - m.log2) := Nat.mul_le_mul_right _ hb.1
      rw [← Nat.pow_add, show m.log2 + (52 - m.log2) = 52 by omega] at h4
      have : (2 : Nat) ^ 52 = 4503599627370496 := by decide
      omega
    have hpl : p - ((p - lastOf m p).toNat : Int) = lastOf m p := by omega
    rw [hpl]
    generalize m * 2 ^ (p - lastOf m p).toNat = K at hkept hnorm ⊢
    generalize hgl : lastOf m p = l at hl hl2 hnorm ⊢
    have hE : (l + 1074).toNat ≤ 1974 := by omega
    generalize hgE : (l + 1074).toNat = E at hE ⊢
    have hlE : l = -1074 + (E : Int) := by omega
    have hnorm' : E ≠ 0 → 4503599627370496 ≤ K := fun h => hnorm (by omega)
    rw [min_rung E K hE hkept]
    rw [hlE]
    exact read_word s E K hE hkept hnorm'

/-- 'b' is a float of the value 'v' times 2 ^ p, with at most 53 digits. -/
def FV (p : Int) (b : Nat) (v : Int) : Prop := ∃ s m, m < 2 ^ 53 ∧ b = nr s m p ∧ v = sg s m

theorem FV.read {p : Int} {b : Nat} {v : Int} (h : FV p b v) (hp : -1074 ≤ p) (hq : p ≤ 900) :
    ∃ s m a, Ieee.double.read b = .number s (m * 2 ^ a) (p - (a : Nat)) ∧ v = sg s m := by
  obtain ⟨s, m, hm, rfl, rfl⟩ := h
  obtain ⟨a, ha⟩ := read_nr s m p hm hp hq
  exact ⟨s, m, a, ha, rfl⟩

theorem signed_up (s : Bool) (m a c : Nat) (h : a ≤ c) : Ieee.signed s (m * 2 ^ a) (c - a) = sg s m * ((2 ^ c : Nat) : Int) := by
  have e : m * 2 ^ a * 2 ^ (c - a) = m * 2 ^ c := by rw [Nat.mul_assoc, ← Nat.pow_add]; congr 2; omega
  unfold Ieee.signed sg
  rw [Nat.shiftLeft_eq, e]
  cases s <;> simp [Int.neg_mul]

theorem sg_of (u : Int) (s : Bool) (h : u = 0 ∨ s = decide (u < 0)) : sg s u.natAbs = u := by
  unfold sg
  rcases h with rfl | rfl
  · cases s <;> rfl
  · by_cases h : u < 0 <;> simp [h] <;> omega

theorem sum_core {s t : Bool} {m n a b : Nat} {p u v : Int} (hu : u = sg s m) (hv : v = sg t n) (hp : -1074 ≤ p) (hs : (u + v).natAbs < 2 ^ 53) :
    ∃ r, ((Datum.number s (m * 2 ^ a) (p - (a : Nat))).sum (.number t (n * 2 ^ b) (p - (b : Nat)))).map Ieee.double.write = some r ∧ FV p r (u + v) := by
  have hc : min (p - (a : Nat)) (p - (b : Nat)) = p - ((max a b : Nat) : Int) := by omega
  have h1 : (p - (a : Int) - (p - ((max a b : Nat) : Int))).toNat = max a b - a := by omega
  have h2 : (p - (b : Int) - (p - ((max a b : Nat) : Int))).toNat = max a b - b := by omega
  have hpos : 0 < 2 ^ max a b := Nat.two_pow_pos _
  refine ⟨_, rfl, ?_⟩
  simp only [hc, h1, h2, signed_up s m a (max a b) (by omega), signed_up t n b (max a b) (by omega)]
  rw [← Int.add_mul, ← hu, ← hv, Int.natAbs_mul, Int.natAbs_natCast]
  generalize hS : (if (u + v) * ((2 ^ max a b : Nat) : Int) = 0 then (s && t) else decide ((u + v) * ((2 ^ max a b : Nat) : Int) < 0)) = S
  refine ⟨S, (u + v).natAbs, hs, ?_, ?_⟩
  · change nr S ((u + v).natAbs * 2 ^ max a b) (p - ((max a b : Nat) : Int)) = _
    exact nr_shift _ _ _ _ hs hp
  · refine (sg_of _ _ ?_).symm
    by_cases hz : u + v = 0
    · exact Or.inl hz
    · refine Or.inr ?_
      have hq : (0 : Int) < ((2 ^ max a b : Nat) : Int) := by omega
      rw [← hS, if_neg (Int.mul_ne_zero hz (by omega))]
      by_cases hn : u + v < 0
      · rw [decide_eq_true hn, decide_eq_true (Int.mul_neg_of_neg_of_pos hn hq)]
      · have h0 : 0 ≤ (u + v) * ((2 ^ max a b : Nat) : Int) := Int.mul_nonneg (by omega) (by omega)
        rw [decide_eq_false hn, decide_eq_false (Int.not_lt.2 h0)]

theorem FV.add {p : Int} {x y : Nat} {u v : Int} (hx : FV p x u) (hy : FV p y v) (hp : -1074 ≤ p) (hq : p ≤ 900) (hs : (u + v).natAbs < 2 ^ 53) :
    ∃ r, floatBits .add .f64 x y = some r ∧ FV p r (u + v) := by
  obtain ⟨s, m, a, h1, e1⟩ := hx.read hp hq
  obtain ⟨t, n, b, h2, e2⟩ := hy.read hp hq
  obtain ⟨r, hr, hf⟩ := sum_core (a := a) (b := b) e1 e2 hp hs
  refine ⟨r, ?_, hf⟩
  change ((Ieee.double.read x).sum (Ieee.double.read y)).map _ = _
  rw [h1, h2]; exact hr

theorem sg_not (t : Bool) (n : Nat) : sg (!t) n = -sg t n := by cases t <;> simp [sg]

theorem FV.sub {p : Int} {x y : Nat} {u v : Int} (hx : FV p x u) (hy : FV p y v) (hp : -1074 ≤ p) (hq : p ≤ 900) (hs : (u - v).natAbs < 2 ^ 53) :
    ∃ r, floatBits .sub .f64 x y = some r ∧ FV p r (u - v) := by
  obtain ⟨s, m, a, h1, e1⟩ := hx.read hp hq
  obtain ⟨t, n, b, h2, e2⟩ := hy.read hp hq
  have e3 : -v = sg (!t) n := by rw [sg_not, e2]
  obtain ⟨r, hr, hf⟩ := sum_core (a := a) (b := b) e1 e3 hp (by rw [← Int.sub_eq_add_neg]; exact hs)
  refine ⟨r, ?_, by rw [Int.sub_eq_add_neg]; exact hf⟩
  change ((Ieee.double.read x).sum (Ieee.double.read y).opposite).map _ = _
  rw [h1, h2]; exact hr

theorem FV.mul {x y : Nat} {u v : Int} (hx : FV 0 x u) (hy : FV 0 y v) (hs : (u * v).natAbs < 2 ^ 53) :
    ∃ r, floatBits .mul .f64 x y = some r ∧ FV 0 r (u * v) := by
  obtain ⟨s, m, a, h1, e1⟩ := hx.read (by decide) (by decide)
  obtain ⟨t, n, b, h2, e2⟩ := hy.read (by decide) (by decide)
  have hmn : (u * v).natAbs = m * n := by
    rw [Int.natAbs_mul, e1, e2]; unfold sg; cases s <;> cases t <;> simp
  refine ⟨nr (s ^^ t) (m * n) 0, ?_, s ^^ t, m * n, by omega, rfl, ?_⟩
  · change ((Ieee.double.read x).product (Ieee.double.read y)).map _ = _
    rw [h1, h2]
    change some (nr (s ^^ t) (m * 2 ^ a * (n * 2 ^ b)) (0 - (a : Int) + (0 - (b : Int)))) = _
    rw [show m * 2 ^ a * (n * 2 ^ b) = m * n * 2 ^ (a + b) by rw [Nat.pow_add]; simp only [Nat.mul_left_comm, Nat.mul_assoc]]
    rw [show (0 : Int) - (a : Int) + (0 - (b : Int)) = 0 - ((a + b : Nat) : Int) by omega]
    rw [nr_shift _ _ _ _ (by omega) (by decide)]
  · rw [e1, e2]; unfold sg; cases s <;> cases t <;> simp [Int.mul_neg, Int.neg_mul]

theorem cmp_mul (u v c : Int) (h : 0 < c) : compare (u * c) (v * c) = compare u v := by
  have l : u * c < v * c ↔ u < v := ⟨fun q => Int.lt_of_mul_lt_mul_right q (by omega), fun q => Int.mul_lt_mul_of_pos_right q h⟩
  have e : u * c = v * c ↔ u = v := ⟨fun q => Int.eq_of_mul_eq_mul_right (by omega) q, fun q => by rw [q]⟩
  simp only [compare, compareOfLessAndEq, l, e]

theorem FV.order {p : Int} {x y : Nat} {u v : Int} (hx : FV p x u) (hy : FV p y v) (hp : -1074 ≤ p) (hq : p ≤ 900) :
    FloatKind.f64.format.order x y = some (compare u v) := by
  obtain ⟨s, m, a, h1, e1⟩ := hx.read hp hq
  obtain ⟨t, n, b, h2, e2⟩ := hy.read hp hq
  have hc : min (p - (a : Nat)) (p - (b : Nat)) = p - ((max a b : Nat) : Int) := by omega
  have g1 : (p - (a : Int) - (p - ((max a b : Nat) : Int))).toNat = max a b - a := by omega
  have g2 : (p - (b : Int) - (p - ((max a b : Nat) : Int))).toNat = max a b - b := by omega
  have hpos : 0 < 2 ^ max a b := Nat.two_pow_pos _
  change (Ieee.double.read x).order (Ieee.double.read y) = _
  rw [h1, h2]
  unfold Datum.order
  simp only [hc, g1, g2, signed_up s m a (max a b) (by omega), signed_up t n b (max a b) (by omega)]
  rw [← e1, ← e2, cmp_mul _ _ _ (by omega)]

theorem cut_zero (s : Bool) (n j : Nat) : Toward.zero.cut s n j = n / 2 ^ j := by
  unfold Toward.cut
  simp only [Nat.shiftLeft_eq, Nat.one_mul, Bool.toNat_false, Nat.add_zero]
  by_cases h : j ≤ n.log2 + 2
  · rw [Nat.min_eq_left h]
  · have h1 : n < 2 ^ (n.log2 + 2) := Nat.lt_of_lt_of_le Nat.lt_log2_self (Nat.pow_le_pow_right (by decide) (by omega))
    have h2 : n < 2 ^ j := Nat.lt_of_lt_of_le h1 (Nat.pow_le_pow_right (by decide) (by omega))
    rw [Nat.min_eq_right (by omega), Nat.div_eq_of_lt h1, Nat.div_eq_of_lt h2]

theorem FV.toInt {k : Nat} {x : Nat} {u : Int} (hx : FV (-(k : Int)) x u) (hk : k ≤ 1074) :
    (FloatKind.f64.decode x).toInt .zero = some (u.tdiv ((2 ^ k : Nat) : Int)) := by
  obtain ⟨s, m, a, h1, e1⟩ := hx.read (by omega) (by omega)
  change (Ieee.double.read x).toInt .zero = _
  rw [h1]
  unfold Datum.toInt Datum.integral
  simp only [cut_zero]
  rw [show (-(k : Int) - (a : Int)).toNat = 0 by omega, show (-(-(k : Int) - (a : Int))).toNat = k + a by omega]
  rw [Nat.shiftLeft_zero, Nat.pow_add, Nat.mul_div_mul_right _ _ (Nat.two_pow_pos a), e1]
  unfold Ieee.signed sg
  cases s <;> simp [Int.neg_tdiv]

theorem FV.ofInt (n : Int) (h : n.natAbs < 2 ^ 53) : FV 0 (floatOfInt .f64 n) n :=
  ⟨decide (n < 0), n.natAbs, h, rfl, (sg_of n _ (Or.inr rfl)).symm⟩

theorem FV.lower {p : Int} {x : Nat} {u : Int} (k : Nat) (h : FV p x u) (hp : -1074 ≤ p) (hs : (u * ((2 ^ k : Nat) : Int)).natAbs < 2 ^ 53) : FV (p - k) x (u * ((2 ^ k : Nat) : Int)) := by
  obtain ⟨s, m, hm, rfl, rfl⟩ := h
  have e : sg s m * ((2 ^ k : Nat) : Int) = sg s (m * 2 ^ k) := by unfold sg; cases s <;> simp [Int.neg_mul]
  refine ⟨s, m * 2 ^ k, ?_, (nr_shift s m p k hm hp).symm, e⟩
  rw [e] at hs
  revert hs; unfold sg; cases s <;> simp <;> exact id
end Go.Proofs.Ytkmjfkfpjliecaa
