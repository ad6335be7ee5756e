/- Two rows of texts, of fields, of handlers, of instructions: alike or not. -/
import Derived.Test.YthmepecmeambmaaGreatKKp
import Derived.Deep.RegionHeld
namespace Go.Proofs.YthmepecmeambmaaGreat
open Go.RowKit
set_option linter.unusedVariables false

def eqL {α : Type} (f : α → α → Bool) : List α → List α → Bool
  | [], [] => true
  | x :: xs, y :: ys => f x y && eqL f xs ys
  | _, _ => false
theorem eqL_len {α : Type} (f : α → α → Bool) : ∀ (xs ys : List α), xs.length ≠ ys.length → eqL f xs ys = false
  | [], [], h => absurd rfl h
  | x :: xs, y :: ys, h => by rw [eqL, eqL_len f xs ys (by simpa using h), Bool.and_false]
  | [], _ :: _, _ => rfl
  | _ :: _, [], _ => rfl
theorem eqL_step {α : Type} (f : α → α → Bool) {xs ys : List α} {k : Nat} {x y : α} (hx : xs[k]? = some x) (hy : ys[k]? = some y) : eqL f (xs.drop k) (ys.drop k) = (f x y && eqL f (xs.drop (k + 1)) (ys.drop (k + 1))) := by
  obtain ⟨h1, e1⟩ := List.getElem?_eq_some_iff.1 hx
  obtain ⟨h2, e2⟩ := List.getElem?_eq_some_iff.1 hy
  rw [List.drop_eq_getElem_cons h1, List.drop_eq_getElem_cons h2, e1, e2, eqL]
theorem eqL_end {α : Type} (f : α → α → Bool) {xs ys : List α} {k : Nat} (h1 : xs.length ≤ k) (h2 : ys.length ≤ k) : eqL f (xs.drop k) (ys.drop k) = true := by
  rw [List.drop_eq_nil_of_le h1, List.drop_eq_nil_of_le h2, eqL]
theorem eqL_refl {α : Type} (f : α → α → Bool) (h : ∀ x, f x x = true) : ∀ xs : List α, eqL f xs xs = true
  | [] => rfl
  | x :: xs => by rw [eqL, h x, eqL_refl f h xs]; rfl

def eqT (a b : ByteArray) : Bool := a.toList == b.toList
def eqF (x y : Fld) : Bool := x.n.toList == y.n.toList && (x.d.toList == y.d.toList && x.st == y.st)
def eqH (x y : Hnd) : Bool := x.fr == y.fr && (x.to == y.to && (x.pl == y.pl && x.c.toList == y.c.toList))
def eqO (x y : Ins) : Bool := eqI (own x) (own y)
def eqM (m n : Mth) : Bool := m.n.toList == n.n.toList && (m.d.toList == n.d.toList && (m.st == n.st && (m.ab == n.ab && (m.sk == n.sk && (m.lo == n.lo && (eqL eqO m.code n.code && eqL eqH m.hs n.hs))))))
def eqC (a b : Cls) : Bool := a.n.toList == b.n.toList && (a.s.toList == b.s.toList && (a.it == b.it && (a.ab == b.ab && (eqL eqT a.im b.im && (eqL eqF a.fs b.fs && eqL eqM a.me b.me)))))

def fldV (x : Fld) : Value := .agg #[.string x.n, .string x.d, .bool x.st]
def hndV (x : Hnd) : Value := .agg #[.int .i64 x.fr, .int .i64 x.to, .int .i64 x.pl, .string x.c]
theorem neqF (x y : Fld) (W : World) : (binOp .neq 103 (fldV x) (fldV y)).run Tryz.prog W = .ok (.bool (!eqF x y)) W := by
  unfold fldV eqF
  generalize x.n = a1
  generalize x.d = a2
  generalize x.st = a3
  generalize y.n = b1
  generalize y.d = b2
  generalize y.st = b3
  obtain ⟨q1, h1⟩ : ∃ q, (a1.toList == b1.toList) = q := ⟨_, rfl⟩
  obtain ⟨q2, h2⟩ : ∃ q, (a2.toList == b2.toList) = q := ⟨_, rfl⟩
  obtain ⟨q3, h3⟩ : ∃ q, (a3 == b3) = q := ⟨_, rfl⟩
  go_simp
  cases q1 <;> cases q2 <;> cases q3 <;> rfl
theorem neqH (x y : Hnd) (W : World) : (binOp .neq 124 (hndV x) (hndV y)).run Tryz.prog W = .ok (.bool (!eqH x y)) W := by
  unfold hndV eqH
  generalize x.fr = a1
  generalize x.to = a2
  generalize x.pl = a3
  generalize x.c = a4
  generalize y.fr = b1
  generalize y.to = b2
  generalize y.pl = b3
  generalize y.c = b4
  obtain ⟨q1, h1⟩ : ∃ q, (a1 == b1) = q := ⟨_, rfl⟩
  obtain ⟨q2, h2⟩ : ∃ q, (a2 == b2) = q := ⟨_, rfl⟩
  obtain ⟨q3, h3⟩ : ∃ q, (a3 == b3) = q := ⟨_, rfl⟩
  obtain ⟨q4, h4⟩ : ∃ q, (a4.toList == b4.toList) = q := ⟨_, rfl⟩
  go_simp
  cases q1 <;> cases q2 <;> cases q3 <;> cases q4 <;> rfl
theorem neqI (x y : Ins) (W : World) : (binOp .neq 62 x.v y.v).run Tryz.prog W = .ok (.bool (!eqI x y)) W := by
  unfold Ins.v eqI
  generalize x.op = a1
  generalize x.a = a2
  generalize x.b = a3
  generalize x.c = a4
  generalize x.n = a5
  generalize x.d = a6
  generalize y.op = b1
  generalize y.a = b2
  generalize y.b = b3
  generalize y.c = b4
  generalize y.n = b5
  generalize y.d = b6
  obtain ⟨q1, h1⟩ : ∃ q, (a1 == b1) = q := ⟨_, rfl⟩
  obtain ⟨q2, h2⟩ : ∃ q, (a2 == b2) = q := ⟨_, rfl⟩
  obtain ⟨q3, h3⟩ : ∃ q, (a3 == b3) = q := ⟨_, rfl⟩
  obtain ⟨q4, h4⟩ : ∃ q, (a4.toList == b4.toList) = q := ⟨_, rfl⟩
  obtain ⟨q5, h5⟩ : ∃ q, (a5.toList == b5.toList) = q := ⟨_, rfl⟩
  obtain ⟨q6, h6⟩ : ∃ q, (a6.toList == b6.toList) = q := ⟨_, rfl⟩
  go_simp
  cases q1 <;> cases q2 <;> cases q3 <;> cases q4 <;> cases q5 <;> cases q6 <;> rfl

set_option maxHeartbeats 2000000 in
theorem refTexts_any (xs ys : List ByteArray) (v u : Value) (w : World) (hx : Sl 1 RS w v xs) (hy : Sl 1 RS w u ys) :
    Calls Tryz.prog 94 #[v, u] w fun e w' => e = .returned (.bool (eqL eqT xs ys)) ∧ Ch w w' := by
  obtain ⟨ax, cx, rfl, hx1, hx2⟩ := hx.form
  obtain ⟨ay, cy, rfl, hy1, hy2⟩ := hy.form
  by_cases hl : xs.length = ys.length
  · obtain ⟨r, hr⟩ : ∃ r, eqL eqT xs ys = r := ⟨_, rfl⟩
    rw [hr]
    have t1 : ((xs.length : Int) != (ys.length : Int)) = false := by simp [hl]
    go_enter Tryz.func94, Tryz.ntmps94
    go_wp2
    go_loopw [5] (fun i wr => ∃ k : Nat, k ≤ xs.length ∧ i = .int .i64 k ∧ eqL eqT (xs.drop k) (ys.drop k) = r ∧ Ch w wr) (fun i _ => xs.length - (intOf i).toNat)
    case atStart => exact ⟨0, Nat.zero_le _, rfl, by simpa using hr, Ch.refl _⟩
    case round =>
      obtain ⟨k, hk, rfl, hd, hcr⟩ := hrel
      by_cases hlt : k < xs.length
      · obtain ⟨x, hxk⟩ : ∃ a, xs[k]? = some a := ⟨_, List.getElem?_eq_getElem hlt⟩
        obtain ⟨y, hyk⟩ : ∃ a, ys[k]? = some a := ⟨_, List.getElem?_eq_getElem (by omega)⟩
        obtain ⟨b, off, hao, d0⟩ := (hx.keepS hcr).atS hxk
        obtain ⟨b2, off2, hao2, d1⟩ := (hy.keepS hcr).atS hyk
        rw [eqL_step eqT hxk hyk] at hd
        have HD : Hid ((eqT x y && eqL eqT (xs.drop (k + 1)) (ys.drop (k + 1))) = r) := hd
        have HE : Hid (xs.length = ys.length) := hl
        have hlt2 : k < ys.length := by omega
        clear hd hxk hyk hr hl
        subst hao hao2
        obtain ⟨q, hq⟩ : ∃ q, (x.toList == y.toList) = q := ⟨_, rfl⟩
        have HQ : Hid (eqT x y = q) := hq
        cases q
        · go_wp2_with fail
          go_quiet (fail)
          go_wp2
          go_ret
          have e := HD.out
          rw [HQ.out, Bool.false_and] at e
          exact ⟨congrArg (fun b => Ending.returned (.bool b)) e, hcr.drewN _⟩
        · go_wp2_with fail
          go_quiet (fail)
          go_wp2
          go_roundw
          case rel => exact ⟨k + 1, by omega, by go_num, by have e := HD.out; rw [HQ.out, Bool.true_and] at e; exact e, hcr.drewN _⟩
          case measure => simp [intOf]; omega
      · obtain rfl : k = xs.length := by omega
        rw [eqL_end eqT (Nat.le_refl _) (by omega)] at hd
        subst hd
        clear hr
        go_wp2
        go_ret
        exact ⟨rfl, hcr⟩
  · have t1 : ((xs.length : Int) != (ys.length : Int)) = true := by simp; omega
    rw [eqL_len _ _ _ hl]
    clear hl
    go_enter Tryz.func94, Tryz.ntmps94
    go_wp2
    go_ret
    exact ⟨rfl, Ch.refl _⟩

end Go.Proofs.YthmepecmeambmaaGreat
