/- Two instructions: are they the same; how much there is of one. -/
import Derived.Test.YtdalibfgkkgcpaaGreatPure
import Derived.Deep.RegionHeld
namespace Go.Proofs.YtdalibfgkkgcpaaGreat
open Go.RowKit
set_option linter.unusedVariables false

/-- An instruction. -/
structure Ins where
  op : Int
  a : Int
  b : Int
  c : ByteArray
  n : ByteArray
  d : ByteArray
def Ins.v (x : Ins) : Value := .agg #[.int .i64 x.op, .int .i64 x.a, .int .i64 x.b, .string x.c, .string x.n, .string x.d]
/-- With the fields of its Op alone. -/
def own (x : Ins) : Ins :=
  ⟨x.op, if sA (kd (ix x.op)) then x.a else 0, if sB (kd (ix x.op)) then x.b else 0, if sC (kd (ix x.op)) then x.c else ⟨#[]⟩, if sN (kd (ix x.op)) then x.n else ⟨#[]⟩, if sD (kd (ix x.op)) then x.d else ⟨#[]⟩⟩
def eqI (x y : Ins) : Bool := x.op == y.op && (x.a == y.a && (x.b == y.b && (x.c.toList == y.c.toList && (x.n.toList == y.n.toList && x.d.toList == y.d.toList))))
theorem eqI_refl (x : Ins) : eqI x x = true := by simp [eqI]
theorem eqI_symm (x y : Ins) : eqI x y = eqI y x := by
  unfold eqI
  rw [Bool.beq_comm (a := x.op), Bool.beq_comm (a := x.a), Bool.beq_comm (a := x.b), Bool.beq_comm (a := x.c.toList), Bool.beq_comm (a := x.n.toList), Bool.beq_comm (a := x.d.toList)]
theorem own_own (x : Ins) : own (own x) = own x := by
  unfold own
  simp only
  congr 1 <;> split <;> rfl

theorem own_any (x : Ins) (w : World) : Calls Tryz.prog 127 #[x.v] w fun e w' => e = .returned (own x).v ∧ Ch w w' :=
  own_at x.op x.a x.b (kd (ix x.op)) (pp (ix x.op)) (ph (ix x.op)) (wB (ix x.op)) x.c x.n x.d w _ _ _ _ _ (pat_kind (kd_range _)) (fun w0 => rowOf_any _ w0) (fun w0 => shape_any _ w0)
theorem pure_any (x : Ins) (w : World) : Calls Tryz.prog 19 #[x.v] w fun e w' => e = .returned (own x).v ∧ Ch w w' :=
  pure_at x.op x.a x.b x.c x.n x.d w _ _ _ _ _ _ (pat_kind (kd_range _)) (fun w0 => refShape_any _ w0)

theorem eq23 (x y : Ins) (W : World) : (binOp .eql 47 x.v y.v).run Tryz.prog W = .ok (.bool (eqI x y)) W := by
  unfold Ins.v eqI
  generalize x.op = a1
  generalize x.a = a2
  generalize x.b = a3
  generalize x.c = a4
  generalize x.n = a5
  generalize x.d = a6
  generalize y.op = b1
  generalize y.a = b2
  generalize y.b = b3
  generalize y.c = b4
  generalize y.n = b5
  generalize y.d = b6
  obtain ⟨q1, h1⟩ : ∃ q, (a1 == b1) = q := ⟨_, rfl⟩
  obtain ⟨q2, h2⟩ : ∃ q, (a2 == b2) = q := ⟨_, rfl⟩
  obtain ⟨q3, h3⟩ : ∃ q, (a3 == b3) = q := ⟨_, rfl⟩
  obtain ⟨q4, h4⟩ : ∃ q, (a4.toList == b4.toList) = q := ⟨_, rfl⟩
  obtain ⟨q5, h5⟩ : ∃ q, (a5.toList == b5.toList) = q := ⟨_, rfl⟩
  obtain ⟨q6, h6⟩ : ∃ q, (a6.toList == b6.toList) = q := ⟨_, rfl⟩
  go_simp
  cases q1 <;> cases q2 <;> cases q3 <;> cases q4 <;> cases q5 <;> cases q6 <;> rfl

theorem ins_keptB {w w' : World} {o : Obj} {op a b : Int} {c n d : ByteArray} (h : Ch ((w.alloc o).alloc (.cells #[.int .i64 op, .int .i64 a, .int .i64 b, .string c, .string n, .string d] 47)) w') : w'.heap[w.heap.size + 1]? = some (.cells (insC op a b c n d) 47) := by
  have := ins_kept h
  have hz : (w.alloc o).heap.size = w.heap.size + 1 := by simp
  rwa [hz] at this
theorem Ch.drew {a b : World} (h : Ch a b) : Ch a b.drew := ⟨h.os, h.tape, h.output, h.size, h.block⟩
/-- The twelve cells of two instructions, one behind the other, and that nothing there has turned. -/
def Two (W0 : World) (g : Nat) (x y : Ins) (w' : World) : Prop :=
  Ch W0 w' ∧ w'.cell? ⟨g, 0, none⟩ = some (.int .i64 x.op) ∧ w'.cell? ⟨g, 1, none⟩ = some (.int .i64 x.a) ∧ w'.cell? ⟨g, 2, none⟩ = some (.int .i64 x.b) ∧ w'.cell? ⟨g, 3, none⟩ = some (.string x.c) ∧ w'.cell? ⟨g, 4, none⟩ = some (.string x.n) ∧ w'.cell? ⟨g, 5, none⟩ = some (.string x.d) ∧
  w'.cell? ⟨g + 1, 0, none⟩ = some (.int .i64 y.op) ∧ w'.cell? ⟨g + 1, 1, none⟩ = some (.int .i64 y.a) ∧ w'.cell? ⟨g + 1, 2, none⟩ = some (.int .i64 y.b) ∧ w'.cell? ⟨g + 1, 3, none⟩ = some (.string y.c) ∧ w'.cell? ⟨g + 1, 4, none⟩ = some (.string y.n) ∧ w'.cell? ⟨g + 1, 5, none⟩ = some (.string y.d)
theorem two_mk {w : World} {x y : Ins} {w' : World} (h : Ch ((w.alloc (.cells (insC x.op x.a x.b x.c x.n x.d) 47)).alloc (.cells (insC y.op y.a y.b y.c y.n y.d) 47)) w') : Two ((w.alloc (.cells (insC x.op x.a x.b x.c x.n x.d) 47)).alloc (.cells (insC y.op y.a y.b y.c y.n y.d) 47)) w.heap.size x y w' := by
  obtain ⟨a0, a1, a2, a3, a4, a5⟩ := insC_at (ins_kept0 h)
  obtain ⟨b0, b1, b2, b3, b4, b5⟩ := insC_at (ins_keptB h)
  exact ⟨h, a0, a1, a2, a3, a4, a5, b0, b1, b2, b3, b4, b5⟩

set_option maxHeartbeats 4000000 in
theorem same_any (x y : Ins) (w : World) : Calls Tryz.prog 98 #[x.v, y.v] w fun e w' => e = .returned (.bool (eqI (own x) (own y))) ∧ Ch w w' := by
  have h1 := fun w0 => own_any x w0
  have h2 := fun w0 => own_any y w0
  have he := fun W => eq23 (own x) (own y) W
  have hTwo := fun w' h => two_mk (w := w) (x := x) (y := y) (w' := w') h
  generalize own x = X at *
  generalize own y = Y at *
  generalize eqI X Y = q at *
  unfold Ins.v at *
  go_enter Tryz.func98, Tryz.ntmps98
  go_wp2_with fail
  have hCW : Ch w ((w.alloc (.cells (insC x.op x.a x.b x.c x.n x.d) 47)).alloc (.cells (insC y.op y.a y.b y.c y.n y.d) 47)) := ((Ch.refl w).alloc _).alloc _
  unfold insC at hTwo hCW
  generalize (w.alloc (.cells #[.int .i64 x.op, .int .i64 x.a, .int .i64 x.b, .string x.c, .string x.n, .string x.d] 47)).alloc (.cells #[.int .i64 y.op, .int .i64 y.a, .int .i64 y.b, .string y.c, .string y.n, .string y.d] 47) = w1 at *
  unfold Two at hTwo
  have HT : Hid (∀ w', Ch w1 w' → _) := hTwo
  clear hTwo
  go_region_held (fun w' => Ch w1 w' ∧ w'.cell? ⟨w.heap.size, 0, none⟩ = some (.int .i64 x.op) ∧ w'.cell? ⟨w.heap.size, 1, none⟩ = some (.int .i64 x.a) ∧ w'.cell? ⟨w.heap.size, 2, none⟩ = some (.int .i64 x.b) ∧ w'.cell? ⟨w.heap.size, 3, none⟩ = some (.string x.c) ∧ w'.cell? ⟨w.heap.size, 4, none⟩ = some (.string x.n) ∧ w'.cell? ⟨w.heap.size, 5, none⟩ = some (.string x.d) ∧
    w'.cell? ⟨w.heap.size + 1, 0, none⟩ = some (.int .i64 y.op) ∧ w'.cell? ⟨w.heap.size + 1, 1, none⟩ = some (.int .i64 y.a) ∧ w'.cell? ⟨w.heap.size + 1, 2, none⟩ = some (.int .i64 y.b) ∧ w'.cell? ⟨w.heap.size + 1, 3, none⟩ = some (.string y.c) ∧ w'.cell? ⟨w.heap.size + 1, 4, none⟩ = some (.string y.n) ∧ w'.cell? ⟨w.heap.size + 1, 5, none⟩ = some (.string y.d))
    ((refine HT.out _ ?_; repeat (first | exact (Ch.refl _).drew | refine Ch.trans ?_ (by assumption)))) (first
      | (go_at_call 127; (with_reducible refine (h1 _).mono ?_); rintro e w3 ⟨rfl, hc3⟩)
      | (go_at_call 127; (with_reducible refine (h2 _).mono ?_); rintro e w4 ⟨rfl, hc4⟩))
  all_goals
    go_wp2
    go_ret
    exact ⟨rfl, hCW.trans ((((Ch.refl _).drew.trans hc3)).trans hc4)⟩

/-- Some number that is not too great. -/
def Some (e : Ending) : Prop := ∃ m : Int, e = .returned (.int .i64 m) ∧ 0 ≤ m ∧ m ≤ 1099511627776
set_option maxHeartbeats 2000000 in
theorem sum_any (n : Int) (B len : Nat) (z : Nat → Int) (w : World) (hn : 0 ≤ n ∧ n ≤ 1099511627776) (hl : len ≤ 10) (hc : ∀ k, k < len → w.cell? ⟨B, k, none⟩ = some (.int .i64 (z k)) ∧ 0 ≤ z k) :
    Calls Tryz.prog 21 #[.int .i64 n, .slice (some ⟨B, 0, none⟩) len len] w fun e w' => Some e ∧ w' = w := by
  have HC : Hid (∀ k, k < len → w.cell? ⟨B, k, none⟩ = some (.int .i64 (z k)) ∧ 0 ≤ z k) := hc
  clear hc
  go_enter Tryz.func21, Tryz.ntmps21
  go_wp2
  go_loop [0, 5] (fun nv i => ∃ (k : Nat) (m : Int), k ≤ len ∧ nv = .int .i64 m ∧ i = .int .i64 k ∧ 0 ≤ m ∧ m ≤ 1099511627776) (fun _ i => len - (intOf i).toNat)
  case atStart => exact ⟨0, n, by omega, rfl, rfl, hn⟩
  case round =>
    obtain ⟨k, m, hk, rfl, rfl, m1, m2⟩ := hrel
    by_cases hlt : k < len
    · obtain ⟨d0, d1⟩ := HC.out k hlt
      generalize z k = zk at *
      have ad : (⟨B, 0, none⟩ : Addr).add k = ⟨B, k, none⟩ := by unfold Addr.add; split <;> simp_all
      have t0 : decide ((1099511627776 : Int) < m) = false := by simp; omega
      have w1 : IntKind.i64.wrap (1099511627776 - m) = 1099511627776 - m := by rw [IntKind.wrap_i64]; omega
      by_cases hz : 1099511627776 - m < zk
      · go_wp2
        go_ret
        exact ⟨⟨_, rfl, by omega, by omega⟩, rfl⟩
      · have t1 : decide (1099511627776 - m < zk) = false := by simp; omega
        have w2 : IntKind.i64.wrap (m + zk) = m + zk := by rw [IntKind.wrap_i64]; omega
        go_wp2
        exact ⟨⟨k + 1, m + zk, by omega, rfl, rfl, by omega, by omega⟩, by simp [intOf]; omega⟩
    · obtain rfl : k = len := by omega
      go_wp2
      go_ret
      exact ⟨⟨_, rfl, m1, m2⟩, rfl⟩
end Go.Proofs.YtdalibfgkkgcpaaGreat
