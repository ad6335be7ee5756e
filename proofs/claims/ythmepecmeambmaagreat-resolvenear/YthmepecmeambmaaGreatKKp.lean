/- Two instructions: are they the same; how much there is of one. -/
/- A class in memory: its fields, methods, instructions, handlers. -/
/- What stays while a structure of one's own turns; a map of places. -/
import Derived.Test.YthmepecmeambmaaGreatKPure
import Derived.Deep.RegionHeld
import Derived.Maps.OwnSet
import Derived.Maps.Views
import Derived.Maps.AppendAt
import Derived.StringKeys
namespace Go.Proofs.YthmepecmeambmaaGreat
open Go.RowKit
set_option linter.unusedVariables false

/-- An instruction. -/
structure Ins where
  op : Int
  a : Int
  b : Int
  c : ByteArray
  n : ByteArray
  d : ByteArray
def Ins.v (x : Ins) : Value := .agg #[.int .i64 x.op, .int .i64 x.a, .int .i64 x.b, .string x.c, .string x.n, .string x.d]
/-- With the fields of its Op alone. -/
def own (x : Ins) : Ins :=
  ⟨x.op, if sA (kd (ix x.op)) then x.a else 0, if sB (kd (ix x.op)) then x.b else 0, if sC (kd (ix x.op)) then x.c else ⟨#[]⟩, if sN (kd (ix x.op)) then x.n else ⟨#[]⟩, if sD (kd (ix x.op)) then x.d else ⟨#[]⟩⟩
def eqI (x y : Ins) : Bool := x.op == y.op && (x.a == y.a && (x.b == y.b && (x.c.toList == y.c.toList && (x.n.toList == y.n.toList && x.d.toList == y.d.toList))))
theorem eqI_refl (x : Ins) : eqI x x = true := by simp [eqI]
theorem eqI_symm (x y : Ins) : eqI x y = eqI y x := by
  unfold eqI
  rw [Bool.beq_comm (a := x.op), Bool.beq_comm (a := x.a), Bool.beq_comm (a := x.b), Bool.beq_comm (a := x.c.toList), Bool.beq_comm (a := x.n.toList), Bool.beq_comm (a := x.d.toList)]
theorem own_own (x : Ins) : own (own x) = own x := by
  unfold own
  simp only
  congr 1 <;> split <;> rfl

theorem pure_any (x : Ins) (w : World) : Calls Tryz.prog 95 #[x.v] w fun e w' => e = .returned (own x).v ∧ Ch w w' :=
  pure_at x.op x.a x.b x.c x.n x.d w _ _ _ _ _ _ (pat_kind (kd_range _)) (fun w0 => refShape_any _ w0)

theorem eq23 (x y : Ins) (W : World) : (binOp .eql 62 x.v y.v).run Tryz.prog W = .ok (.bool (eqI x y)) W := by
  unfold Ins.v eqI
  generalize x.op = a1
  generalize x.a = a2
  generalize x.b = a3
  generalize x.c = a4
  generalize x.n = a5
  generalize x.d = a6
  generalize y.op = b1
  generalize y.a = b2
  generalize y.b = b3
  generalize y.c = b4
  generalize y.n = b5
  generalize y.d = b6
  obtain ⟨q1, h1⟩ : ∃ q, (a1 == b1) = q := ⟨_, rfl⟩
  obtain ⟨q2, h2⟩ : ∃ q, (a2 == b2) = q := ⟨_, rfl⟩
  obtain ⟨q3, h3⟩ : ∃ q, (a3 == b3) = q := ⟨_, rfl⟩
  obtain ⟨q4, h4⟩ : ∃ q, (a4.toList == b4.toList) = q := ⟨_, rfl⟩
  obtain ⟨q5, h5⟩ : ∃ q, (a5.toList == b5.toList) = q := ⟨_, rfl⟩
  obtain ⟨q6, h6⟩ : ∃ q, (a6.toList == b6.toList) = q := ⟨_, rfl⟩
  go_simp
  cases q1 <;> cases q2 <;> cases q3 <;> cases q4 <;> cases q5 <;> cases q6 <;> rfl

theorem ins_keptB {w w' : World} {o : Obj} {op a b : Int} {c n d : ByteArray} (h : Ch ((w.alloc o).alloc (.cells #[.int .i64 op, .int .i64 a, .int .i64 b, .string c, .string n, .string d] 62)) w') : w'.heap[w.heap.size + 1]? = some (.cells (insC op a b c n d) 62) := by
  have := ins_kept h
  have hz : (w.alloc o).heap.size = w.heap.size + 1 := by simp
  rwa [hz] at this
theorem Ch.drew {a b : World} (h : Ch a b) : Ch a b.drew := ⟨h.os, h.tape, h.output, h.size, h.block⟩
/-- The twelve cells of two instructions, one behind the other, and that nothing there has turned. -/
def Two (W0 : World) (g : Nat) (x y : Ins) (w' : World) : Prop :=
  Ch W0 w' ∧ w'.cell? ⟨g, 0, none⟩ = some (.int .i64 x.op) ∧ w'.cell? ⟨g, 1, none⟩ = some (.int .i64 x.a) ∧ w'.cell? ⟨g, 2, none⟩ = some (.int .i64 x.b) ∧ w'.cell? ⟨g, 3, none⟩ = some (.string x.c) ∧ w'.cell? ⟨g, 4, none⟩ = some (.string x.n) ∧ w'.cell? ⟨g, 5, none⟩ = some (.string x.d) ∧
  w'.cell? ⟨g + 1, 0, none⟩ = some (.int .i64 y.op) ∧ w'.cell? ⟨g + 1, 1, none⟩ = some (.int .i64 y.a) ∧ w'.cell? ⟨g + 1, 2, none⟩ = some (.int .i64 y.b) ∧ w'.cell? ⟨g + 1, 3, none⟩ = some (.string y.c) ∧ w'.cell? ⟨g + 1, 4, none⟩ = some (.string y.n) ∧ w'.cell? ⟨g + 1, 5, none⟩ = some (.string y.d)
theorem two_mk {w : World} {x y : Ins} {w' : World} (h : Ch ((w.alloc (.cells (insC x.op x.a x.b x.c x.n x.d) 62)).alloc (.cells (insC y.op y.a y.b y.c y.n y.d) 62)) w') : Two ((w.alloc (.cells (insC x.op x.a x.b x.c x.n x.d) 62)).alloc (.cells (insC y.op y.a y.b y.c y.n y.d) 62)) w.heap.size x y w' := by
  obtain ⟨a0, a1, a2, a3, a4, a5⟩ := insC_at (ins_kept0 h)
  obtain ⟨b0, b1, b2, b3, b4, b5⟩ := insC_at (ins_keptB h)
  exact ⟨h, a0, a1, a2, a3, a4, a5, b0, b1, b2, b3, b4, b5⟩

/-- Some number that is not too great. -/
def Some (e : Ending) : Prop := ∃ m : Int, e = .returned (.int .i64 m) ∧ 0 ≤ m ∧ m ≤ 1099511627776
set_option maxHeartbeats 2000000 in
theorem sum_any (n : Int) (B len : Nat) (z : Nat → Int) (w : World) (hn : 0 ≤ n ∧ n ≤ 1099511627776) (hl : len ≤ 10) (hc : ∀ k, k < len → w.cell? ⟨B, k, none⟩ = some (.int .i64 (z k)) ∧ 0 ≤ z k) :
    Calls Tryz.prog 58 #[.int .i64 n, .slice (some ⟨B, 0, none⟩) len len] w fun e w' => Some e ∧ w' = w := by
  have HC : Hid (∀ k, k < len → w.cell? ⟨B, k, none⟩ = some (.int .i64 (z k)) ∧ 0 ≤ z k) := hc
  clear hc
  go_enter Tryz.func58, Tryz.ntmps58
  go_wp2
  go_loop [0, 5] (fun nv i => ∃ (k : Nat) (m : Int), k ≤ len ∧ nv = .int .i64 m ∧ i = .int .i64 k ∧ 0 ≤ m ∧ m ≤ 1099511627776) (fun _ i => len - (intOf i).toNat)
  case atStart => exact ⟨0, n, by omega, rfl, rfl, hn⟩
  case round =>
    obtain ⟨k, m, hk, rfl, rfl, m1, m2⟩ := hrel
    by_cases hlt : k < len
    · obtain ⟨d0, d1⟩ := HC.out k hlt
      generalize z k = zk at *
      have ad : (⟨B, 0, none⟩ : Addr).add k = ⟨B, k, none⟩ := by unfold Addr.add; split <;> simp_all
      have t0 : decide ((1099511627776 : Int) < m) = false := by simp; omega
      have w1 : IntKind.i64.wrap (1099511627776 - m) = 1099511627776 - m := by rw [IntKind.wrap_i64]; omega
      by_cases hz : 1099511627776 - m < zk
      · go_wp2
        go_ret
        exact ⟨⟨_, rfl, by omega, by omega⟩, rfl⟩
      · have t1 : decide (1099511627776 - m < zk) = false := by simp; omega
        have w2 : IntKind.i64.wrap (m + zk) = m + zk := by rw [IntKind.wrap_i64]; omega
        go_wp2
        exact ⟨⟨k + 1, m + zk, by omega, rfl, rfl, by omega, by omega⟩, by simp [intOf]; omega⟩
    · obtain rfl : k = len := by omega
      go_wp2
      go_ret
      exact ⟨⟨_, rfl, m1, m2⟩, rfl⟩
end Go.Proofs.YthmepecmeambmaaGreat
namespace Go.Proofs.YthmepecmeambmaaGreat
open Go.RowKit
set_option linter.unusedVariables false

structure Fld where
  n : ByteArray
  d : ByteArray
  st : Bool
structure Hnd where
  fr : Int
  to : Int
  pl : Int
  c : ByteArray
structure Mth where
  n : ByteArray
  d : ByteArray
  st : Bool
  ab : Bool
  sk : Int
  lo : Int
  code : List Ins
  hs : List Hnd
structure Cls where
  n : ByteArray
  s : ByteArray
  it : Bool
  ab : Bool
  im : List ByteArray
  fs : List Fld
  me : List Mth

/-- A slice over rows of so many cells. -/
def Sl {α : Type} (k : Nat) (R : World → List Value → α → Prop) (w : World) (v : Value) (xs : List α) : Prop :=
  ∃ ao cap, v = .slice ao xs.length cap ∧ xs.length ≤ cap ∧ cap ≤ 9223372036854775807 ∧
    (0 < xs.length → ∃ b off, ao = some ⟨b, off, none⟩ ∧ ∀ i a, xs[i]? = some a → ∃ cs, R w cs a ∧ ∀ j u, cs[j]? = some u → w.cell? ⟨b, off + i * k + j, none⟩ = some u)

def RS (w : World) (cs : List Value) (s : ByteArray) : Prop := cs = [.string s]
def RI (w : World) (cs : List Value) (x : Ins) : Prop := cs = [.int .i64 x.op, .int .i64 x.a, .int .i64 x.b, .string x.c, .string x.n, .string x.d]
def RF (w : World) (cs : List Value) (x : Fld) : Prop := cs = [.string x.n, .string x.d, .bool x.st]
def RH (w : World) (cs : List Value) (x : Hnd) : Prop := cs = [.int .i64 x.fr, .int .i64 x.to, .int .i64 x.pl, .string x.c]
def RM (w : World) (cs : List Value) (m : Mth) : Prop :=
  ∃ vc vh, cs = [.string m.n, .string m.d, .bool m.st, .bool m.ab, .int .i64 m.sk, .int .i64 m.lo, vc, vh] ∧ Sl 6 RI w vc m.code ∧ Sl 4 RH w vh m.hs
/-- The three slices of a class. -/
def ClsAt (w : World) (c : Cls) (vi vf vm : Value) : Prop := Sl 1 RS w vi c.im ∧ Sl 3 RF w vf c.fs ∧ Sl 8 RM w vm c.me

theorem cell_keep {w w' : World} (h : Ch w w') {g i : Nat} {v : Value} (hc : w.cell? ⟨g, i, none⟩ = some v) : w'.cell? ⟨g, i, none⟩ = some v := by
  have h1 := World.block_lt_of_cell? _ _ hc
  rw [World.cell?_of_block (w := w) (h.block g h1)]
  exact hc
theorem Sl.keep {α : Type} {k : Nat} {R : World → List Value → α → Prop} {w w' : World} {v : Value} {xs : List α} (h : Sl k R w v xs) (hR : ∀ cs a, R w cs a → R w' cs a) (c : Ch w w') : Sl k R w' v xs := by
  obtain ⟨ao, cap, hv, h1, h2, h3⟩ := h
  refine ⟨ao, cap, hv, h1, h2, fun hp => ?_⟩
  obtain ⟨b, off, ha, hc⟩ := h3 hp
  refine ⟨b, off, ha, fun i a hi => ?_⟩
  obtain ⟨cs, hr, hcell⟩ := hc i a hi
  exact ⟨cs, hR cs a hr, fun j u hj => cell_keep c (hcell j u hj)⟩
theorem Sl.keepS {w w' : World} {v : Value} {xs : List ByteArray} (h : Sl 1 RS w v xs) (c : Ch w w') : Sl 1 RS w' v xs := h.keep (fun _ _ x => x) c
theorem Sl.keepI {w w' : World} {v : Value} {xs : List Ins} (h : Sl 6 RI w v xs) (c : Ch w w') : Sl 6 RI w' v xs := h.keep (fun _ _ x => x) c
theorem Sl.keepF {w w' : World} {v : Value} {xs : List Fld} (h : Sl 3 RF w v xs) (c : Ch w w') : Sl 3 RF w' v xs := h.keep (fun _ _ x => x) c
theorem Sl.keepH {w w' : World} {v : Value} {xs : List Hnd} (h : Sl 4 RH w v xs) (c : Ch w w') : Sl 4 RH w' v xs := h.keep (fun _ _ x => x) c
theorem RM.keep {w w' : World} {cs : List Value} {m : Mth} (h : RM w cs m) (c : Ch w w') : RM w' cs m := by
  obtain ⟨vc, vh, h1, h2, h3⟩ := h
  exact ⟨vc, vh, h1, h2.keepI c, h3.keepH c⟩
theorem Sl.keepM {w w' : World} {v : Value} {xs : List Mth} (h : Sl 8 RM w v xs) (c : Ch w w') : Sl 8 RM w' v xs := h.keep (fun _ _ x => RM.keep x c) c
theorem ClsAt.keep {w w' : World} {c : Cls} {vi vf vm : Value} (h : ClsAt w c vi vf vm) (k : Ch w w') : ClsAt w' c vi vf vm := ⟨h.1.keepS k, h.2.1.keepF k, h.2.2.keepM k⟩

/-- What it is as a value, and that it is no longer than what may be. -/
theorem Sl.form {α : Type} {k : Nat} {R : World → List Value → α → Prop} {w : World} {v : Value} {xs : List α} (h : Sl k R w v xs) :
    ∃ ao cap, v = .slice ao xs.length cap ∧ xs.length ≤ cap ∧ cap ≤ 9223372036854775807 := by
  obtain ⟨ao, cap, hv, h1, h2, _⟩ := h
  exact ⟨ao, cap, hv, h1, h2⟩
theorem Sl.at {α : Type} {k : Nat} {R : World → List Value → α → Prop} {w : World} {ao : Option Addr} {n cap : Nat} {xs : List α} (h : Sl k R w (.slice ao n cap) xs) {i : Nat} {a : α} (hi : xs[i]? = some a) :
    ∃ b off cs, ao = some ⟨b, off, none⟩ ∧ R w cs a ∧ ∀ j u, cs[j]? = some u → w.cell? ⟨b, off + i * k + j, none⟩ = some u := by
  obtain ⟨ao', cap', hv, h1, h2, h3⟩ := h
  obtain ⟨rfl, rfl, rfl⟩ : ao = ao' ∧ n = xs.length ∧ cap = cap' := by simpa using hv
  obtain ⟨hlt, _⟩ := List.getElem?_eq_some_iff.1 hi
  obtain ⟨b, off, ha, hc⟩ := h3 (by omega)
  obtain ⟨cs, hr, hcell⟩ := hc i a hi
  exact ⟨b, off, cs, ha, hr, hcell⟩
theorem Sl.atS {w : World} {ao : Option Addr} {n cap : Nat} {xs : List ByteArray} (h : Sl 1 RS w (.slice ao n cap) xs) {i : Nat} {a : ByteArray} (hi : xs[i]? = some a) :
    ∃ b off, ao = some ⟨b, off, none⟩ ∧ w.cell? ⟨b, off + i, none⟩ = some (.string a) := by
  obtain ⟨b, off, cs, ha, rfl, hc⟩ := h.at hi
  exact ⟨b, off, ha, by simpa using hc 0 _ rfl⟩
theorem Sl.atI {w : World} {ao : Option Addr} {n cap : Nat} {xs : List Ins} (h : Sl 6 RI w (.slice ao n cap) xs) {i : Nat} {x : Ins} (hi : xs[i]? = some x) :
    ∃ b off, ao = some ⟨b, off, none⟩ ∧ w.cell? ⟨b, off + i * 6, none⟩ = some (.int .i64 x.op) ∧ w.cell? ⟨b, off + i * 6 + 1, none⟩ = some (.int .i64 x.a) ∧ w.cell? ⟨b, off + i * 6 + 2, none⟩ = some (.int .i64 x.b) ∧ w.cell? ⟨b, off + i * 6 + 3, none⟩ = some (.string x.c) ∧ w.cell? ⟨b, off + i * 6 + 4, none⟩ = some (.string x.n) ∧ w.cell? ⟨b, off + i * 6 + 5, none⟩ = some (.string x.d) := by
  obtain ⟨b, off, cs, ha, rfl, hc⟩ := h.at hi
  exact ⟨b, off, ha, hc 0 _ rfl, hc 1 _ rfl, hc 2 _ rfl, hc 3 _ rfl, hc 4 _ rfl, hc 5 _ rfl⟩
theorem Sl.atF {w : World} {ao : Option Addr} {n cap : Nat} {xs : List Fld} (h : Sl 3 RF w (.slice ao n cap) xs) {i : Nat} {x : Fld} (hi : xs[i]? = some x) :
    ∃ b off, ao = some ⟨b, off, none⟩ ∧ w.cell? ⟨b, off + i * 3, none⟩ = some (.string x.n) ∧ w.cell? ⟨b, off + i * 3 + 1, none⟩ = some (.string x.d) ∧ w.cell? ⟨b, off + i * 3 + 2, none⟩ = some (.bool x.st) := by
  obtain ⟨b, off, cs, ha, rfl, hc⟩ := h.at hi
  exact ⟨b, off, ha, hc 0 _ rfl, hc 1 _ rfl, hc 2 _ rfl⟩
theorem Sl.atH {w : World} {ao : Option Addr} {n cap : Nat} {xs : List Hnd} (h : Sl 4 RH w (.slice ao n cap) xs) {i : Nat} {x : Hnd} (hi : xs[i]? = some x) :
    ∃ b off, ao = some ⟨b, off, none⟩ ∧ w.cell? ⟨b, off + i * 4, none⟩ = some (.int .i64 x.fr) ∧ w.cell? ⟨b, off + i * 4 + 1, none⟩ = some (.int .i64 x.to) ∧ w.cell? ⟨b, off + i * 4 + 2, none⟩ = some (.int .i64 x.pl) ∧ w.cell? ⟨b, off + i * 4 + 3, none⟩ = some (.string x.c) := by
  obtain ⟨b, off, cs, ha, rfl, hc⟩ := h.at hi
  exact ⟨b, off, ha, hc 0 _ rfl, hc 1 _ rfl, hc 2 _ rfl, hc 3 _ rfl⟩
theorem Sl.atM {w : World} {ao : Option Addr} {n cap : Nat} {xs : List Mth} (h : Sl 8 RM w (.slice ao n cap) xs) {i : Nat} {m : Mth} (hi : xs[i]? = some m) :
    ∃ b off vc vh, ao = some ⟨b, off, none⟩ ∧ Sl 6 RI w vc m.code ∧ Sl 4 RH w vh m.hs ∧ w.cell? ⟨b, off + i * 8, none⟩ = some (.string m.n) ∧ w.cell? ⟨b, off + i * 8 + 1, none⟩ = some (.string m.d) ∧ w.cell? ⟨b, off + i * 8 + 2, none⟩ = some (.bool m.st) ∧ w.cell? ⟨b, off + i * 8 + 3, none⟩ = some (.bool m.ab) ∧
      w.cell? ⟨b, off + i * 8 + 4, none⟩ = some (.int .i64 m.sk) ∧ w.cell? ⟨b, off + i * 8 + 5, none⟩ = some (.int .i64 m.lo) ∧ w.cell? ⟨b, off + i * 8 + 6, none⟩ = some vc ∧ w.cell? ⟨b, off + i * 8 + 7, none⟩ = some vh := by
  obtain ⟨b, off, cs, ha, ⟨vc, vh, rfl, h1, h2⟩, hc⟩ := h.at hi
  exact ⟨b, off, vc, vh, ha, h1, h2, hc 0 _ rfl, hc 1 _ rfl, hc 2 _ rfl, hc 3 _ rfl, hc 4 _ rfl, hc 5 _ rfl, hc 6 _ rfl, hc 7 _ rfl⟩

/-- Boxes. -/
def clsC (c : Cls) (vi vf vm : Value) : Array Value := #[.string c.n, .string c.s, .bool c.it, .bool c.ab, vi, vf, vm]
def mthC (m : Mth) (vc vh : Value) : Array Value := #[.string m.n, .string m.d, .bool m.st, .bool m.ab, .int .i64 m.sk, .int .i64 m.lo, vc, vh]
theorem kept_at {a b : World} (h : Ch a b) {j : Nat} {o : Obj} (hj : a.heap[j]? = some o) : b.heap[j]? = some o := (h.block j (Array.getElem?_eq_some_iff.1 hj).1).trans hj
theorem box_kept {w w' : World} {o : Obj} (h : Ch (w.alloc o) w') : w'.heap[w.heap.size]? = some o := kept_at h (heap_alloc_new _ _)
theorem clsC_at {w : World} {g : Nat} {c : Cls} {vi vf vm : Value} {t : TypeId} (h : w.heap[g]? = some (.cells (clsC c vi vf vm) t)) :
    w.cell? ⟨g, 0, none⟩ = some (.string c.n) ∧ w.cell? ⟨g, 1, none⟩ = some (.string c.s) ∧ w.cell? ⟨g, 2, none⟩ = some (.bool c.it) ∧ w.cell? ⟨g, 3, none⟩ = some (.bool c.ab) ∧ w.cell? ⟨g, 4, none⟩ = some vi ∧ w.cell? ⟨g, 5, none⟩ = some vf ∧ w.cell? ⟨g, 6, none⟩ = some vm := by
  refine ⟨?_, ?_, ?_, ?_, ?_, ?_, ?_⟩ <;> simp [World.cell?, h, clsC]
theorem mthC_at {w : World} {g : Nat} {m : Mth} {vc vh : Value} {t : TypeId} (h : w.heap[g]? = some (.cells (mthC m vc vh) t)) :
    w.cell? ⟨g, 0, none⟩ = some (.string m.n) ∧ w.cell? ⟨g, 1, none⟩ = some (.string m.d) ∧ w.cell? ⟨g, 2, none⟩ = some (.bool m.st) ∧ w.cell? ⟨g, 3, none⟩ = some (.bool m.ab) ∧ w.cell? ⟨g, 4, none⟩ = some (.int .i64 m.sk) ∧ w.cell? ⟨g, 5, none⟩ = some (.int .i64 m.lo) ∧ w.cell? ⟨g, 6, none⟩ = some vc ∧ w.cell? ⟨g, 7, none⟩ = some vh := by
  refine ⟨?_, ?_, ?_, ?_, ?_, ?_, ?_, ?_⟩ <;> simp [World.cell?, h, mthC]
end Go.Proofs.YthmepecmeambmaaGreat
namespace Go.Proofs.YthmepecmeambmaaGreat
open Go.RowKit
set_option linter.unusedVariables false

/-- Below B nothing has turned, nor any row of cells whose type is none of T. -/
structure Kp (B : Nat) (T : List TypeId) (w w' : World) : Prop where
  os : w'.os = w.os
  tape : w'.tape = w.tape
  output : w'.output = w.output
  size : w.heap.size ≤ w'.heap.size
  block : ∀ k, k < w.heap.size → (k < B ∨ ∃ cs t fr, w.heap[k]? = some (.cells cs t fr) ∧ t ∉ T) → w'.heap[k]? = w.heap[k]?
theorem Kp.refl (B : Nat) (T : List TypeId) (w : World) : Kp B T w w := ⟨rfl, rfl, rfl, Nat.le_refl _, fun _ _ _ => rfl⟩
theorem Kp.trans {B : Nat} {T : List TypeId} {a b c : World} (h : Kp B T a b) (k : Kp B T b c) : Kp B T a c :=
  ⟨k.os.trans h.os, k.tape.trans h.tape, k.output.trans h.output, Nat.le_trans h.size k.size, fun i hi hc => by
    have e := h.block i hi hc
    refine (k.block i (Nat.lt_of_lt_of_le hi h.size) ?_).trans e
    rcases hc with hc | ⟨cs, t, fr, h1, h2⟩
    · exact Or.inl hc
    · exact Or.inr ⟨cs, t, fr, e.trans h1, h2⟩⟩
theorem Kp.chr {B : Nat} {T : List TypeId} {a b c : World} (h : Kp B T a b) (k : Ch b c) : Kp B T a c :=
  h.trans ⟨k.os, k.tape, k.output, k.size, fun i hi _ => k.block i hi⟩
theorem Kp.of_ch {B : Nat} {T : List TypeId} {b c : World} (k : Ch b c) : Kp B T b c := ⟨k.os, k.tape, k.output, k.size, fun i hi _ => k.block i hi⟩
theorem Kp.alloc {B : Nat} {T : List TypeId} {a b : World} (h : Kp B T a b) (o : Obj) : Kp B T a (b.alloc o) := h.chr ((Ch.refl b).alloc o)
theorem Kp.drew {B : Nat} {T : List TypeId} {a b : World} (h : Kp B T a b) : Kp B T a b.drew := h.chr (Ch.refl b).drew
theorem Kp.drewN {B : Nat} {T : List TypeId} {a b : World} (h : Kp B T a b) (n : Nat) : Kp B T a (b.drewN n) := h.chr ((Ch.refl b).drewN n)
/-- Back to what is older than B. -/
theorem Kp.ch {B : Nat} {T : List TypeId} {a b c : World} (h : Ch a b) (k : Kp B T b c) (hB : a.heap.size ≤ B) : Ch a c :=
  ⟨k.os.trans h.os, k.tape.trans h.tape, k.output.trans h.output, Nat.le_trans h.size k.size, fun i hi => (k.block i (Nat.lt_of_lt_of_le hi h.size) (Or.inl (by omega))).trans (h.block i hi)⟩
/-- One block of one's own has turned. -/
theorem Kp.turn {B : Nat} {T : List TypeId} {a b c : World} (h : Kp B T a b) {g : Nat} {o : Obj} (hB : B ≤ g) (ho : b.heap[g]? = some o) (hT : ∀ cs t fr, o = .cells cs t fr → t ∈ T) (hg : b.grownBy c (some g)) : Kp B T a c :=
  h.trans ⟨hg.os, hg.tape, hg.output, hg.size, fun k hk hc => hg.block k hk (fun e => by
    have e : k = g := by simpa using e
    subst e
    rcases hc with hc | ⟨cs, t, fr, h1, h2⟩
    · omega
    · rw [ho] at h1
      exact h2 (hT cs t fr (by simpa using h1)))⟩
theorem grown_setCell (w : World) (g i : Nat) (v : Value) : w.grownBy (w.setCell ⟨g, i, none⟩ v) (some g) :=
  ⟨rfl, rfl, rfl, by simp [World.setCell], fun k hk hne => Below.heap_setCell _ _ _ _ (fun e => hne (by simpa using e))⟩
theorem Kp.cells {B : Nat} {T : List TypeId} {w w' : World} (h : Kp B T w w') {g : Nat} {cs : Array Value} {t : TypeId} (hg : w.heap[g]? = some (.cells cs t)) (ht : t ∉ T) : w'.heap[g]? = some (.cells cs t) :=
  (h.block g (Array.getElem?_eq_some_iff.1 hg).1 (Or.inr ⟨cs, t, _, hg, ht⟩)).trans hg

/-- The block of an owned slice of texts. -/
theorem own_obj {w : World} {base : Nat} {e : TypeId} {size : Nat} {v : Value} {n : Nat} {xs : List Value} (h : w.ownsRow base e size v n xs) {g : Nat} (hg : v.ownBlock = some g) : base ≤ g ∧ ∃ cur, w.heap[g]? = some (.cells cur e) := by
  rcases h.2 with ⟨hv, _⟩ | ⟨g', cap, cur, hv, hb, hh, _⟩
  · rw [hv] at hg; cases hg
  · rw [hv] at hg
    have : g' = g := by simpa [Value.ownBlock] using hg
    subst this
    exact ⟨hb, cur, hh⟩
theorem Kp.grown {B : Nat} {T : List TypeId} {a b c : World} {e : TypeId} {size : Nat} {v : Value} {n : Nat} {xs : List Value} (h : Kp B T a b) (ho : b.ownsRow B e size v n xs) (he : e ∈ T) (hg : b.grownBy c v.ownBlock) : Kp B T a c := by
  cases hv : v.ownBlock with
  | none =>
    rw [hv] at hg
    exact h.trans ⟨hg.os, hg.tape, hg.output, hg.size, fun k hk _ => hg.block k hk (by simp)⟩
  | some g =>
    rw [hv] at hg
    obtain ⟨hB, cur, hcur⟩ := own_obj ho hv
    exact h.turn hB hcur (fun cs t fr e => by simp at e; rw [← e.2.1]; exact he) hg

/-- A map that tells each text's place. -/
def Mp (w : World) (M : Nat) (ts : List (List UInt8)) : Prop :=
  ∃ n D, w.ownsMap (H := Unit) Tryz.prog 9 (plainElem Tryz.prog 3) M n D ∧ n ≤ ts.length ∧ ∀ s : List UInt8, Maps.has D (.string s) = decide (s ∈ ts) ∧ D.atKey (.string s) (.lit (.int .i64 0)) = .lit (.int .i64 (if s ∈ ts then (ts.idxOf s : Int) else 0))
/-- A text's place. -/
def plc (ts : List (List UInt8)) (s : List UInt8) : Int := if s ∈ ts then (ts.idxOf s : Int) else 0
def isIn (ts : List (List UInt8)) (s : List UInt8) : Bool := decide (s ∈ ts)

theorem zero3 (w : World) : (zeroValue 3).run Tryz.prog w = .ok (.int .i64 0) w := by kernel_rfl
theorem Mp.made (w : World) : Mp (w.alloc (.map #[] 0)) w.heap.size [] :=
  ⟨0, _, World.ownsMap_made w _ _ _, Nat.le_refl _, fun s => ⟨by simp [Maps.has], by simp [DataW.atKey]⟩⟩
theorem Mp.keep {w w' : World} {M : Nat} {ts : List (List UInt8)} (h : Mp w M ts) (hb : w'.heap[M]? = w.heap[M]?) : Mp w' M ts := by
  obtain ⟨n, D, ⟨es, clock, h1, h2, h3, h4⟩, h5, h6⟩ := h
  exact ⟨n, D, ⟨es, clock, hb.trans h1, h2, h3, h4⟩, h5, h6⟩
theorem Mp.obj {w : World} {M : Nat} {ts : List (List UInt8)} (h : Mp w M ts) : ∃ es c, w.heap[M]? = some (.map es c) := by
  obtain ⟨n, D, ⟨es, clock, h1, _⟩, _⟩ := h
  exact ⟨es, clock, h1⟩
theorem Mp.lt {w : World} {M : Nat} {ts : List (List UInt8)} (h : Mp w M ts) : M < w.heap.size := by
  obtain ⟨es, c, h⟩ := h.obj
  exact (Array.getElem?_eq_some_iff.1 h).1
theorem Mp.look {w : World} {M : Nat} {ts : List (List UInt8)} (h : Mp w M ts) (x : ByteArray) (hx : x.size ≤ 100000) :
    (Instr.lookup 279 (.map (some M)) (.string x) true).run Tryz.prog w = .ok (.tuple #[.int .i64 (plc ts (bl x)), .bool (isIn ts (bl x))]) w ∧
    (Instr.lookup 279 (.map (some M)) (.string x) false).run Tryz.prog w = .ok (.int .i64 (plc ts (bl x))) w := by
  obtain ⟨n, D, ho, hn, hs⟩ := h
  have hkey : keyOf Tryz.prog 9 (.string x) = some (.string (bl x)) := WideMaps.keyOf_string_mk Tryz.underlying9 (by unfold maxLen; omega)
  obtain ⟨v, ps, hr, hv⟩ := ho.look_ok (Maps.string_keyed Tryz.underlying9) Tryz.underlying279 (zero3 w) (plainElem_int Tryz.underlying3 (by decide)) hkey
  obtain ⟨c, hr2, hat, _⟩ := ho.lookup_int (Maps.string_keyed Tryz.underlying9) Tryz.underlying279 Tryz.underlying3 (zero3 w) hkey
  obtain ⟨h1, h2⟩ := hs (bl x)
  rw [h2] at hv hat
  obtain ⟨c', rfl, hc, _⟩ := plainElem_int_inv Tryz.underlying3 hv
  have e1 : c = plc ts (bl x) := by simp at hat; exact hat.symm
  have e2 : c' = plc ts (bl x) := by simp at hc; exact hc.1.symm
  subst e1
  rw [e2] at hr
  rw [h1] at hr
  exact ⟨hr, hr2⟩
theorem Mp.store {w : World} {M : Nat} {ts : List (List UInt8)} (h : Mp w M ts) (x : ByteArray) (hx : x.size ≤ 100000) (hno : bl x ∉ ts) (hl : ts.length ≤ 100000) :
    ∃ w', (Instr.mapUpdate 279 (.map (some M)) (.string x) (.int .i64 (ts.length : Int))).run Tryz.prog w = .ok () w' ∧ Mp w' M (ts ++ [bl x]) ∧ w.grownBy w' (some M) := by
  obtain ⟨n, D, ho, hn, hs⟩ := h
  have hkey : keyOf Tryz.prog 9 (.string x) = some (.string (bl x)) := WideMaps.keyOf_string_mk Tryz.underlying9 (by unfold maxLen; omega)
  have hwf : (Lit.int .i64 (ts.length : Int)).wf = true := by
    have e1 : IntKind.i64.min = -9223372036854775808 := by decide
    have e2 : IntKind.i64.max = 9223372036854775807 := by decide
    simp [Lit.wf, e1, e2]
    omega
  obtain ⟨w', hr, ho', hg⟩ := ho.update (Maps.string_keyed Tryz.underlying9) Tryz.underlying279 (by unfold maxLen; omega) hkey (plainElem_int Tryz.underlying3 hwf)
  refine ⟨w', hr, ⟨n + 1, _, ho', by simp; omega, fun s => ?_⟩, hg⟩
  have hK : WideAt.IsKeyLit (Lit.string (bl x)) := (Maps.string_keyed (P := Tryz.prog) (k := 9) Tryz.underlying9).key hkey
  by_cases e : s = bl x
  · subst e
    refine ⟨?_, ?_⟩
    · rw [Maps.has_put_same ho.isMap hK]; simp
    · rw [Maps.atKey_put_same ho.isMap hK]
      simp [hno, List.idxOf_append]
  · have hne : Lit.string s ≠ Lit.string (bl x) := fun e' => e (by simpa using e')
    obtain ⟨h1, h2⟩ := hs s
    refine ⟨?_, ?_⟩
    · rw [Maps.has_put_other hne, h1]; simp [e]
    · rw [Maps.atKey_put_other hne, h2]
      simp [e]
      by_cases hm : s ∈ ts
      · simp [hm, List.idxOf_append]
      · simp [hm]
end Go.Proofs.YthmepecmeambmaaGreat
