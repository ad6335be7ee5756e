/- A class in memory: its fields, methods, instructions, handlers. -/
import Derived.Test.YtdalibfgkkgcpaaGreatSame
namespace Go.Proofs.YtdalibfgkkgcpaaGreat
open Go.RowKit
set_option linter.unusedVariables false

structure Fld where
  n : ByteArray
  d : ByteArray
  st : Bool
structure Hnd where
  fr : Int
  to : Int
  pl : Int
  c : ByteArray
structure Mth where
  n : ByteArray
  d : ByteArray
  st : Bool
  ab : Bool
  sk : Int
  lo : Int
  code : List Ins
  hs : List Hnd
structure Cls where
  n : ByteArray
  s : ByteArray
  it : Bool
  ab : Bool
  im : List ByteArray
  fs : List Fld
  me : List Mth

/-- A slice over rows of so many cells. -/
def Sl {α : Type} (k : Nat) (R : World → List Value → α → Prop) (w : World) (v : Value) (xs : List α) : Prop :=
  ∃ ao cap, v = .slice ao xs.length cap ∧ xs.length ≤ cap ∧ cap ≤ 9223372036854775807 ∧
    (0 < xs.length → ∃ b off, ao = some ⟨b, off, none⟩ ∧ ∀ i a, xs[i]? = some a → ∃ cs, R w cs a ∧ ∀ j u, cs[j]? = some u → w.cell? ⟨b, off + i * k + j, none⟩ = some u)

def RS (w : World) (cs : List Value) (s : ByteArray) : Prop := cs = [.string s]
def RI (w : World) (cs : List Value) (x : Ins) : Prop := cs = [.int .i64 x.op, .int .i64 x.a, .int .i64 x.b, .string x.c, .string x.n, .string x.d]
def RF (w : World) (cs : List Value) (x : Fld) : Prop := cs = [.string x.n, .string x.d, .bool x.st]
def RH (w : World) (cs : List Value) (x : Hnd) : Prop := cs = [.int .i64 x.fr, .int .i64 x.to, .int .i64 x.pl, .string x.c]
def RM (w : World) (cs : List Value) (m : Mth) : Prop :=
  ∃ vc vh, cs = [.string m.n, .string m.d, .bool m.st, .bool m.ab, .int .i64 m.sk, .int .i64 m.lo, vc, vh] ∧ Sl 6 RI w vc m.code ∧ Sl 4 RH w vh m.hs
/-- The three slices of a class. -/
def ClsAt (w : World) (c : Cls) (vi vf vm : Value) : Prop := Sl 1 RS w vi c.im ∧ Sl 3 RF w vf c.fs ∧ Sl 8 RM w vm c.me

theorem cell_keep {w w' : World} (h : Ch w w') {g i : Nat} {v : Value} (hc : w.cell? ⟨g, i, none⟩ = some v) : w'.cell? ⟨g, i, none⟩ = some v := by
  have h1 := World.block_lt_of_cell? _ _ hc
  rw [World.cell?_of_block (w := w) (h.block g h1)]
  exact hc
theorem Sl.keep {α : Type} {k : Nat} {R : World → List Value → α → Prop} {w w' : World} {v : Value} {xs : List α} (h : Sl k R w v xs) (hR : ∀ cs a, R w cs a → R w' cs a) (c : Ch w w') : Sl k R w' v xs := by
  obtain ⟨ao, cap, hv, h1, h2, h3⟩ := h
  refine ⟨ao, cap, hv, h1, h2, fun hp => ?_⟩
  obtain ⟨b, off, ha, hc⟩ := h3 hp
  refine ⟨b, off, ha, fun i a hi => ?_⟩
  obtain ⟨cs, hr, hcell⟩ := hc i a hi
  exact ⟨cs, hR cs a hr, fun j u hj => cell_keep c (hcell j u hj)⟩
theorem Sl.keepS {w w' : World} {v : Value} {xs : List ByteArray} (h : Sl 1 RS w v xs) (c : Ch w w') : Sl 1 RS w' v xs := h.keep (fun _ _ x => x) c
theorem Sl.keepI {w w' : World} {v : Value} {xs : List Ins} (h : Sl 6 RI w v xs) (c : Ch w w') : Sl 6 RI w' v xs := h.keep (fun _ _ x => x) c
theorem Sl.keepF {w w' : World} {v : Value} {xs : List Fld} (h : Sl 3 RF w v xs) (c : Ch w w') : Sl 3 RF w' v xs := h.keep (fun _ _ x => x) c
theorem Sl.keepH {w w' : World} {v : Value} {xs : List Hnd} (h : Sl 4 RH w v xs) (c : Ch w w') : Sl 4 RH w' v xs := h.keep (fun _ _ x => x) c
theorem RM.keep {w w' : World} {cs : List Value} {m : Mth} (h : RM w cs m) (c : Ch w w') : RM w' cs m := by
  obtain ⟨vc, vh, h1, h2, h3⟩ := h
  exact ⟨vc, vh, h1, h2.keepI c, h3.keepH c⟩
theorem Sl.keepM {w w' : World} {v : Value} {xs : List Mth} (h : Sl 8 RM w v xs) (c : Ch w w') : Sl 8 RM w' v xs := h.keep (fun _ _ x => RM.keep x c) c
theorem ClsAt.keep {w w' : World} {c : Cls} {vi vf vm : Value} (h : ClsAt w c vi vf vm) (k : Ch w w') : ClsAt w' c vi vf vm := ⟨h.1.keepS k, h.2.1.keepF k, h.2.2.keepM k⟩

/-- What it is as a value, and that it is no longer than what may be. -/
theorem Sl.form {α : Type} {k : Nat} {R : World → List Value → α → Prop} {w : World} {v : Value} {xs : List α} (h : Sl k R w v xs) :
    ∃ ao cap, v = .slice ao xs.length cap ∧ xs.length ≤ cap ∧ cap ≤ 9223372036854775807 := by
  obtain ⟨ao, cap, hv, h1, h2, _⟩ := h
  exact ⟨ao, cap, hv, h1, h2⟩
theorem Sl.at {α : Type} {k : Nat} {R : World → List Value → α → Prop} {w : World} {ao : Option Addr} {n cap : Nat} {xs : List α} (h : Sl k R w (.slice ao n cap) xs) {i : Nat} {a : α} (hi : xs[i]? = some a) :
    ∃ b off cs, ao = some ⟨b, off, none⟩ ∧ R w cs a ∧ ∀ j u, cs[j]? = some u → w.cell? ⟨b, off + i * k + j, none⟩ = some u := by
  obtain ⟨ao', cap', hv, h1, h2, h3⟩ := h
  obtain ⟨rfl, rfl, rfl⟩ : ao = ao' ∧ n = xs.length ∧ cap = cap' := by simpa using hv
  obtain ⟨hlt, _⟩ := List.getElem?_eq_some_iff.1 hi
  obtain ⟨b, off, ha, hc⟩ := h3 (by omega)
  obtain ⟨cs, hr, hcell⟩ := hc i a hi
  exact ⟨b, off, cs, ha, hr, hcell⟩
theorem Sl.atS {w : World} {ao : Option Addr} {n cap : Nat} {xs : List ByteArray} (h : Sl 1 RS w (.slice ao n cap) xs) {i : Nat} {a : ByteArray} (hi : xs[i]? = some a) :
    ∃ b off, ao = some ⟨b, off, none⟩ ∧ w.cell? ⟨b, off + i, none⟩ = some (.string a) := by
  obtain ⟨b, off, cs, ha, rfl, hc⟩ := h.at hi
  exact ⟨b, off, ha, by simpa using hc 0 _ rfl⟩
theorem Sl.atI {w : World} {ao : Option Addr} {n cap : Nat} {xs : List Ins} (h : Sl 6 RI w (.slice ao n cap) xs) {i : Nat} {x : Ins} (hi : xs[i]? = some x) :
    ∃ b off, ao = some ⟨b, off, none⟩ ∧ w.cell? ⟨b, off + i * 6, none⟩ = some (.int .i64 x.op) ∧ w.cell? ⟨b, off + i * 6 + 1, none⟩ = some (.int .i64 x.a) ∧ w.cell? ⟨b, off + i * 6 + 2, none⟩ = some (.int .i64 x.b) ∧ w.cell? ⟨b, off + i * 6 + 3, none⟩ = some (.string x.c) ∧ w.cell? ⟨b, off + i * 6 + 4, none⟩ = some (.string x.n) ∧ w.cell? ⟨b, off + i * 6 + 5, none⟩ = some (.string x.d) := by
  obtain ⟨b, off, cs, ha, rfl, hc⟩ := h.at hi
  exact ⟨b, off, ha, hc 0 _ rfl, hc 1 _ rfl, hc 2 _ rfl, hc 3 _ rfl, hc 4 _ rfl, hc 5 _ rfl⟩
theorem Sl.atF {w : World} {ao : Option Addr} {n cap : Nat} {xs : List Fld} (h : Sl 3 RF w (.slice ao n cap) xs) {i : Nat} {x : Fld} (hi : xs[i]? = some x) :
    ∃ b off, ao = some ⟨b, off, none⟩ ∧ w.cell? ⟨b, off + i * 3, none⟩ = some (.string x.n) ∧ w.cell? ⟨b, off + i * 3 + 1, none⟩ = some (.string x.d) ∧ w.cell? ⟨b, off + i * 3 + 2, none⟩ = some (.bool x.st) := by
  obtain ⟨b, off, cs, ha, rfl, hc⟩ := h.at hi
  exact ⟨b, off, ha, hc 0 _ rfl, hc 1 _ rfl, hc 2 _ rfl⟩
theorem Sl.atH {w : World} {ao : Option Addr} {n cap : Nat} {xs : List Hnd} (h : Sl 4 RH w (.slice ao n cap) xs) {i : Nat} {x : Hnd} (hi : xs[i]? = some x) :
    ∃ b off, ao = some ⟨b, off, none⟩ ∧ w.cell? ⟨b, off + i * 4, none⟩ = some (.int .i64 x.fr) ∧ w.cell? ⟨b, off + i * 4 + 1, none⟩ = some (.int .i64 x.to) ∧ w.cell? ⟨b, off + i * 4 + 2, none⟩ = some (.int .i64 x.pl) ∧ w.cell? ⟨b, off + i * 4 + 3, none⟩ = some (.string x.c) := by
  obtain ⟨b, off, cs, ha, rfl, hc⟩ := h.at hi
  exact ⟨b, off, ha, hc 0 _ rfl, hc 1 _ rfl, hc 2 _ rfl, hc 3 _ rfl⟩
theorem Sl.atM {w : World} {ao : Option Addr} {n cap : Nat} {xs : List Mth} (h : Sl 8 RM w (.slice ao n cap) xs) {i : Nat} {m : Mth} (hi : xs[i]? = some m) :
    ∃ b off vc vh, ao = some ⟨b, off, none⟩ ∧ Sl 6 RI w vc m.code ∧ Sl 4 RH w vh m.hs ∧ w.cell? ⟨b, off + i * 8, none⟩ = some (.string m.n) ∧ w.cell? ⟨b, off + i * 8 + 1, none⟩ = some (.string m.d) ∧ w.cell? ⟨b, off + i * 8 + 2, none⟩ = some (.bool m.st) ∧ w.cell? ⟨b, off + i * 8 + 3, none⟩ = some (.bool m.ab) ∧
      w.cell? ⟨b, off + i * 8 + 4, none⟩ = some (.int .i64 m.sk) ∧ w.cell? ⟨b, off + i * 8 + 5, none⟩ = some (.int .i64 m.lo) ∧ w.cell? ⟨b, off + i * 8 + 6, none⟩ = some vc ∧ w.cell? ⟨b, off + i * 8 + 7, none⟩ = some vh := by
  obtain ⟨b, off, cs, ha, ⟨vc, vh, rfl, h1, h2⟩, hc⟩ := h.at hi
  exact ⟨b, off, vc, vh, ha, h1, h2, hc 0 _ rfl, hc 1 _ rfl, hc 2 _ rfl, hc 3 _ rfl, hc 4 _ rfl, hc 5 _ rfl, hc 6 _ rfl, hc 7 _ rfl⟩

/-- Boxes. -/
def clsC (c : Cls) (vi vf vm : Value) : Array Value := #[.string c.n, .string c.s, .bool c.it, .bool c.ab, vi, vf, vm]
def mthC (m : Mth) (vc vh : Value) : Array Value := #[.string m.n, .string m.d, .bool m.st, .bool m.ab, .int .i64 m.sk, .int .i64 m.lo, vc, vh]
theorem kept_at {a b : World} (h : Ch a b) {j : Nat} {o : Obj} (hj : a.heap[j]? = some o) : b.heap[j]? = some o := (h.block j (Array.getElem?_eq_some_iff.1 hj).1).trans hj
theorem box_kept {w w' : World} {o : Obj} (h : Ch (w.alloc o) w') : w'.heap[w.heap.size]? = some o := kept_at h (heap_alloc_new _ _)
theorem clsC_at {w : World} {g : Nat} {c : Cls} {vi vf vm : Value} {t : TypeId} (h : w.heap[g]? = some (.cells (clsC c vi vf vm) t)) :
    w.cell? ⟨g, 0, none⟩ = some (.string c.n) ∧ w.cell? ⟨g, 1, none⟩ = some (.string c.s) ∧ w.cell? ⟨g, 2, none⟩ = some (.bool c.it) ∧ w.cell? ⟨g, 3, none⟩ = some (.bool c.ab) ∧ w.cell? ⟨g, 4, none⟩ = some vi ∧ w.cell? ⟨g, 5, none⟩ = some vf ∧ w.cell? ⟨g, 6, none⟩ = some vm := by
  refine ⟨?_, ?_, ?_, ?_, ?_, ?_, ?_⟩ <;> simp [World.cell?, h, clsC]
theorem mthC_at {w : World} {g : Nat} {m : Mth} {vc vh : Value} {t : TypeId} (h : w.heap[g]? = some (.cells (mthC m vc vh) t)) :
    w.cell? ⟨g, 0, none⟩ = some (.string m.n) ∧ w.cell? ⟨g, 1, none⟩ = some (.string m.d) ∧ w.cell? ⟨g, 2, none⟩ = some (.bool m.st) ∧ w.cell? ⟨g, 3, none⟩ = some (.bool m.ab) ∧ w.cell? ⟨g, 4, none⟩ = some (.int .i64 m.sk) ∧ w.cell? ⟨g, 5, none⟩ = some (.int .i64 m.lo) ∧ w.cell? ⟨g, 6, none⟩ = some vc ∧ w.cell? ⟨g, 7, none⟩ = some vh := by
  refine ⟨?_, ?_, ?_, ?_, ?_, ?_, ?_, ?_⟩ <;> simp [World.cell?, h, mthC]
end Go.Proofs.YtdalibfgkkgcpaaGreat
