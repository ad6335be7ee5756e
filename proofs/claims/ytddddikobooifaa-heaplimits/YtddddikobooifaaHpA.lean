/- Boxes of one's own; a row of values that are all zero; copying within it. -/
import Derived.Test.YtddddikobooifaaMem
import Derived.Laws.CopyRow
import Derived.Deep.RegionHeld
namespace Go.Proofs.Ytddddikobooifaa
open Go.RowKit
set_option linter.unusedVariables false

theorem kept_at {w w' : World} (c : Ch w w') {g : Nat} {o : Obj} (h : w.heap[g]? = some o) : w'.heap[g]? = some o :=
  (c.block g (Array.getElem?_eq_some_iff.1 h).1).trans h
theorem Ch.put {a b : World} (h : Ch a b) {g o : Nat} (v : Value) (hg : a.heap.size ≤ g) : Ch a (b.setCell ⟨g, o, none⟩ v) :=
  ⟨h.os, h.tape, h.output, by have := h.size; simp [World.setCell]; omega, fun k hk => (Below.heap_setCell _ _ _ _ (fun e => by simp at e; omega)).trans (h.block k hk)⟩
theorem Ch.setRow {a b : World} (h : Ch a b) (g : Nat) (cs : Array Value) (hg : a.heap.size ≤ g) : Ch a (b.setRow g cs) :=
  ⟨h.os, h.tape, h.output, by have := h.size; simp [World.setRow]; omega, fun k hk => (setRow_other _ _ _ _ (by omega)).trans (h.block k hk)⟩

/-- A box of one's own since w. -/
structure Bo (w : World) (g : Nat) (T : TypeId) (cs : Array Value) (w1 : World) : Prop where
  ch : Ch w w1
  le : w.heap.size ≤ g
  b : w1.heap[g]? = some (.cells cs T)
section
variable {w w1 w2 : World} {g : Nat} {T : TypeId} {cs : Array Value}
theorem Bo.new (h : Ch w w1) (cs : Array Value) (T : TypeId) : Bo w w1.heap.size T cs (w1.alloc (.cells cs T)) := ⟨h.alloc _, h.size, heap_alloc_new _ _⟩
theorem Bo.call (h : Bo w g T cs w1) (c : Ch w1 w2) : Bo w g T cs w2 := ⟨h.ch.trans c, h.le, kept_at c h.b⟩
theorem Bo.set (h : Bo w g T cs w1) (i : Nat) (u : Value) : Bo w g T (cs.setIfInBounds i u) (w1.setCell ⟨g, i, none⟩ u) :=
  ⟨h.ch.put u h.le, h.le, by simp [World.setCell, Array.getElem?_modify, h.b]⟩
theorem Bo.c (h : Bo w g T cs w1) (i : Nat) {u : Value} (hu : cs[i]? = some u) : w1.cell? ⟨g, i, none⟩ = some u := by simp [World.cell?, h.b, hu]
theorem Bo.fz (h : Bo w g T cs w1) (i : Nat) : w1.frozen? ⟨g, i, none⟩ = false := by simp [World.frozen?, h.b]
theorem Bo.lt (h : Bo w g T cs w1) : g < w1.heap.size := (Array.getElem?_eq_some_iff.1 h.b).1
/-- Another box stays. -/
theorem Bo.far (h : Bo w g T cs w1) {g' : Nat} (i : Nat) (u : Value) (hne : g ≠ g') (hg : w.heap.size ≤ g') : Bo w g T cs (w1.setCell ⟨g', i, none⟩ u) :=
  ⟨h.ch.put u hg, h.le, (Below.heap_setCell _ _ _ _ (fun e => hne e)).trans h.b⟩
end

/-- The zero value's cells. -/
def zv : Value := .agg #[.int .i64 0, .int .i64 0, .complex .f64 0 0]
theorem Try.info31 : (Try.prog.info? 31).map (fun i => (i.zero, i.size, i.bytes)) = some (some zv, 3, 32) := by kernel_rfl
end Go.Proofs.Ytddddikobooifaa
