/- What stays while a structure of one's own turns; a map of places. -/
import Derived.Test.YtdalibfgkkgcpaaGreatCls
import Derived.Maps.OwnSet
import Derived.Maps.Views
import Derived.Maps.AppendAt
import Derived.StringKeys
namespace Go.Proofs.YtdalibfgkkgcpaaGreat
open Go.RowKit
set_option linter.unusedVariables false

/-- Below B nothing has turned, nor any row of cells whose type is none of T. -/
structure Kp (B : Nat) (T : List TypeId) (w w' : World) : Prop where
  os : w'.os = w.os
  tape : w'.tape = w.tape
  output : w'.output = w.output
  size : w.heap.size ≤ w'.heap.size
  block : ∀ k, k < w.heap.size → (k < B ∨ ∃ cs t fr, w.heap[k]? = some (.cells cs t fr) ∧ t ∉ T) → w'.heap[k]? = w.heap[k]?
theorem Kp.refl (B : Nat) (T : List TypeId) (w : World) : Kp B T w w := ⟨rfl, rfl, rfl, Nat.le_refl _, fun _ _ _ => rfl⟩
theorem Kp.trans {B : Nat} {T : List TypeId} {a b c : World} (h : Kp B T a b) (k : Kp B T b c) : Kp B T a c :=
  ⟨k.os.trans h.os, k.tape.trans h.tape, k.output.trans h.output, Nat.le_trans h.size k.size, fun i hi hc => by
    have e := h.block i hi hc
    refine (k.block i (Nat.lt_of_lt_of_le hi h.size) ?_).trans e
    rcases hc with hc | ⟨cs, t, fr, h1, h2⟩
    · exact Or.inl hc
    · exact Or.inr ⟨cs, t, fr, e.trans h1, h2⟩⟩
theorem Kp.chr {B : Nat} {T : List TypeId} {a b c : World} (h : Kp B T a b) (k : Ch b c) : Kp B T a c :=
  h.trans ⟨k.os, k.tape, k.output, k.size, fun i hi _ => k.block i hi⟩
theorem Kp.of_ch {B : Nat} {T : List TypeId} {b c : World} (k : Ch b c) : Kp B T b c := ⟨k.os, k.tape, k.output, k.size, fun i hi _ => k.block i hi⟩
theorem Kp.alloc {B : Nat} {T : List TypeId} {a b : World} (h : Kp B T a b) (o : Obj) : Kp B T a (b.alloc o) := h.chr ((Ch.refl b).alloc o)
theorem Kp.drew {B : Nat} {T : List TypeId} {a b : World} (h : Kp B T a b) : Kp B T a b.drew := h.chr (Ch.refl b).drew
theorem Kp.drewN {B : Nat} {T : List TypeId} {a b : World} (h : Kp B T a b) (n : Nat) : Kp B T a (b.drewN n) := h.chr ((Ch.refl b).drewN n)
/-- Back to what is older than B. -/
theorem Kp.ch {B : Nat} {T : List TypeId} {a b c : World} (h : Ch a b) (k : Kp B T b c) (hB : a.heap.size ≤ B) : Ch a c :=
  ⟨k.os.trans h.os, k.tape.trans h.tape, k.output.trans h.output, Nat.le_trans h.size k.size, fun i hi => (k.block i (Nat.lt_of_lt_of_le hi h.size) (Or.inl (by omega))).trans (h.block i hi)⟩
/-- One block of one's own has turned. -/
theorem Kp.turn {B : Nat} {T : List TypeId} {a b c : World} (h : Kp B T a b) {g : Nat} {o : Obj} (hB : B ≤ g) (ho : b.heap[g]? = some o) (hT : ∀ cs t fr, o = .cells cs t fr → t ∈ T) (hg : b.grownBy c (some g)) : Kp B T a c :=
  h.trans ⟨hg.os, hg.tape, hg.output, hg.size, fun k hk hc => hg.block k hk (fun e => by
    have e : k = g := by simpa using e
    subst e
    rcases hc with hc | ⟨cs, t, fr, h1, h2⟩
    · omega
    · rw [ho] at h1
      exact h2 (hT cs t fr (by simpa using h1)))⟩
theorem grown_setCell (w : World) (g i : Nat) (v : Value) : w.grownBy (w.setCell ⟨g, i, none⟩ v) (some g) :=
  ⟨rfl, rfl, rfl, by simp [World.setCell], fun k hk hne => Below.heap_setCell _ _ _ _ (fun e => hne (by simpa using e))⟩
theorem Kp.cells {B : Nat} {T : List TypeId} {w w' : World} (h : Kp B T w w') {g : Nat} {cs : Array Value} {t : TypeId} (hg : w.heap[g]? = some (.cells cs t)) (ht : t ∉ T) : w'.heap[g]? = some (.cells cs t) :=
  (h.block g (Array.getElem?_eq_some_iff.1 hg).1 (Or.inr ⟨cs, t, _, hg, ht⟩)).trans hg

/-- The block of an owned slice of texts. -/
theorem own_obj {w : World} {base : Nat} {e : TypeId} {size : Nat} {v : Value} {n : Nat} {xs : List Value} (h : w.ownsRow base e size v n xs) {g : Nat} (hg : v.ownBlock = some g) : base ≤ g ∧ ∃ cur, w.heap[g]? = some (.cells cur e) := by
  rcases h.2 with ⟨hv, _⟩ | ⟨g', cap, cur, hv, hb, hh, _⟩
  · rw [hv] at hg; cases hg
  · rw [hv] at hg
    have : g' = g := by simpa [Value.ownBlock] using hg
    subst this
    exact ⟨hb, cur, hh⟩
theorem Kp.grown {B : Nat} {T : List TypeId} {a b c : World} {e : TypeId} {size : Nat} {v : Value} {n : Nat} {xs : List Value} (h : Kp B T a b) (ho : b.ownsRow B e size v n xs) (he : e ∈ T) (hg : b.grownBy c v.ownBlock) : Kp B T a c := by
  cases hv : v.ownBlock with
  | none =>
    rw [hv] at hg
    exact h.trans ⟨hg.os, hg.tape, hg.output, hg.size, fun k hk _ => hg.block k hk (by simp)⟩
  | some g =>
    rw [hv] at hg
    obtain ⟨hB, cur, hcur⟩ := own_obj ho hv
    exact h.turn hB hcur (fun cs t fr e => by simp at e; rw [← e.2.1]; exact he) hg

/-- A map that tells each text's place. -/
def Mp (w : World) (M : Nat) (ts : List (List UInt8)) : Prop :=
  ∃ n D, w.ownsMap (H := Unit) Tryz.prog 9 (plainElem Tryz.prog 3) M n D ∧ n ≤ ts.length ∧ ∀ s : List UInt8, Maps.has D (.string s) = decide (s ∈ ts) ∧ D.atKey (.string s) (.lit (.int .i64 0)) = .lit (.int .i64 (if s ∈ ts then (ts.idxOf s : Int) else 0))
/-- A text's place. -/
def plc (ts : List (List UInt8)) (s : List UInt8) : Int := if s ∈ ts then (ts.idxOf s : Int) else 0
def isIn (ts : List (List UInt8)) (s : List UInt8) : Bool := decide (s ∈ ts)

theorem zero3 (w : World) : (zeroValue 3).run Tryz.prog w = .ok (.int .i64 0) w := by kernel_rfl
theorem Mp.made (w : World) : Mp (w.alloc (.map #[] 0)) w.heap.size [] :=
  ⟨0, _, World.ownsMap_made w _ _ _, Nat.le_refl _, fun s => ⟨by simp [Maps.has], by simp [DataW.atKey]⟩⟩
theorem Mp.keep {w w' : World} {M : Nat} {ts : List (List UInt8)} (h : Mp w M ts) (hb : w'.heap[M]? = w.heap[M]?) : Mp w' M ts := by
  obtain ⟨n, D, ⟨es, clock, h1, h2, h3, h4⟩, h5, h6⟩ := h
  exact ⟨n, D, ⟨es, clock, hb.trans h1, h2, h3, h4⟩, h5, h6⟩
theorem Mp.obj {w : World} {M : Nat} {ts : List (List UInt8)} (h : Mp w M ts) : ∃ es c, w.heap[M]? = some (.map es c) := by
  obtain ⟨n, D, ⟨es, clock, h1, _⟩, _⟩ := h
  exact ⟨es, clock, h1⟩
theorem Mp.lt {w : World} {M : Nat} {ts : List (List UInt8)} (h : Mp w M ts) : M < w.heap.size := by
  obtain ⟨es, c, h⟩ := h.obj
  exact (Array.getElem?_eq_some_iff.1 h).1
theorem Mp.look {w : World} {M : Nat} {ts : List (List UInt8)} (h : Mp w M ts) (x : ByteArray) (hx : x.size ≤ 100000) :
    (Instr.lookup 56 (.map (some M)) (.string x) true).run Tryz.prog w = .ok (.tuple #[.int .i64 (plc ts (bl x)), .bool (isIn ts (bl x))]) w ∧
    (Instr.lookup 56 (.map (some M)) (.string x) false).run Tryz.prog w = .ok (.int .i64 (plc ts (bl x))) w := by
  obtain ⟨n, D, ho, hn, hs⟩ := h
  have hkey : keyOf Tryz.prog 9 (.string x) = some (.string (bl x)) := WideMaps.keyOf_string_mk Tryz.underlying9 (by unfold maxLen; omega)
  obtain ⟨v, ps, hr, hv⟩ := ho.look_ok (Maps.string_keyed Tryz.underlying9) Tryz.underlying56 (zero3 w) (plainElem_int Tryz.underlying3 (by decide)) hkey
  obtain ⟨c, hr2, hat, _⟩ := ho.lookup_int (Maps.string_keyed Tryz.underlying9) Tryz.underlying56 Tryz.underlying3 (zero3 w) hkey
  obtain ⟨h1, h2⟩ := hs (bl x)
  rw [h2] at hv hat
  obtain ⟨c', rfl, hc, _⟩ := plainElem_int_inv Tryz.underlying3 hv
  have e1 : c = plc ts (bl x) := by simp at hat; exact hat.symm
  have e2 : c' = plc ts (bl x) := by simp at hc; exact hc.1.symm
  subst e1
  rw [e2] at hr
  rw [h1] at hr
  exact ⟨hr, hr2⟩
theorem Mp.store {w : World} {M : Nat} {ts : List (List UInt8)} (h : Mp w M ts) (x : ByteArray) (hx : x.size ≤ 100000) (hno : bl x ∉ ts) (hl : ts.length ≤ 100000) :
    ∃ w', (Instr.mapUpdate 56 (.map (some M)) (.string x) (.int .i64 (ts.length : Int))).run Tryz.prog w = .ok () w' ∧ Mp w' M (ts ++ [bl x]) ∧ w.grownBy w' (some M) := by
  obtain ⟨n, D, ho, hn, hs⟩ := h
  have hkey : keyOf Tryz.prog 9 (.string x) = some (.string (bl x)) := WideMaps.keyOf_string_mk Tryz.underlying9 (by unfold maxLen; omega)
  have hwf : (Lit.int .i64 (ts.length : Int)).wf = true := by
    have e1 : IntKind.i64.min = -9223372036854775808 := by decide
    have e2 : IntKind.i64.max = 9223372036854775807 := by decide
    simp [Lit.wf, e1, e2]
    omega
  obtain ⟨w', hr, ho', hg⟩ := ho.update (Maps.string_keyed Tryz.underlying9) Tryz.underlying56 (by unfold maxLen; omega) hkey (plainElem_int Tryz.underlying3 hwf)
  refine ⟨w', hr, ⟨n + 1, _, ho', by simp; omega, fun s => ?_⟩, hg⟩
  have hK : WideAt.IsKeyLit (Lit.string (bl x)) := (Maps.string_keyed (P := Tryz.prog) (k := 9) Tryz.underlying9).key hkey
  by_cases e : s = bl x
  · subst e
    refine ⟨?_, ?_⟩
    · rw [Maps.has_put_same ho.isMap hK]; simp
    · rw [Maps.atKey_put_same ho.isMap hK]
      simp [hno, List.idxOf_append]
  · have hne : Lit.string s ≠ Lit.string (bl x) := fun e' => e (by simpa using e')
    obtain ⟨h1, h2⟩ := hs s
    refine ⟨?_, ?_⟩
    · rw [Maps.has_put_other hne, h1]; simp [e]
    · rw [Maps.atKey_put_other hne, h2]
      simp [e]
      by_cases hm : s ∈ ts
      · simp [hm, List.idxOf_append]
      · simp [hm]
end Go.Proofs.YtdalibfgkkgcpaaGreat
