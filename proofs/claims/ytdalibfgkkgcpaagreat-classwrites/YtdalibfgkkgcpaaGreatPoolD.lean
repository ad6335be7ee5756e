/- The pool of a class: the walk. -/
import Derived.Test.YtdalibfgkkgcpaaGreatPoolC
namespace Go.Proofs.YtdalibfgkkgcpaaGreat
open Go.RowKit
set_option linter.unusedVariables false

theorem sl_lt {w : World} {α : Type} {k : Nat} {R : World → List Value → α → Prop} {v : Value} {xs : List α} (h : Sl k R w v xs) (hR : ∀ cs a, R w cs a → 0 < cs.length) : ∀ b off n c, v = .slice (some ⟨b, off, none⟩) n c → 0 < xs.length → b < w.heap.size := by
  intro b off n c e hp
  subst e
  obtain ⟨x, hx⟩ : ∃ a, xs[0]? = some a := ⟨_, List.getElem?_eq_getElem hp⟩
  obtain ⟨b', off', cs, ha, hr, hc⟩ := h.at hx
  obtain ⟨rfl, rfl⟩ : b = b' ∧ off = off' := by simpa using ha
  have hl := hR _ _ hr
  obtain ⟨u, hu⟩ : ∃ u, cs[0]? = some u := ⟨_, List.getElem?_eq_getElem hl⟩
  exact World.block_lt_of_cell? _ _ (hc 0 u hu)

/-- How the walk of a pool stands: what is left to add gives the whole. -/
structure At (B p M : Nat) (w1 wr : World) (rest goal : List (List UInt8)) : Prop where
  ex : ∃ vt ts, Po B wr p M vt ts ∧ addL ts rest = goal ∧ ts.length + rest.length ≤ 100000
  kp : Kp B [9, 58] w1 wr
  bw : B ≤ wr.heap.size
theorem At.step {B p M : Nat} {w1 wr w' : World} {ts a rest goal : List (List UInt8)} {e : Ending} (hg : addL ts (a ++ rest) = goal) (hl : ts.length + (a ++ rest).length ≤ 100000) (hk : Kp B [9, 58] w1 wr) (hb : B ≤ wr.heap.size)
    (h : Added B p M (addL ts a) wr e w') : e = .returned (.tuple #[]) ∧ At B p M w1 w' rest goal := by
  obtain ⟨h1, vt', h2, h3⟩ := h
  refine ⟨h1, ⟨vt', _, h2, by rw [← addL_app]; exact hg, ?_⟩, hk.trans h3, Nat.le_trans hb h3.size⟩
  have := addL_len a ts
  rw [List.length_append] at hl
  omega
theorem At.chr {B p M : Nat} {w1 wr w' : World} {rest goal : List (List UInt8)} (h : At B p M w1 wr rest goal) (c : Ch wr w') : At B p M w1 w' rest goal := by
  obtain ⟨⟨vt, ts, h1, h2, h3⟩, h4, h5⟩ := h
  exact ⟨⟨vt, ts, h1.keep c, h2, h3⟩, h4.chr c, Nat.le_trans h5 c.size⟩
theorem At.add2 {B p M : Nat} {w1 wr : World} {x y : ByteArray} {rest goal : List (List UInt8)} (h : At B p M w1 wr (bl x :: bl y :: rest) goal) (hx : x.size ≤ 100000) (hy : y.size ≤ 100000) (g : Nat) (hg : g = wr.heap.size) :
    Calls Tryz.prog 59 #[.pointer (some ⟨p, 0, none⟩), .slice (some ⟨g, 0, none⟩) 2 2] (wr.alloc (.cells #[.string x, .string y] 9)) fun e w' => e = .returned (.tuple #[]) ∧ At B p M w1 w' rest goal ∧ Kp B [9, 58] wr w' := by
  obtain ⟨⟨vt, ts, h1, h2, h3⟩, h4, h5⟩ := h
  refine (add_row h1 g [x, y] 2 _ rfl hg rfl (by omega) (fun s hs => by simp at hs; rcases hs with rfl | rfl <;> assumption) (by simp at h3 ⊢; omega) h5).mono ?_
  intro e w' h
  obtain ⟨a1, a2⟩ := At.step (a := [bl x, bl y]) (rest := rest) h2 h3 h4 h5 h
  obtain ⟨_, vt', _, h7⟩ := h
  exact ⟨a1, a2, h7⟩
theorem At.add1 {B p M : Nat} {w1 wr : World} {x : ByteArray} {rest goal : List (List UInt8)} (h : At B p M w1 wr (bl x :: rest) goal) (hx : x.size ≤ 100000) (g : Nat) (hg : g = wr.heap.size) :
    Calls Tryz.prog 59 #[.pointer (some ⟨p, 0, none⟩), .slice (some ⟨g, 0, none⟩) 1 1] (wr.alloc (.cells #[.string x] 9)) fun e w' => e = .returned (.tuple #[]) ∧ At B p M w1 w' rest goal ∧ Kp B [9, 58] wr w' := by
  obtain ⟨⟨vt, ts, h1, h2, h3⟩, h4, h5⟩ := h
  refine (add_row h1 g [x] 1 _ rfl hg rfl (by omega) (fun s hs => by simp at hs; rcases hs with rfl; assumption) (by simp at h3 ⊢; omega) h5).mono ?_
  intro e w' h
  obtain ⟨a1, a2⟩ := At.step (a := [bl x]) (rest := rest) h2 h3 h4 h5 h
  obtain ⟨_, vt', _, h7⟩ := h
  exact ⟨a1, a2, h7⟩
theorem At.addO {B p M : Nat} {w1 wr w2 : World} {xs rest goal : List (List UInt8)} {v : Value} (h : At B p M w1 wr (xs ++ rest) goal) (hc : Ch wr w2) (hv : w2.ownsRow wr.heap.size 9 1 v xs.length (xs.map strV)) (hsz : ∀ s ∈ xs, s.length ≤ 100000) :
    Calls Tryz.prog 59 #[.pointer (some ⟨p, 0, none⟩), v] w2 fun e w' => e = .returned (.tuple #[]) ∧ At B p M w1 w' rest goal ∧ Kp B [9, 58] w2 w' := by
  obtain ⟨⟨vt, ts, h1, h2, h3⟩, h4, h5⟩ := h
  refine (add_own (h1.keep hc) xs v _ hv (fun g hg => (h1.own.lt g hg).2) hsz (by rw [List.length_append] at h3; omega) (Nat.le_trans h5 hc.size)).mono ?_
  intro e w' h
  obtain ⟨a1, a2⟩ := At.step (rest := rest) h2 h3 (h4.chr hc) (Nat.le_trans h5 hc.size) h
  obtain ⟨_, vt', _, h7⟩ := h
  exact ⟨a1, a2, h7⟩
theorem At.addS {B p M : Nat} {w1 wr : World} {xs : List ByteArray} {rest goal : List (List UInt8)} {v : Value} (h : At B p M w1 wr (xs.map bl ++ rest) goal) (hv : Sl 1 RS wr v xs) (hb : ∀ b off n c, v = .slice (some ⟨b, off, none⟩) n c → 0 < xs.length → b < B) (hsz : ∀ s ∈ xs, s.size ≤ 100000) :
    Calls Tryz.prog 59 #[.pointer (some ⟨p, 0, none⟩), v] wr fun e w' => e = .returned (.tuple #[]) ∧ At B p M w1 w' rest goal ∧ Kp B [9, 58] wr w' := by
  obtain ⟨⟨vt, ts, h1, h2, h3⟩, h4, h5⟩ := h
  refine (add_old h1 xs v hv hb hsz (by rw [List.length_append, List.length_map] at h3; omega) h5).mono ?_
  intro e w' h
  obtain ⟨a1, a2⟩ := At.step (rest := rest) h2 h3 h4 h5 h
  obtain ⟨_, vt', _, h7⟩ := h
  exact ⟨a1, a2, h7⟩
theorem insX_sz {x : Ins} (h : x.c.size ≤ 90000 ∧ x.n.size ≤ 90000 ∧ x.d.size ≤ 90000) : ∀ s ∈ insX x, s.length ≤ 100000 := by
  have hp : ∀ (b : Bool) (t : ByteArray), t.size ≤ 90000 → ∀ s ∈ pickL b t, s.length ≤ 100000 := fun b t ht s hs => by
    cases b
    · simp [pickL] at hs
    · simp [pickL] at hs; subst hs; rw [bl_len]; omega
  intro s hs
  unfold insX at hs
  rcases List.mem_append.1 hs with hs | hs
  · exact hp _ _ h.1 s hs
  · rcases List.mem_append.1 hs with hs | hs
    · exact hp _ _ h.2.1 s hs
    · exact hp _ _ h.2.2 s hs
/-- A pool that is handed back. -/
def PoolR (w : World) (L : List (List UInt8)) (e : Ending) (w' : World) : Prop :=
  ∃ vt M, e = .returned (.agg #[vt, .map (some M)]) ∧ w'.ownsRow w.heap.size 9 1 vt L.length (L.map strV) ∧ Mp w' M L ∧ w.heap.size ≤ M ∧ Ch w w'
theorem info58 : (Tryz.prog.info? 58).map (·.size) = some 2 := by kernel_rfl
theorem run_mk61 (w : World) : (Instr.makeMap 56 none).run Tryz.prog w = .ok (.map (some w.heap.size)) (w.alloc (.map #[] 0)) := by kernel_rfl
end Go.Proofs.YtdalibfgkkgcpaaGreat
