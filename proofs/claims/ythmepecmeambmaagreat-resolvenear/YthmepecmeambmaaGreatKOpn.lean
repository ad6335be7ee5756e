/- Classes that came in, opened. -/
import Derived.Test.YthmepecmeambmaaGreatRows
import Derived.Test.YthmepecmeambmaaGreatKLkL
import Derived.Test.YthmepecmeambmaaGreatKClP
import Derived.WalkKit
import Derived.ProofKit
import Derived.OpenShut
import Derived.ShutString
import Derived.ChangeOld
import Derived.Below
import Derived.Deep.Slices
namespace Go.Proofs.YthmepecmeambmaaGreat
open Go.ChangeShapes Go.WideShapes Go.ChangeAt Go.RowKit
set_option linter.unusedVariables false

theorem Tryz.cells3 : Tryz.prog.cellsOf 3 = 1 := by kernel_rfl
theorem Tryz.cells4 : Tryz.prog.cellsOf 4 = 1 := by kernel_rfl
theorem Tryz.cells9 : Tryz.prog.cellsOf 9 = 1 := by kernel_rfl
theorem Tryz.cells22 : Tryz.prog.cellsOf 32 = 1 := by kernel_rfl
theorem Tryz.cells23 : Tryz.prog.cellsOf 38 = 1 := by kernel_rfl
theorem Tryz.cells24 : Tryz.prog.cellsOf 39 = 1 := by kernel_rfl
theorem Tryz.cells33 : Tryz.prog.cellsOf 63 = 1 := by kernel_rfl
theorem Tryz.cells34 : Tryz.prog.cellsOf 64 = 1 := by kernel_rfl
theorem Tryz.cells26 : Tryz.prog.cellsOf 41 = 7 := by kernel_rfl
theorem Tryz.cells32 : Tryz.prog.cellsOf 62 = 6 := by kernel_rfl
theorem Tryz.cells36 : Tryz.prog.cellsOf 66 = 8 := by kernel_rfl
theorem Tryz.cells39 : Tryz.prog.cellsOf 103 = 3 := by kernel_rfl
theorem Tryz.cells41 : Tryz.prog.cellsOf 124 = 4 := by kernel_rfl

theorem len3 {α : Type} {l : List α} (h : l.length = 3) : ∃ a b c, l = [a, b, c] := by
  match l, h with
  | [a, b, c], _ => exact ⟨a, b, c, rfl⟩
theorem len4 {α : Type} {l : List α} (h : l.length = 4) : ∃ a b c d, l = [a, b, c, d] := by
  match l, h with
  | [a, b, c, d], _ => exact ⟨a, b, c, d, rfl⟩
theorem len6 {α : Type} {l : List α} (h : l.length = 6) : ∃ a b c d e f, l = [a, b, c, d, e, f] := by
  match l, h with
  | [a, b, c, d, e, f], _ => exact ⟨a, b, c, d, e, f, rfl⟩
theorem len7 {α : Type} {l : List α} (h : l.length = 7) : ∃ a b c d e f g, l = [a, b, c, d, e, f, g] := by
  match l, h with
  | [a, b, c, d, e, f, g], _ => exact ⟨a, b, c, d, e, f, g, rfl⟩
theorem len8 {α : Type} {l : List α} (h : l.length = 8) : ∃ a b c d e f g i, l = [a, b, c, d, e, f, g, i] := by
  match l, h with
  | [a, b, c, d, e, f, g, i], _ => exact ⟨a, b, c, d, e, f, g, i, rfl⟩

section
variable {H : Type} {enc : TypeId × Value → H} {w : World}
theorem add_none (b off j : Nat) : (⟨b, off, none⟩ : Addr).add j = ⟨b, off + j, none⟩ := by unfold Addr.add; split <;> simp_all
theorem open_sl {α : Type} [Inhabited α] {R : World → List Value → α → Prop} (k : Nat) {tS tE : TypeId} (hu : Tryz.prog.underlying tS = some (.slice tE)) (hk : Tryz.prog.cellsOf tE = k) (hk0 : 0 < k)
    (elem : ∀ n cs x, DataW.trod enc Tryz.prog w 0 (fun _ => true) true n tE cs = some x → ∃ a, R w cs a)
    {fuel : Nat} {v : Value} {x : DataW H × List MemPlace} (h : DataW.trod enc Tryz.prog w 0 (fun _ => true) true fuel tS [v] = some x) : ∃ xs : List α, Sl k R w v xs := by
  rcases Deep.open_slice hu h with ⟨hcs, _⟩ | ⟨ad, l, c, m, n, D, Pl, hcs, _, hl, hm, hmm, _, hx⟩
  · simp at hcs
    subst hcs
    exact ⟨[], none, 0, rfl, Nat.le_refl _, by omega, fun h => by simp at h⟩
  · simp at hcs
    subst hcs
    rw [if_pos rfl] at hmm
    subst hmm
    rw [hk] at hx
    have each : ∀ i, i < m → ∃ t : α × List Value, R w t.2 t.1 ∧ t.2.length = k ∧ ∀ j, j < k → w.cell? ((ad.add (i * k)).add j) = t.2[j]? := fun i hi => by
      obtain ⟨cs', h1, h2⟩ := hx i hi
      obtain ⟨a, ha⟩ := elem _ _ _ h2
      obtain ⟨_, hlen, hc⟩ := World.cells?_some h1
      exact ⟨(a, cs'), ha, hlen, hc⟩
    obtain ⟨T, hT⟩ := Deep.choose_lt (α := α × List Value) each
    unfold maxLen at hm
    refine ⟨(List.range l).map fun i => (T i).1, some ad, m, by simp, by simpa using hl, by omega, fun hp => ?_⟩
    have hl0 : 0 < l := by simpa using hp
    obtain ⟨b, off, spot⟩ := ad
    have hspot : spot = none := by
      obtain ⟨_, hlen, hc⟩ := hT 0 (by omega)
      obtain ⟨u, hu'⟩ : ∃ u, (T 0).2[0]? = some u := ⟨_, List.getElem?_eq_getElem (by omega)⟩
      have := World.cell?_spot ((hc 0 hk0).trans hu')
      simpa [Addr.add] using this
    subst hspot
    refine ⟨b, off, rfl, fun i a hi => ?_⟩
    have hil : i < l := by
      have := (List.getElem?_eq_some_iff.1 hi).1
      simpa using this
    rw [List.getElem?_map, List.getElem?_range hil] at hi
    simp at hi
    subst hi
    obtain ⟨h1, h2, h3⟩ := hT i (by omega)
    refine ⟨_, h1, fun j u hj => ?_⟩
    have hjk : j < k := by rw [← h2]; exact (List.getElem?_eq_some_iff.1 hj).1
    have := h3 j hjk
    rw [add_none, add_none] at this
    rw [this, hj]


theorem open_str {n : Nat} {cs : List Value} {x : DataW H × List MemPlace} (h : DataW.trod enc Tryz.prog w 0 (fun _ => true) true n 9 cs = some x) : ∃ a, RS w cs a := by
  obtain ⟨s, e, _, _⟩ := DataW.trod_string Tryz.underlying9 h
  exact ⟨s, e⟩
theorem open_insC {n : Nat} {cs : List Value} {x : DataW H × List MemPlace} (h : DataW.trod enc Tryz.prog w 0 (fun _ => true) true n 62 cs = some x) : ∃ a, RI w cs a := by
  obtain ⟨xs, n', _, _, hl, hlen, hf⟩ := DataW.trod_struct Tryz.underlying62 h
  rw [Tryz.cells32] at hl
  obtain ⟨c0, c1, c2, c3, c4, c5, rfl⟩ := len6 hl
  obtain ⟨x0, x1, x2, x3, x4, x5, rfl⟩ := len6 hlen
  have h0 := hf 0 _ rfl
  have h1 := hf 1 _ rfl
  have h2 := hf 2 _ rfl
  have h3 := hf 3 _ rfl
  have h4 := hf 4 _ rfl
  have h5 := hf 5 _ rfl
  simp [Tryz.cells3, Tryz.cells9] at h0 h1 h2 h3 h4 h5
  obtain ⟨y0, e0, _, _⟩ := DataW.trod_int Tryz.underlying3 h0
  obtain ⟨y1, e1, _, _⟩ := DataW.trod_int Tryz.underlying3 h1
  obtain ⟨y2, e2, _, _⟩ := DataW.trod_int Tryz.underlying3 h2
  obtain ⟨y3, e3, _, _⟩ := DataW.trod_string Tryz.underlying9 h3
  obtain ⟨y4, e4, _, _⟩ := DataW.trod_string Tryz.underlying9 h4
  obtain ⟨y5, e5, _, _⟩ := DataW.trod_string Tryz.underlying9 h5
  simp at e0 e1 e2 e3 e4 e5
  subst e0 e1 e2 e3 e4 e5
  exact ⟨⟨y0, y1, y2, y3, y4, y5⟩, rfl⟩
theorem open_fldC {n : Nat} {cs : List Value} {x : DataW H × List MemPlace} (h : DataW.trod enc Tryz.prog w 0 (fun _ => true) true n 103 cs = some x) : ∃ a, RF w cs a := by
  obtain ⟨xs, n', _, _, hl, hlen, hf⟩ := DataW.trod_struct Tryz.underlying103 h
  rw [Tryz.cells39] at hl
  obtain ⟨c0, c1, c2, rfl⟩ := len3 hl
  obtain ⟨x0, x1, x2, rfl⟩ := len3 hlen
  have h0 := hf 0 _ rfl
  have h1 := hf 1 _ rfl
  have h2 := hf 2 _ rfl
  simp [Tryz.cells4, Tryz.cells9] at h0 h1 h2
  obtain ⟨y0, e0, _, _⟩ := DataW.trod_string Tryz.underlying9 h0
  obtain ⟨y1, e1, _, _⟩ := DataW.trod_string Tryz.underlying9 h1
  obtain ⟨y2, e2, _⟩ := DataW.trod_bool Tryz.underlying4 h2
  simp at e0 e1 e2
  subst e0 e1 e2
  exact ⟨⟨y0, y1, y2⟩, rfl⟩
theorem open_hndC {n : Nat} {cs : List Value} {x : DataW H × List MemPlace} (h : DataW.trod enc Tryz.prog w 0 (fun _ => true) true n 124 cs = some x) : ∃ a, RH w cs a := by
  obtain ⟨xs, n', _, _, hl, hlen, hf⟩ := DataW.trod_struct Tryz.underlying124 h
  rw [Tryz.cells41] at hl
  obtain ⟨c0, c1, c2, c3, rfl⟩ := len4 hl
  obtain ⟨x0, x1, x2, x3, rfl⟩ := len4 hlen
  have h0 := hf 0 _ rfl
  have h1 := hf 1 _ rfl
  have h2 := hf 2 _ rfl
  have h3 := hf 3 _ rfl
  simp [Tryz.cells3, Tryz.cells9] at h0 h1 h2 h3
  obtain ⟨y0, e0, _, _⟩ := DataW.trod_int Tryz.underlying3 h0
  obtain ⟨y1, e1, _, _⟩ := DataW.trod_int Tryz.underlying3 h1
  obtain ⟨y2, e2, _, _⟩ := DataW.trod_int Tryz.underlying3 h2
  obtain ⟨y3, e3, _, _⟩ := DataW.trod_string Tryz.underlying9 h3
  simp at e0 e1 e2 e3
  subst e0 e1 e2 e3
  exact ⟨⟨y0, y1, y2, y3⟩, rfl⟩
theorem open_mthC {n : Nat} {cs : List Value} {x : DataW H × List MemPlace} (h : DataW.trod enc Tryz.prog w 0 (fun _ => true) true n 66 cs = some x) : ∃ a, RM w cs a := by
  obtain ⟨xs, n', _, _, hl, hlen, hf⟩ := DataW.trod_struct Tryz.underlying66 h
  rw [Tryz.cells36] at hl
  obtain ⟨c0, c1, c2, c3, c4, c5, c6, c7, rfl⟩ := len8 hl
  obtain ⟨x0, x1, x2, x3, x4, x5, x6, x7, rfl⟩ := len8 hlen
  have h0 := hf 0 _ rfl
  have h1 := hf 1 _ rfl
  have h2 := hf 2 _ rfl
  have h3 := hf 3 _ rfl
  have h4 := hf 4 _ rfl
  have h5 := hf 5 _ rfl
  have h6 := hf 6 _ rfl
  have h7 := hf 7 _ rfl
  simp [Tryz.cells3, Tryz.cells9, Tryz.cells4, Tryz.cells33, Tryz.cells34] at h0 h1 h2 h3 h4 h5 h6 h7
  obtain ⟨y0, e0, _, _⟩ := DataW.trod_string Tryz.underlying9 h0
  obtain ⟨y1, e1, _, _⟩ := DataW.trod_string Tryz.underlying9 h1
  obtain ⟨y2, e2, _⟩ := DataW.trod_bool Tryz.underlying4 h2
  obtain ⟨y3, e3, _⟩ := DataW.trod_bool Tryz.underlying4 h3
  obtain ⟨y4, e4, _, _⟩ := DataW.trod_int Tryz.underlying3 h4
  obtain ⟨y5, e5, _, _⟩ := DataW.trod_int Tryz.underlying3 h5
  haveI : Inhabited Ins := ⟨⟨0, 0, 0, ByteArray.empty, ByteArray.empty, ByteArray.empty⟩⟩
  obtain ⟨y6, e6⟩ := open_sl (R := RI) 6 Tryz.underlying63 Tryz.cells32 (by omega) (fun _ _ _ h => open_insC h) h6
  haveI : Inhabited Hnd := ⟨⟨0, 0, 0, ByteArray.empty⟩⟩
  obtain ⟨y7, e7⟩ := open_sl (R := RH) 4 Tryz.underlying64 Tryz.cells41 (by omega) (fun _ _ _ h => open_hndC h) h7
  simp at e0 e1 e2 e3 e4 e5
  subst e0 e1 e2 e3 e4 e5
  exact ⟨⟨y0, y1, y2, y3, y4, y5, y6, y7⟩, c6, c7, rfl, e6, e7⟩
theorem open_clsC {n : Nat} {cs : List Value} {x : DataW H × List MemPlace} (h : DataW.trod enc Tryz.prog w 0 (fun _ => true) true n 41 cs = some x) :
    ∃ (c : Cls) (vi vf vm : Value), cs = [.string c.n, .string c.s, .bool c.it, .bool c.ab, vi, vf, vm] ∧ ClsAt w c vi vf vm := by
  obtain ⟨xs, n', _, _, hl, hlen, hf⟩ := DataW.trod_struct Tryz.underlying41 h
  rw [Tryz.cells26] at hl
  obtain ⟨c0, c1, c2, c3, c4, c5, c6, rfl⟩ := len7 hl
  obtain ⟨x0, x1, x2, x3, x4, x5, x6, rfl⟩ := len7 hlen
  have h0 := hf 0 _ rfl
  have h1 := hf 1 _ rfl
  have h2 := hf 2 _ rfl
  have h3 := hf 3 _ rfl
  have h4 := hf 4 _ rfl
  have h5 := hf 5 _ rfl
  have h6 := hf 6 _ rfl
  simp [Tryz.cells9, Tryz.cells4, Tryz.cells22, Tryz.cells23, Tryz.cells24] at h0 h1 h2 h3 h4 h5 h6
  obtain ⟨y0, e0, _, _⟩ := DataW.trod_string Tryz.underlying9 h0
  obtain ⟨y1, e1, _, _⟩ := DataW.trod_string Tryz.underlying9 h1
  obtain ⟨y2, e2, _⟩ := DataW.trod_bool Tryz.underlying4 h2
  obtain ⟨y3, e3, _⟩ := DataW.trod_bool Tryz.underlying4 h3
  obtain ⟨y4, e4⟩ := open_sl (R := RS) 1 Tryz.underlying32 Tryz.cells9 (by omega) (fun _ _ _ h => open_str h) h4
  haveI : Inhabited Fld := ⟨⟨ByteArray.empty, ByteArray.empty, false⟩⟩
  obtain ⟨y5, e5⟩ := open_sl (R := RF) 3 Tryz.underlying38 Tryz.cells39 (by omega) (fun _ _ _ h => open_fldC h) h5
  haveI : Inhabited Mth := ⟨⟨ByteArray.empty, ByteArray.empty, false, false, 0, 0, [], []⟩⟩
  obtain ⟨y6, e6⟩ := open_sl (R := RM) 8 Tryz.underlying39 Tryz.cells36 (by omega) (fun _ _ _ h => open_mthC h) h6
  simp at e0 e1 e2 e3
  subst e0 e1 e2 e3
  exact ⟨⟨y0, y1, y2, y3, y4, y5, y6⟩, c4, c5, c6, rfl, e4, e5, e6⟩
set_option maxRecDepth 100000 in
theorem open_cls {b0 : Nat} {r : Reach} {v : Value} {d : DataW H} {p : List MemPlace} (hv : Value.okWide Tryz.prog w r b0 41 v) (h : DataW.Trod enc Tryz.prog w 0 (fun _ => true) true 41 v d p) :
    ∃ (c : Cls) (vi vf vm : Value), v = .agg #[.string c.n, .string c.s, .bool c.it, .bool c.ab, vi, vf, vm] ∧ ClsAt w c vi vf vm := by
  obtain ⟨cs, rfl, _⟩ := okWide_struct Tryz.underlying41 hv
  obtain ⟨fuel, hf⟩ := h
  obtain ⟨c, vi, vf, vm, hc, hat⟩ := open_clsC hf
  refine ⟨c, vi, vf, vm, ?_, hat⟩
  have : cs = #[.string c.n, .string c.s, .bool c.it, .bool c.ab, vi, vf, vm] := by
    simp [Value.cells] at hc
    exact Array.toList_inj.1 hc
  rw [this]
set_option maxRecDepth 100000 in
theorem open_clss {b0 : Nat} {r : Reach} {v : Value} {d : DataW H} {p : List MemPlace} (hv : Value.okWide Tryz.prog w r b0 22 v) (h : DataW.Trod enc Tryz.prog w 0 (fun _ => true) true 22 v d p) : ∃ l, Sl 7 RC w v l := by
  obtain ⟨a, n, c, rfl⟩ := okWide_slice Tryz.underlying22 hv
  obtain ⟨fuel, hf⟩ := h
  haveI : Inhabited Cls := ⟨⟨ByteArray.empty, ByteArray.empty, false, false, [], [], []⟩⟩
  exact open_sl (R := RC) 7 Tryz.underlying22 Tryz.cells26 (by omega) (fun _ _ _ h => open_clsC h) (by simpa [Value.cells] using hf)
end
end Go.Proofs.YthmepecmeambmaaGreat
