/- A row of items that came in, opened cell by cell. -/
import Derived.Test.YtgjddpfijnmeeaaRows
import Derived.Test.YtgjddpfijnmeeaaItB
import Derived.ProofKit
import Derived.OpenShut
import Derived.Deep.Strs
namespace Go.Proofs.Ytgjddpfijnmeeaa
open Go.ChangeShapes Go.WideShapes Go.ChangeAt Go.RowKit
set_option linter.unusedVariables false

theorem Try.cells31 : Try.prog.cellsOf 31 = 3 := by kernel_rfl
theorem Try.cells3 : Try.prog.cellsOf 3 = 1 := by kernel_rfl
theorem Try.cells9 : Try.prog.cellsOf 9 = 1 := by kernel_rfl

theorem open_item {H : Type} {enc : TypeId × Value → H} {w : World} {base : Nat} {spare : Nat → Bool} {held : Bool} {n : Nat} {cs : List Value} {x : DataW H × List MemPlace}
    (h : DataW.trod enc Try.prog w base spare held n 31 cs = some x) : ∃ (k m : Int) (s : ByteArray), cs = [.int .i64 k, .int .i64 m, .string s] ∧ s.size ≤ maxLen := by
  obtain ⟨y0, y1, y2, n', _, hl, h0, h1, h2⟩ := Deep.trod_struct3 Try.underlying31 h
  rw [Try.cells31] at hl
  match cs, hl with
  | [c0, c1, c2], _ =>
    simp only [Try.cells3, Try.cells9] at h0 h1 h2
    obtain ⟨k, e0, _, _⟩ := DataW.trod_int Try.underlying3 h0
    obtain ⟨m, e1, _, _⟩ := DataW.trod_int Try.underlying3 h1
    obtain ⟨s, e2, _, hs⟩ := DataW.trod_string Try.underlying9 h2
    simp at e0 e1 e2
    subst e0 e1 e2
    exact ⟨k, m, s, rfl, hs⟩

theorem open_items {H : Type} {enc : TypeId × Value → H} {w : World} {fuel : Nat} {a : Option Addr} {len cap : Nat} {x : DataW H × List MemPlace}
    (h : DataW.trod enc Try.prog w 0 (fun _ => true) true fuel 22 [.slice a len cap] = some x) :
    ∃ (K N : Nat → Int) (S : Nat → ByteArray), Items w a len K N S ∧ (∀ i, i < len → (S i).size ≤ 9223372036854775807) ∧ len ≤ cap ∧ cap ≤ 9223372036854775807 := by
  rcases Deep.open_slice Try.underlying22 h with ⟨hcs, _⟩ | ⟨ad, l, c, m, n, D, Pl, hcs, _, hl, hm, hmm, _, hx⟩
  · simp at hcs
    obtain ⟨rfl, rfl, rfl⟩ := hcs
    exact ⟨fun _ => 0, fun _ => 0, fun _ => ⟨#[]⟩, fun h => by omega, fun i hi => by omega, by omega, by omega⟩
  · simp at hcs
    obtain ⟨rfl, rfl, rfl⟩ := hcs
    rw [if_pos rfl] at hmm
    subst hmm
    have each : ∀ i, i < m → ∃ t : Int × Int × ByteArray, w.cell? ((ad.add (i * 3)).add 0) = some (.int .i64 t.1) ∧ w.cell? ((ad.add (i * 3)).add 1) = some (.int .i64 t.2.1) ∧ w.cell? ((ad.add (i * 3)).add 2) = some (.string t.2.2) ∧ t.2.2.size ≤ maxLen := fun i hi => by
      obtain ⟨cs', h1, h2⟩ := hx i hi
      rw [Try.cells31] at h1
      obtain ⟨k, q, s, rfl, hs⟩ := open_item h2
      obtain ⟨_, _, hc⟩ := World.cells?_some h1
      exact ⟨(k, q, s), by simpa using hc 0 (by omega), by simpa using hc 1 (by omega), by simpa using hc 2 (by omega), hs⟩
    obtain ⟨T, hT⟩ := Deep.choose_lt (α := Int × Int × ByteArray) each
    unfold maxLen at hm hT
    refine ⟨fun i => (T i).1, fun i => (T i).2.1, fun i => (T i).2.2, fun hp => ?_, fun i hi => ?_, hl, by omega⟩
    · obtain ⟨b, off, spot⟩ := ad
      have hspot : spot = none := by
        have := World.cell?_spot (hT 0 (by omega)).1
        simpa [Addr.add] using this
      subst hspot
      refine ⟨b, off, rfl, fun i hi => ?_⟩
      obtain ⟨h1, h2, h3, _⟩ := hT i (by omega)
      rw [add_plain, add_plain] at h1 h2 h3
      exact ⟨h1, h2, h3⟩
    · have := (hT i (by omega)).2.2.2
      omega

end Go.Proofs.Ytgjddpfijnmeeaa
