/- What the document fixes; two rows of texts that are alike. -/
import Derived.Test.YtdalibfgkkgcpaaGreatMeth
namespace Go.Proofs.YtdalibfgkkgcpaaGreat
open Go.RowKit
set_option linter.unusedVariables false

theorem own_cells {w : World} {base : Nat} {v : Value} {ps : List (List UInt8)} (h : w.ownsRow base 9 1 v ps.length (ps.map strV)) (hn : 0 < ps.length) :
    ∃ g cap, v = .slice (some ⟨g, 0, none⟩) ps.length cap ∧ ∀ k p, ps[k]? = some p → w.cell? ⟨g, k, none⟩ = some (.string (ms p)) := by
  rcases h.2 with ⟨_, h0⟩ | ⟨g, cap, cur, hv, hb, hg, hc1, hc2, hc3, ht⟩
  · omega
  · refine ⟨g, cap, hv, fun k p hp => ?_⟩
    obtain ⟨hk, _⟩ := List.getElem?_eq_some_iff.1 hp
    simp only [World.cell?, hg]
    have e1 : (cur.toList.take (ps.length * 1))[k]? = (ps.map strV)[k]? := by rw [ht]
    rw [List.getElem?_take_of_lt (by omega)] at e1
    rw [List.getElem?_map, hp] at e1
    simpa [strV] using e1

theorem words_any (v : Value) (ps : List (List UInt8)) (base : Nat) (w : World) (h : w.ownsRow base 9 1 v ps.length (ps.map strV)) : Calls Tryz.prog 109 #[v] w fun e w' => e = .returned (.int .i64 (ps.length : Int)) ∧ w' = w := by
  have hlen := own_len h
  go_enter Tryz.func109, Tryz.ntmps109
  go_wp2
  go_ret
  exact ⟨rfl, rfl⟩

theorem method_yes {s : ByteArray} {p : List (List UInt8) × List UInt8} (hM : meth (bl s) = some p) (hs : s.size ≤ 100000) (w : World) :
    Calls Tryz.prog 72 #[.string s] w fun e w' => ∃ v, e = .returned (.tuple #[v, .string (ms p.2), .int .i64 0]) ∧ w'.ownsRow w.heap.size 9 1 v p.1.length (p.1.map strV) ∧ Ch w w' :=
  (method_any s w hs).mono fun e w' h => by
    obtain ⟨hc, ⟨hn, _⟩ | ⟨q, v, hq, he, ho⟩⟩ := h
    · rw [hM] at hn; cases hn
    · rw [hM] at hq; cases hq; exact ⟨v, he, ho, hc⟩
theorem method_no {s : ByteArray} (hM : meth (bl s) = none) (hs : s.size ≤ 100000) (w : World) :
    Calls Tryz.prog 72 #[.string s] w fun e w' => e = .returned (.tuple #[.slice none 0 0, .string ⟨#[]⟩, .int .i64 6]) ∧ Ch w w' :=
  (method_any s w hs).mono fun e w' h => by
    obtain ⟨hc, ⟨_, he⟩ | ⟨q, v, hq, he, ho⟩⟩ := h
    · exact ⟨he, hc⟩
    · rw [hM] at hq; cases hq
end Go.Proofs.YtdalibfgkkgcpaaGreat
