/- What the document fixes; two rows of texts that are alike. -/
import Derived.Test.YtjkphnpikciaeaaMethR
namespace Go.Proofs.Ytjkphnpikciaeaa
open Go.RowKit
set_option linter.unusedVariables false

theorem own_cells {w : World} {base : Nat} {v : Value} {ps : List (List UInt8)} (h : w.ownsRow base 9 1 v ps.length (ps.map strV)) (hn : 0 < ps.length) :
    ∃ g cap, v = .slice (some ⟨g, 0, none⟩) ps.length cap ∧ ∀ k p, ps[k]? = some p → w.cell? ⟨g, k, none⟩ = some (.string (ms p)) := by
  rcases h.2 with ⟨_, h0⟩ | ⟨g, cap, cur, hv, hb, hg, hc1, hc2, hc3, ht⟩
  · omega
  · refine ⟨g, cap, hv, fun k p hp => ?_⟩
    obtain ⟨hk, _⟩ := List.getElem?_eq_some_iff.1 hp
    simp only [World.cell?, hg]
    have e1 : (cur.toList.take (ps.length * 1))[k]? = (ps.map strV)[k]? := by rw [ht]
    rw [List.getElem?_take_of_lt (by omega)] at e1
    rw [List.getElem?_map, hp] at e1
    simpa [strV] using e1

theorem words_any (v : Value) (ps : List (List UInt8)) (base : Nat) (w : World) (h : w.ownsRow base 9 1 v ps.length (ps.map strV)) : Calls Try.prog 28 #[v] w fun e w' => e = .returned (.int .i64 (ps.length : Int)) ∧ w' = w := by
  have hlen := own_len h
  go_enter Try.func28, Try.ntmps28
  go_wp2
  go_ret
  exact ⟨rfl, rfl⟩

set_option maxHeartbeats 1000000 in
theorem texts_same (v1 v2 : Value) (ps : List (List UInt8)) (b1 b2 : Nat) (w : World) (h1 : w.ownsRow b1 9 1 v1 ps.length (ps.map strV)) (h2 : w.ownsRow b2 9 1 v2 ps.length (ps.map strV)) (hl : ps.length ≤ 1000) :
    Calls Try.prog 27 #[v1, v2] w fun e w' => e = .returned (.bool true) ∧ ∃ m, w' = w.drewN m := by
  by_cases h0 : 0 < ps.length
  · obtain ⟨g1, c1, rfl, hc1⟩ := own_cells h1 h0
    obtain ⟨g2, c2, rfl, hc2⟩ := own_cells h2 h0
    clear h1 h2
    go_enter Try.func27, Try.ntmps27
    go_wp2
    go_loopw [5] (fun i wr => ∃ (k m : Nat), k ≤ ps.length ∧ i = .int .i64 k ∧ wr = w.drewN m) (fun i _ => ps.length - (intOf i).toNat)
    case atStart => exact ⟨0, 0, by omega, rfl, rfl⟩
    case round =>
      obtain ⟨k, m, hk, rfl, hw⟩ := hrel
      subst hw
      by_cases hlt : k < ps.length
      · obtain ⟨p, hp⟩ : ∃ p, ps[k]? = some p := ⟨_, List.getElem?_eq_getElem hlt⟩
        have d1 : ∀ j, (w.drewN j).cell? ⟨g1, k, none⟩ = some (.string (ms p)) := fun j => hc1 k p hp
        have d2 : ∀ j, (w.drewN j).cell? ⟨g2, k, none⟩ = some (.string (ms p)) := fun j => hc2 k p hp
        clear hc1 hc2 hp
        have a1 : (⟨g1, 0, none⟩ : Addr).add k = ⟨g1, k, none⟩ := by unfold Addr.add; split <;> simp_all
        have a2 : (⟨g2, 0, none⟩ : Addr).add k = ⟨g2, k, none⟩ := by unfold Addr.add; split <;> simp_all
        go_wp2_with fail
        go_quiet (fail)
        go_wp2
        go_roundw
        case rel => exact ⟨k + 1, _, by omega, rfl, rfl⟩
        case measure => simp [intOf]; omega
      · go_wp2
        go_ret
        exact ⟨rfl, _, rfl⟩
  · have hp : ps = [] := List.eq_nil_of_length_eq_zero (by omega)
    subst hp
    obtain ⟨a1, c1, rfl⟩ := own_form h1
    obtain ⟨a2, c2, rfl⟩ := own_form h2
    go_enter Try.func27, Try.ntmps27
    go_wp2
    refine wp_loop_rounds 1 ?_
    rw [rounds_succ]
    go_wp2
    go_ret
    exact ⟨rfl, 0, rfl⟩

theorem meth_1 : meth [40, 73, 91, 76, 65, 59, 41, 86] = some ([[73], [91, 76, 65, 59]], [86]) := by decide
theorem meth_2 : meth [40, 86, 41, 86] = none := by decide
theorem method_yes {s : ByteArray} {p : List (List UInt8) × List UInt8} (hM : meth (bl s) = some p) (hs : s.size ≤ 1000) (w : World) :
    Calls Try.prog 25 #[.string s] w fun e w' => ∃ v, e = .returned (.tuple #[v, .string (ms p.2), .int .i64 0]) ∧ w'.ownsRow w.heap.size 9 1 v p.1.length (p.1.map strV) ∧ Ch w w' :=
  (method_any s w hs).mono fun e w' h => by
    obtain ⟨hc, ⟨hn, _⟩ | ⟨q, v, hq, he, ho⟩⟩ := h
    · rw [hM] at hn; cases hn
    · rw [hM] at hq; cases hq; exact ⟨v, he, ho, hc⟩
theorem method_no {s : ByteArray} (hM : meth (bl s) = none) (hs : s.size ≤ 1000) (w : World) :
    Calls Try.prog 25 #[.string s] w fun e w' => e = .returned (.tuple #[.slice none 0 0, .string ⟨#[]⟩, .int .i64 6]) ∧ Ch w w' :=
  (method_any s w hs).mono fun e w' h => by
    obtain ⟨hc, ⟨_, he⟩ | ⟨q, v, hq, he, ho⟩⟩ := h
    · exact ⟨he, hc⟩
    · rw [hM] at hq; cases hq
theorem refMethod_yes {s : ByteArray} {p : List (List UInt8) × List UInt8} (hM : meth (bl s) = some p) (hs : s.size ≤ 1000) (w : World) :
    Calls Try.prog 26 #[.string s] w fun e w' => ∃ v, e = .returned (.tuple #[v, .string (ms p.2), .int .i64 0]) ∧ w'.ownsRow w.heap.size 9 1 v p.1.length (p.1.map strV) ∧ Ch w w' :=
  (refMethod_any s w hs).mono fun e w' h => by
    obtain ⟨hc, ⟨hn, _⟩ | ⟨q, v, hq, he, ho⟩⟩ := h
    · rw [hM] at hn; cases hn
    · rw [hM] at hq; cases hq; exact ⟨v, he, ho, hc⟩
theorem refMethod_no {s : ByteArray} (hM : meth (bl s) = none) (hs : s.size ≤ 1000) (w : World) :
    Calls Try.prog 26 #[.string s] w fun e w' => e = .returned (.tuple #[.slice none 0 0, .string ⟨#[]⟩, .int .i64 6]) ∧ Ch w w' :=
  (refMethod_any s w hs).mono fun e w' h => by
    obtain ⟨hc, ⟨_, he⟩ | ⟨q, v, hq, he, ho⟩⟩ := h
    · exact ⟨he, hc⟩
    · rw [hM] at hq; cases hq

set_option maxHeartbeats 1000000 in
theorem awake_any (w : World) : Calls Try.prog 8 #[] w fun e w' => e = .returned (.bool true) ∧ Ch w w' := by
  have hm1 := fun w0 => method_yes (s := ⟨#[40, 73, 91, 76, 65, 59, 41, 86]⟩) meth_1 (by decide) w0
  have hm2 := fun w0 => method_no (s := ⟨#[40, 86, 41, 86]⟩) meth_2 (by decide) w0
  go_enter Try.func8, Try.ntmps8
  go_wp2_with fail
  refine (hm1 _).mono ?_
  rintro e w2 ⟨v, rfl, ho, hc⟩
  obtain ⟨g, cap, rfl, hcell⟩ := own_cells ho (by simp)
  have hz := ho.lt g rfl
  go_wp2_with fail
  refine (hm2 _).mono ?_
  rintro e w3 ⟨rfl, hc3⟩
  have d1 : w3.cell? ⟨g, 1, none⟩ = some (.string (ms [91, 76, 65, 59])) := by
    rw [World.cell?_of_block (w := w2) (hc3.block g hz.2)]
    exact hcell 1 _ rfl
  have t1 : (ms [91, 76, 65, 59]).toList = [91, 76, 65, 59] := by rw [bl_toList, bl_ms]
  have t2 : (ms [86]).toList = [86] := by rw [bl_toList, bl_ms]
  have hcc := hc.trans hc3
  clear hcell ho hc hc3 hz
  go_wp2
  go_ret
  exact ⟨rfl, hcc⟩
end Go.Proofs.Ytjkphnpikciaeaa
