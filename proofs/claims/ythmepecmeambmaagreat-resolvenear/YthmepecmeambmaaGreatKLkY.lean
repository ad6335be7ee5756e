/- slices.Clone of pointers to classes. -/
/- The eight rules in a row. -/
import Derived.Test.YthmepecmeambmaaGreatKLkN
namespace Go.Proofs.YthmepecmeambmaaGreat
open Go.RowKit
set_option linter.unusedVariables false
theorem RP_k {b : Nat} {P : List Cls} {w : World} (cs : List Value) (a : ByteArray) (h : RP b P w cs a) : cs.length = 1 ∧ ∀ u ∈ cs, u.oneCell' = true := by
  subst h
  refine ⟨rfl, ?_⟩
  intro u hu
  rw [List.mem_singleton] at hu
  subst hu
  unfold pn
  cases ixN P a <;> rfl

theorem nilqP (w : World) (a : Option Addr) (n c n' c' : Nat) : (binOp .eql 125 (.slice a n c) (.slice none n' c')).run Tryz.prog w = .ok (.bool a.isNone) w := Lib.run_eql_slice_nil w _ _ a n c n' c' Tryz.underlying125
theorem infP : (Tryz.prog.info? 117).map (fun i => (i.zero, i.size, i.bytes)) = some (some (.pointer none), 1, 8) := by kernel_rfl
set_option maxHeartbeats 2000000 in
set_option maxRecDepth 100000 in
theorem cloneP (b : Nat) (P : List Cls) (xs : List ByteArray) (v : Value) (w : World) (h : Sl 1 (RP b P) w v xs) (hl : xs.length ≤ 100000) :
    Calls Tryz.prog 225 #[v] w fun e w' => ∃ v', e = .returned v' ∧ Ow 1 117 (RP b P) w.heap.size w' v' xs ∧ Ch w w' := by
  obtain ⟨ao, c, rfl, hx1, hx2⟩ := h.form
  obtain ⟨C, hC1, hC2, hC3, hC4⟩ := sl_rows h RP_k
  have hf := fk_len hC1 (List.range xs.length)
  rw [List.length_range] at hf
  cases ao with
  | none =>
    have h0 : xs.length = 0 := by
      rcases Nat.eq_zero_or_pos xs.length with h | hp
      · exact h
      · obtain ⟨b', off, cs, e, _⟩ := h.at (List.getElem?_eq_getElem hp)
        cases e
    obtain rfl := List.eq_nil_of_length_eq_zero h0
    clear h hC1 hC2 hC3 hC4 hf h0 hx1 hx2
    have q22 := nilqP
    go_enter Tryz.func225, Tryz.ntmps225
    go_wp2
    go_ret
    exact ⟨_, rfl, Ow.nil, Ch.refl _⟩
  | some ad =>
    obtain ⟨i0, hi, hz0, hz1, hz2⟩ := info_parts infP
    have A : Hid (∀ j u, ((List.range xs.length).flatMap C)[j]? = some u → w.cell? (ad.add j) = some u) := hC4 ad rfl
    have HC2 : Hid (∀ i a, xs[i]? = some a → (RP b P) w (C i) a) := hC2
    have HF : Hid (((List.range xs.length).flatMap C).length = xs.length * 1) := hf
    have HC3 : Hid (∀ u ∈ (List.range xs.length).flatMap C, u.oneCell' = true) := hC3
    clear hC4 h hC2 hf hC3
    generalize hM : (List.range xs.length).flatMap C = news at *
    have q22 := nilqP
    go_enter Tryz.func225, Tryz.ntmps225
    go_wp2_with (at_builtin; refine wpList_append_own _ rfl _ _ 125 rfl w.heap.size 117 i0 (.pointer none) 1 8 Tryz.underlying125 hi hz0 hz1 hz2 (by kernel_rfl) (by decide) _ _ _ rfl (World.ownsRow_made w #[] 0 (Nat.le_refl _) (Nat.zero_le _) (by simp)) ad xs.length c news rfl ?qc1 ?qc2 ?qc3 ?qc4 ?qc5 ?qc6 ?_)
    case qc1 => exact HF.out
    case qc2 =>
      intro j u hj
      have hb := A.out j u hj
      generalize ad.add j = p at *
      obtain ⟨pb, po, ps⟩ := p
      have hps := World.cell?_spot hb
      simp at hps
      subst hps
      exact cell_keep ((Ch.refl w).alloc _) hb
    case qc3 => exact HC3.out
    case qc4 => unfold maxLen; omega
    case qc5 => omega
    case qc6 => simp
    intro v' w1 hown hgrow hnil
    go_wp2
    go_ret
    have c : Ch w w1 := ((Ch.refl w).alloc _).grown hgrow (fun k hk => by simp [Value.ownBlock] at hk; omega)
    subst hM
    exact ⟨v', rfl, ⟨C, hC1, by simpa using hown, fun i a hi => by have h1 := HC2.out i a hi; exact h1⟩, c⟩
end Go.Proofs.YthmepecmeambmaaGreat
namespace Go.Proofs.YthmepecmeambmaaGreat
open Go.RowKit
set_option linter.unusedVariables false
/-- A cell that holds a function by its number. -/
def RFn (_ : World) (cs : List Value) (f : Nat) : Prop := cs = [.func (.func f) #[] #[]]
set_option maxHeartbeats 1000000 in
theorem rules_any (w : World) : Calls Tryz.prog 81 #[] w fun e w' => ∃ v, e = .returned v ∧ Sl 1 RFn w' v [154, 155, 156, 157, 158, 159, 160, 161] ∧ Ch w w' := by
  go_enter Tryz.func81, Tryz.ntmps81
  go_wp2
  go_ret
  refine ⟨_, rfl, ⟨_, _, rfl, by decide, by decide, fun _ => ⟨_, 0, rfl, fun i a hi => ?_⟩⟩, (Ch.refl w).alloc _⟩
  refine ⟨[.func (.func a) #[] #[]], rfl, fun j u hj => ?_⟩
  have h8 : i < 8 := by
    have := (List.getElem?_eq_some_iff.1 hi).1
    simpa using this
  rcases j with _ | j
  · cases hj
    obtain rfl | rfl | rfl | rfl | rfl | rfl | rfl | rfl : i = 0 ∨ i = 1 ∨ i = 2 ∨ i = 3 ∨ i = 4 ∨ i = 5 ∨ i = 6 ∨ i = 7 := by omega
    all_goals (cases hi; simp only [World.cell?, heap_alloc_new]; rfl)
  · simp at hj
end Go.Proofs.YthmepecmeambmaaGreat
