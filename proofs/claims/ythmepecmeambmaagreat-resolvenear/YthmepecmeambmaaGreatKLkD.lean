/- Copies of a class's rows: rows of one's own. -/
/- A class's texts made its own: each is stored where it stood. -/
import Derived.Test.YthmepecmeambmaaGreatKKp
import Derived.Lib.SliceRun
import Derived.Deep.Slices
import Derived.Test.YthmepecmeambmaaGreatKBulk
import Derived.Deep.RegionHeld
namespace Go.Proofs.YthmepecmeambmaaGreat
open Go.RowKit
set_option linter.unusedVariables false

theorem fk_len {α : Type} {C : α → List Value} {k : Nat} (hC : ∀ x, (C x).length = k) : ∀ xs : List α, (xs.flatMap C).length = xs.length * k
  | [] => by simp
  | x :: xs => by rw [List.flatMap_cons, List.length_append, fk_len hC xs, hC, List.length_cons, Nat.succ_mul]; omega
theorem fk_cell {α : Type} {C : α → List Value} {k : Nat} (hC : ∀ x, (C x).length = k) : ∀ (xs : List α) (i j : Nat) (a : α), xs[i]? = some a → j < k → (xs.flatMap C)[i * k + j]? = (C a)[j]?
  | [], i, j, a, h, _ => by simp at h
  | x :: xs, 0, j, a, h, hj => by
    have e : x = a := by simpa using h
    subst e
    rw [List.flatMap_cons, Nat.zero_mul, Nat.zero_add, List.getElem?_append_left (by rw [hC]; exact hj)]
  | x :: xs, i + 1, j, a, h, hj => by
    have h' : xs[i]? = some a := by simpa using h
    rw [List.flatMap_cons, List.getElem?_append_right (by rw [hC, Nat.succ_mul]; omega), hC, Nat.succ_mul]
    have e : i * k + k + j - k = i * k + j := by omega
    rw [e]
    exact fk_cell hC xs i j a h' hj
theorem fk_inv {α : Type} {C : α → List Value} {k : Nat} (hC : ∀ x, (C x).length = k) : ∀ (xs : List α) (j : Nat) (u : Value), (xs.flatMap C)[j]? = some u → ∃ i a r, xs[i]? = some a ∧ (C a)[r]? = some u ∧ j = i * k + r
  | [], j, u, h => by simp at h
  | x :: xs, j, u, h => by
    rw [List.flatMap_cons] at h
    by_cases hj : j < k
    · rw [List.getElem?_append_left (by rw [hC]; exact hj)] at h
      exact ⟨0, x, j, rfl, h, by omega⟩
    · rw [List.getElem?_append_right (by rw [hC]; omega), hC] at h
      obtain ⟨i, a, r, h1, h2, h3⟩ := fk_inv hC xs _ u h
      exact ⟨i + 1, a, r, by simpa using h1, h2, by rw [Nat.succ_mul]; omega⟩
theorem fk_mem {α : Type} {C : α → List Value} {xs : List α} {u : Value} (h : u ∈ xs.flatMap C) : ∃ (i : Nat) (a : α), xs[i]? = some a ∧ u ∈ C a := by
  obtain ⟨a, h1, h2⟩ := List.mem_flatMap.1 h
  obtain ⟨i, hi⟩ := List.getElem?_of_mem h1
  exact ⟨i, a, hi, h2⟩
theorem range_at {n i a : Nat} (h : (List.range n)[i]? = some a) : a = i ∧ i < n := by
  obtain ⟨h1, h2⟩ := List.getElem?_eq_some_iff.1 h
  simp at h1 h2
  exact ⟨h2.symm, h1⟩

/-- A slice over a row that has been laid at B or later: cells C i for element i. -/
def Ow {α : Type} (k : Nat) (e : TypeId) (R : World → List Value → α → Prop) (B : Nat) (w : World) (v : Value) (xs : List α) : Prop :=
  ∃ C : Nat → List Value, (∀ i, (C i).length = k) ∧ w.ownsRow B e k v xs.length ((List.range xs.length).flatMap C) ∧ ∀ i a, xs[i]? = some a → R w (C i) a
section
variable {α : Type} {k : Nat} {e : TypeId} {R : World → List Value → α → Prop} {B : Nat} {w w' : World} {v : Value} {xs : List α}
theorem Ow.nil : Ow k e R B w (.slice none 0 0) ([] : List α) :=
  ⟨fun _ => List.replicate k (.bool false), fun _ => by simp, World.ownsRow_nil _ _ _ _, fun i a h => by simp at h⟩
theorem Ow.keep (h : Ow k e R B w v xs) (hR : ∀ cs a, R w cs a → R w' cs a) (c : Ch w w') : Ow k e R B w' v xs := by
  obtain ⟨C, h1, h2, h3⟩ := h
  exact ⟨C, h1, ownsRow_keep h2 c, fun i a hi => hR _ _ (h3 i a hi)⟩
theorem Ow.base {B' : Nat} (h : Ow k e R B w v xs) (hb : B' ≤ B) : Ow k e R B' w v xs := by
  obtain ⟨C, h1, h2, h3⟩ := h
  exact ⟨C, h1, ownsRow_base h2 hb, h3⟩
theorem Ow.imp {R' : World → List Value → α → Prop} (h : Ow k e R B w v xs) (hR : ∀ cs a, R w cs a → R' w cs a) : Ow k e R' B w v xs := by
  obtain ⟨C, h1, h2, h3⟩ := h
  exact ⟨C, h1, h2, fun i a hi => hR _ _ (h3 i a hi)⟩
theorem Ow.form (h : Ow k e R B w v xs) : ∃ ao c, v = .slice ao xs.length c := by
  obtain ⟨C, h1, h2, h3⟩ := h
  exact own_form h2
/-- Where it lies; its cells; none of them is frozen. -/
theorem Ow.at {ao : Option Addr} {n c : Nat} (h : Ow k e R B w (.slice ao n c) xs) {i : Nat} {a : α} (hi : xs[i]? = some a) :
    ∃ g cs, ao = some ⟨g, 0, none⟩ ∧ B ≤ g ∧ cs.length = k ∧ R w cs a ∧ (∀ j u, cs[j]? = some u → w.cell? ⟨g, i * k + j, none⟩ = some u) ∧ (∀ o, w.frozen? ⟨g, o, none⟩ = false) ∧ g < w.heap.size ∧ ∃ cur, w.heap[g]? = some (.cells cur e) ∧ xs.length * k ≤ cur.size := by
  obtain ⟨C, h1, h2, h3⟩ := h
  obtain ⟨hlt, _⟩ := List.getElem?_eq_some_iff.1 hi
  rcases h2.2 with ⟨hv, h0⟩ | ⟨g, cap, cur, hv, hb, hg, hc1, hc2, hc3, ht⟩
  · omega
  · have hv' : ao = some ⟨g, 0, none⟩ := by simpa using (Value.slice.inj hv).1
    refine ⟨g, C i, hv', hb, h1 i, h3 i a hi, fun j u hj => ?_, fun o => by simp [World.frozen?, hg], (Array.getElem?_eq_some_iff.1 hg).1, cur, hg, by rw [hc3]; exact Nat.mul_le_mul_right k hc1⟩
    have hjk : j < k := by
      rcases Nat.lt_or_ge j k with h | h
      · exact h
      · rw [List.getElem?_eq_none (by rw [h1]; exact h)] at hj; cases hj
    have hlt2 : i * k + j < xs.length * k := by
      have : (i + 1) * k ≤ xs.length * k := Nat.mul_le_mul_right k hlt
      rw [Nat.succ_mul] at this
      omega
    have e1 : (cur.toList.take (xs.length * k))[i * k + j]? = some u := by
      rw [ht, fk_cell h1 (List.range xs.length) i j i (by simp [hlt]) hjk, hj]
    rw [List.getElem?_take_of_lt hlt2] at e1
    simp only [World.cell?, hg]
    simpa using e1
theorem Ow.sl (h : Ow k e R B w v xs) : Sl k R w v xs := by
  obtain ⟨ao, c, rfl⟩ := h.form
  obtain ⟨C, h1, h2, h3⟩ := id h
  rcases h2.2 with ⟨hv, h0⟩ | ⟨g, cap, cur, hv, hb, hg, hc1, hc2, hc3, ht⟩
  · obtain ⟨rfl, _, rfl⟩ := Value.slice.inj hv
    exact ⟨none, 0, rfl, by omega, by omega, fun hp => by omega⟩
  · obtain ⟨rfl, _, rfl⟩ := Value.slice.inj hv
    refine ⟨_, c, rfl, hc1, by unfold maxLen at hc2; omega, fun _ => ⟨g, 0, rfl, fun i a hi => ?_⟩⟩
    obtain ⟨g', cs, e1, _, _, h4, h5, _⟩ := h.at hi
    cases e1
    exact ⟨cs, h4, fun j u hj => by rw [Nat.zero_add]; exact h5 j u hj⟩
/-- The rows of any slice. -/
theorem sl_rows {ao : Option Addr} {n c : Nat} (h : Sl k R w (.slice ao n c) xs) (hk : ∀ cs a, R w cs a → cs.length = k ∧ ∀ u ∈ cs, u.oneCell' = true) :
    ∃ C : Nat → List Value, (∀ i, (C i).length = k) ∧ (∀ i a, xs[i]? = some a → R w (C i) a) ∧ (∀ u ∈ (List.range xs.length).flatMap C, u.oneCell' = true) ∧ (∀ ad, ao = some ad → ∀ j u, ((List.range xs.length).flatMap C)[j]? = some u → w.cell? (ad.add j) = some u) := by
  have each : ∀ i, i < xs.length → ∃ cs : List Value, cs.length = k ∧ (∀ u ∈ cs, u.oneCell' = true) ∧ (∀ a, xs[i]? = some a → R w cs a) ∧ ∃ b off, ao = some ⟨b, off, none⟩ ∧ ∀ j u, cs[j]? = some u → w.cell? ⟨b, off + i * k + j, none⟩ = some u := fun i hi => by
    obtain ⟨b, off, cs, h1, h2, h3⟩ := h.at (List.getElem?_eq_getElem hi)
    obtain ⟨h4, h5⟩ := hk _ _ h2
    exact ⟨cs, h4, h5, fun a ha => by rw [List.getElem?_eq_getElem hi] at ha; cases ha; exact h2, b, off, h1, h3⟩
  obtain ⟨T, hT⟩ := Deep.choose_lt (α := List Value) each
  refine ⟨fun i => if i < xs.length then T i else List.replicate k (.bool false), fun i => ?_, fun i a hi => ?_, fun u hu => ?_, fun ad hao j u hj => ?_⟩
  · dsimp only; split
    · next hi => exact (hT i hi).1
    · simp
  · have hlt := (List.getElem?_eq_some_iff.1 hi).1
    simp only [hlt, if_true]
    exact (hT i hlt).2.2.1 a hi
  · obtain ⟨i, a, h1, h2⟩ := fk_mem hu
    obtain ⟨rfl, hlt⟩ := range_at h1
    simp only [hlt, if_true] at h2
    exact (hT a hlt).2.1 u h2
  · obtain ⟨i, a, r, h1, h2, rfl⟩ := fk_inv (k := k) (fun i => by
      split
      · next hi => exact (hT i hi).1
      · simp) _ _ _ hj
    obtain ⟨rfl, hlt⟩ := range_at h1
    simp only [hlt, if_true] at h2
    obtain ⟨b, off, e1, e2⟩ := (hT a hlt).2.2.2
    rw [hao] at e1
    cases e1
    have := e2 r u h2
    have ea : (⟨b, off, none⟩ : Addr).add (a * k + r) = ⟨b, off + a * k + r, none⟩ := by unfold Addr.add; split <;> simp_all [Nat.add_assoc]
    rw [ea]
    exact this
end
theorem RS_k {w : World} (cs : List Value) (a : ByteArray) (h : RS w cs a) : cs.length = 1 ∧ ∀ u ∈ cs, u.oneCell' = true := by subst h; exact ⟨rfl, by simp [Value.oneCell']⟩
theorem RI_k {w : World} (cs : List Value) (a : Ins) (h : RI w cs a) : cs.length = 6 ∧ ∀ u ∈ cs, u.oneCell' = true := by subst h; exact ⟨rfl, by simp [Value.oneCell']⟩
theorem RF_k {w : World} (cs : List Value) (a : Fld) (h : RF w cs a) : cs.length = 3 ∧ ∀ u ∈ cs, u.oneCell' = true := by subst h; exact ⟨rfl, by simp [Value.oneCell']⟩
theorem RH_k {w : World} (cs : List Value) (a : Hnd) (h : RH w cs a) : cs.length = 4 ∧ ∀ u ∈ cs, u.oneCell' = true := by subst h; exact ⟨rfl, by simp [Value.oneCell']⟩
theorem RM_k {w : World} (cs : List Value) (a : Mth) (h : RM w cs a) : cs.length = 8 ∧ ∀ u ∈ cs, u.oneCell' = true := by
  obtain ⟨vc, vh, rfl, h1, h2⟩ := h
  obtain ⟨a1, c1, rfl, _⟩ := h1.form
  obtain ⟨a2, c2, rfl, _⟩ := h2.form
  exact ⟨rfl, by simp [Value.oneCell']⟩
/-- What a method's row held in an older world. -/
def RMc (U : World) (_ : World) (cs : List Value) (m : Mth) : Prop := RM U cs m

theorem nilqS (w : World) (a : Option Addr) (n c n' c' : Nat) : (binOp .eql 32 (.slice a n c) (.slice none n' c')).run Tryz.prog w = .ok (.bool a.isNone) w := Lib.run_eql_slice_nil w _ _ a n c n' c' Tryz.underlying32
theorem infS : (Tryz.prog.info? 9).map (fun i => (i.zero, i.size, i.bytes)) = some (some (.string ⟨#[]⟩), 1, 16) := by kernel_rfl
set_option maxHeartbeats 2000000 in
set_option maxRecDepth 100000 in
theorem cloneS (xs : List ByteArray) (v : Value) (w : World) (h : Sl 1 RS w v xs) (hl : xs.length ≤ 100000) :
    Calls Tryz.prog 169 #[v] w fun e w' => ∃ v', e = .returned v' ∧ Ow 1 9 RS w.heap.size w' v' xs ∧ Ch w w' := by
  obtain ⟨ao, c, rfl, hx1, hx2⟩ := h.form
  obtain ⟨C, hC1, hC2, hC3, hC4⟩ := sl_rows h RS_k
  have hf := fk_len hC1 (List.range xs.length)
  rw [List.length_range] at hf
  cases ao with
  | none =>
    have h0 : xs.length = 0 := by
      rcases Nat.eq_zero_or_pos xs.length with h | hp
      · exact h
      · obtain ⟨b, off, cs, e, _⟩ := h.at (List.getElem?_eq_getElem hp)
        cases e
    obtain rfl := List.eq_nil_of_length_eq_zero h0
    clear h hC1 hC2 hC3 hC4 hf h0 hx1 hx2
    have q22 := nilqS
    go_enter Tryz.func169, Tryz.ntmps169
    go_wp2
    go_ret
    exact ⟨_, rfl, Ow.nil, Ch.refl _⟩
  | some ad =>
    obtain ⟨i0, hi, hz0, hz1, hz2⟩ := info_parts infS
    have A : Hid (∀ j u, ((List.range xs.length).flatMap C)[j]? = some u → w.cell? (ad.add j) = some u) := hC4 ad rfl
    have HC2 : Hid (∀ i a, xs[i]? = some a → RS w (C i) a) := hC2
    have HF : Hid (((List.range xs.length).flatMap C).length = xs.length * 1) := hf
    have HC3 : Hid (∀ u ∈ (List.range xs.length).flatMap C, u.oneCell' = true) := hC3
    clear hC4 h hC2 hf hC3
    generalize hM : (List.range xs.length).flatMap C = news at *
    have q22 := nilqS
    go_enter Tryz.func169, Tryz.ntmps169
    go_wp2_with (at_builtin; refine wpList_append_own _ rfl _ _ 32 rfl w.heap.size 9 i0 (.string ⟨#[]⟩) 1 16 Tryz.underlying32 hi hz0 hz1 hz2 (by kernel_rfl) (by decide) _ _ _ rfl (World.ownsRow_made w #[] 0 (Nat.le_refl _) (Nat.zero_le _) (by simp)) ad xs.length c news rfl ?qc1 ?qc2 ?qc3 ?qc4 ?qc5 ?qc6 ?_)
    case qc1 => exact HF.out
    case qc2 =>
      intro j u hj
      have hb := A.out j u hj
      generalize ad.add j = p at *
      obtain ⟨pb, po, ps⟩ := p
      have hps := World.cell?_spot hb
      simp at hps
      subst hps
      exact cell_keep ((Ch.refl w).alloc _) hb
    case qc3 => exact HC3.out
    case qc4 => unfold maxLen; omega
    case qc5 => omega
    case qc6 => simp
    intro v' w1 hown hgrow hnil
    go_wp2
    go_ret
    have c : Ch w w1 := ((Ch.refl w).alloc _).grown hgrow (fun k hk => by simp [Value.ownBlock] at hk; omega)
    subst hM
    exact ⟨v', rfl, ⟨C, hC1, by simpa using hown, fun i a hi => by have h1 := HC2.out i a hi; exact h1⟩, c⟩

theorem nilqF (w : World) (a : Option Addr) (n c n' c' : Nat) : (binOp .eql 38 (.slice a n c) (.slice none n' c')).run Tryz.prog w = .ok (.bool a.isNone) w := Lib.run_eql_slice_nil w _ _ a n c n' c' Tryz.underlying38
theorem infF : (Tryz.prog.info? 103).map (fun i => (i.zero, i.size, i.bytes)) = some (some (.agg #[.string ⟨#[]⟩, .string ⟨#[]⟩, .bool false]), 3, 40) := by kernel_rfl
set_option maxHeartbeats 2000000 in
set_option maxRecDepth 100000 in
theorem cloneF (xs : List Fld) (v : Value) (w : World) (h : Sl 3 RF w v xs) (hl : xs.length ≤ 100000) :
    Calls Tryz.prog 170 #[v] w fun e w' => ∃ v', e = .returned v' ∧ Ow 3 103 RF w.heap.size w' v' xs ∧ Ch w w' := by
  obtain ⟨ao, c, rfl, hx1, hx2⟩ := h.form
  obtain ⟨C, hC1, hC2, hC3, hC4⟩ := sl_rows h RF_k
  have hf := fk_len hC1 (List.range xs.length)
  rw [List.length_range] at hf
  cases ao with
  | none =>
    have h0 : xs.length = 0 := by
      rcases Nat.eq_zero_or_pos xs.length with h | hp
      · exact h
      · obtain ⟨b, off, cs, e, _⟩ := h.at (List.getElem?_eq_getElem hp)
        cases e
    obtain rfl := List.eq_nil_of_length_eq_zero h0
    clear h hC1 hC2 hC3 hC4 hf h0 hx1 hx2
    have q22 := nilqF
    go_enter Tryz.func170, Tryz.ntmps170
    go_wp2
    go_ret
    exact ⟨_, rfl, Ow.nil, Ch.refl _⟩
  | some ad =>
    obtain ⟨i0, hi, hz0, hz1, hz2⟩ := info_parts infF
    have A : Hid (∀ j u, ((List.range xs.length).flatMap C)[j]? = some u → w.cell? (ad.add j) = some u) := hC4 ad rfl
    have HC2 : Hid (∀ i a, xs[i]? = some a → RF w (C i) a) := hC2
    have HF : Hid (((List.range xs.length).flatMap C).length = xs.length * 3) := hf
    have HC3 : Hid (∀ u ∈ (List.range xs.length).flatMap C, u.oneCell' = true) := hC3
    clear hC4 h hC2 hf hC3
    generalize hM : (List.range xs.length).flatMap C = news at *
    have q22 := nilqF
    go_enter Tryz.func170, Tryz.ntmps170
    go_wp2_with (at_builtin; refine wpList_append_own _ rfl _ _ 38 rfl w.heap.size 103 i0 (.agg #[.string ⟨#[]⟩, .string ⟨#[]⟩, .bool false]) 3 40 Tryz.underlying38 hi hz0 hz1 hz2 (by kernel_rfl) (by decide) _ _ _ rfl (World.ownsRow_made w #[] 0 (Nat.le_refl _) (Nat.zero_le _) (by simp)) ad xs.length c news rfl ?qc1 ?qc2 ?qc3 ?qc4 ?qc5 ?qc6 ?_)
    case qc1 => exact HF.out
    case qc2 =>
      intro j u hj
      have hb := A.out j u hj
      generalize ad.add j = p at *
      obtain ⟨pb, po, ps⟩ := p
      have hps := World.cell?_spot hb
      simp at hps
      subst hps
      exact cell_keep ((Ch.refl w).alloc _) hb
    case qc3 => exact HC3.out
    case qc4 => unfold maxLen; omega
    case qc5 => omega
    case qc6 => simp
    intro v' w1 hown hgrow hnil
    go_wp2
    go_ret
    have c : Ch w w1 := ((Ch.refl w).alloc _).grown hgrow (fun k hk => by simp [Value.ownBlock] at hk; omega)
    subst hM
    exact ⟨v', rfl, ⟨C, hC1, by simpa using hown, fun i a hi => by have h1 := HC2.out i a hi; exact h1⟩, c⟩

theorem nilqM (w : World) (a : Option Addr) (n c n' c' : Nat) : (binOp .eql 39 (.slice a n c) (.slice none n' c')).run Tryz.prog w = .ok (.bool a.isNone) w := Lib.run_eql_slice_nil w _ _ a n c n' c' Tryz.underlying39
theorem infM : (Tryz.prog.info? 66).map (fun i => (i.zero, i.size, i.bytes)) = some (some (.agg #[.string ⟨#[]⟩, .string ⟨#[]⟩, .bool false, .bool false, .int .i64 0, .int .i64 0, .slice none 0 0, .slice none 0 0]), 8, 104) := by kernel_rfl
set_option maxHeartbeats 2000000 in
set_option maxRecDepth 100000 in
theorem cloneM (U : World) (xs : List Mth) (v : Value) (w : World) (h : Sl 8 (RMc U) w v xs) (hl : xs.length ≤ 100000) :
    Calls Tryz.prog 171 #[v] w fun e w' => ∃ v', e = .returned v' ∧ Ow 8 66 (RMc U) w.heap.size w' v' xs ∧ Ch w w' := by
  obtain ⟨ao, c, rfl, hx1, hx2⟩ := h.form
  obtain ⟨C, hC1, hC2, hC3, hC4⟩ := sl_rows h RM_k
  have hf := fk_len hC1 (List.range xs.length)
  rw [List.length_range] at hf
  cases ao with
  | none =>
    have h0 : xs.length = 0 := by
      rcases Nat.eq_zero_or_pos xs.length with h | hp
      · exact h
      · obtain ⟨b, off, cs, e, _⟩ := h.at (List.getElem?_eq_getElem hp)
        cases e
    obtain rfl := List.eq_nil_of_length_eq_zero h0
    clear h hC1 hC2 hC3 hC4 hf h0 hx1 hx2
    have q22 := nilqM
    go_enter Tryz.func171, Tryz.ntmps171
    go_wp2
    go_ret
    exact ⟨_, rfl, Ow.nil, Ch.refl _⟩
  | some ad =>
    obtain ⟨i0, hi, hz0, hz1, hz2⟩ := info_parts infM
    have A : Hid (∀ j u, ((List.range xs.length).flatMap C)[j]? = some u → w.cell? (ad.add j) = some u) := hC4 ad rfl
    have HC2 : Hid (∀ i a, xs[i]? = some a → (RMc U) w (C i) a) := hC2
    have HF : Hid (((List.range xs.length).flatMap C).length = xs.length * 8) := hf
    have HC3 : Hid (∀ u ∈ (List.range xs.length).flatMap C, u.oneCell' = true) := hC3
    clear hC4 h hC2 hf hC3
    generalize hM : (List.range xs.length).flatMap C = news at *
    have q22 := nilqM
    go_enter Tryz.func171, Tryz.ntmps171
    go_wp2_with (at_builtin; refine wpList_append_own _ rfl _ _ 39 rfl w.heap.size 66 i0 (.agg #[.string ⟨#[]⟩, .string ⟨#[]⟩, .bool false, .bool false, .int .i64 0, .int .i64 0, .slice none 0 0, .slice none 0 0]) 8 104 Tryz.underlying39 hi hz0 hz1 hz2 (by kernel_rfl) (by decide) _ _ _ rfl (World.ownsRow_made w #[] 0 (Nat.le_refl _) (Nat.zero_le _) (by simp)) ad xs.length c news rfl ?qc1 ?qc2 ?qc3 ?qc4 ?qc5 ?qc6 ?_)
    case qc1 => exact HF.out
    case qc2 =>
      intro j u hj
      have hb := A.out j u hj
      generalize ad.add j = p at *
      obtain ⟨pb, po, ps⟩ := p
      have hps := World.cell?_spot hb
      simp at hps
      subst hps
      exact cell_keep ((Ch.refl w).alloc _) hb
    case qc3 => exact HC3.out
    case qc4 => unfold maxLen; omega
    case qc5 => omega
    case qc6 => simp
    intro v' w1 hown hgrow hnil
    go_wp2
    go_ret
    have c : Ch w w1 := ((Ch.refl w).alloc _).grown hgrow (fun k hk => by simp [Value.ownBlock] at hk; omega)
    subst hM
    exact ⟨v', rfl, ⟨C, hC1, by simpa using hown, fun i a hi => by have h1 := HC2.out i a hi; exact h1⟩, c⟩

theorem nilqI (w : World) (a : Option Addr) (n c n' c' : Nat) : (binOp .eql 63 (.slice a n c) (.slice none n' c')).run Tryz.prog w = .ok (.bool a.isNone) w := Lib.run_eql_slice_nil w _ _ a n c n' c' Tryz.underlying63
theorem infI : (Tryz.prog.info? 62).map (fun i => (i.zero, i.size, i.bytes)) = some (some (.agg #[.int .i64 0, .int .i64 0, .int .i64 0, .string ⟨#[]⟩, .string ⟨#[]⟩, .string ⟨#[]⟩]), 6, 72) := by kernel_rfl
set_option maxHeartbeats 2000000 in
set_option maxRecDepth 100000 in
theorem cloneI (xs : List Ins) (v : Value) (w : World) (h : Sl 6 RI w v xs) (hl : xs.length ≤ 100000) :
    Calls Tryz.prog 230 #[v] w fun e w' => ∃ v', e = .returned v' ∧ Ow 6 62 RI w.heap.size w' v' xs ∧ Ch w w' := by
  obtain ⟨ao, c, rfl, hx1, hx2⟩ := h.form
  obtain ⟨C, hC1, hC2, hC3, hC4⟩ := sl_rows h RI_k
  have hf := fk_len hC1 (List.range xs.length)
  rw [List.length_range] at hf
  cases ao with
  | none =>
    have h0 : xs.length = 0 := by
      rcases Nat.eq_zero_or_pos xs.length with h | hp
      · exact h
      · obtain ⟨b, off, cs, e, _⟩ := h.at (List.getElem?_eq_getElem hp)
        cases e
    obtain rfl := List.eq_nil_of_length_eq_zero h0
    clear h hC1 hC2 hC3 hC4 hf h0 hx1 hx2
    have q22 := nilqI
    go_enter Tryz.func230, Tryz.ntmps230
    go_wp2
    go_ret
    exact ⟨_, rfl, Ow.nil, Ch.refl _⟩
  | some ad =>
    obtain ⟨i0, hi, hz0, hz1, hz2⟩ := info_parts infI
    have A : Hid (∀ j u, ((List.range xs.length).flatMap C)[j]? = some u → w.cell? (ad.add j) = some u) := hC4 ad rfl
    have HC2 : Hid (∀ i a, xs[i]? = some a → RI w (C i) a) := hC2
    have HF : Hid (((List.range xs.length).flatMap C).length = xs.length * 6) := hf
    have HC3 : Hid (∀ u ∈ (List.range xs.length).flatMap C, u.oneCell' = true) := hC3
    clear hC4 h hC2 hf hC3
    generalize hM : (List.range xs.length).flatMap C = news at *
    have q22 := nilqI
    go_enter Tryz.func230, Tryz.ntmps230
    go_wp2_with (at_builtin; refine wpList_append_own _ rfl _ _ 63 rfl w.heap.size 62 i0 (.agg #[.int .i64 0, .int .i64 0, .int .i64 0, .string ⟨#[]⟩, .string ⟨#[]⟩, .string ⟨#[]⟩]) 6 72 Tryz.underlying63 hi hz0 hz1 hz2 (by kernel_rfl) (by decide) _ _ _ rfl (World.ownsRow_made w #[] 0 (Nat.le_refl _) (Nat.zero_le _) (by simp)) ad xs.length c news rfl ?qc1 ?qc2 ?qc3 ?qc4 ?qc5 ?qc6 ?_)
    case qc1 => exact HF.out
    case qc2 =>
      intro j u hj
      have hb := A.out j u hj
      generalize ad.add j = p at *
      obtain ⟨pb, po, ps⟩ := p
      have hps := World.cell?_spot hb
      simp at hps
      subst hps
      exact cell_keep ((Ch.refl w).alloc _) hb
    case qc3 => exact HC3.out
    case qc4 => unfold maxLen; omega
    case qc5 => omega
    case qc6 => simp
    intro v' w1 hown hgrow hnil
    go_wp2
    go_ret
    have c : Ch w w1 := ((Ch.refl w).alloc _).grown hgrow (fun k hk => by simp [Value.ownBlock] at hk; omega)
    subst hM
    exact ⟨v', rfl, ⟨C, hC1, by simpa using hown, fun i a hi => by have h1 := HC2.out i a hi; exact h1⟩, c⟩

theorem nilqH (w : World) (a : Option Addr) (n c n' c' : Nat) : (binOp .eql 64 (.slice a n c) (.slice none n' c')).run Tryz.prog w = .ok (.bool a.isNone) w := Lib.run_eql_slice_nil w _ _ a n c n' c' Tryz.underlying64
theorem infH : (Tryz.prog.info? 124).map (fun i => (i.zero, i.size, i.bytes)) = some (some (.agg #[.int .i64 0, .int .i64 0, .int .i64 0, .string ⟨#[]⟩]), 4, 40) := by kernel_rfl
set_option maxHeartbeats 2000000 in
set_option maxRecDepth 100000 in
theorem cloneH (xs : List Hnd) (v : Value) (w : World) (h : Sl 4 RH w v xs) (hl : xs.length ≤ 100000) :
    Calls Tryz.prog 231 #[v] w fun e w' => ∃ v', e = .returned v' ∧ Ow 4 124 RH w.heap.size w' v' xs ∧ Ch w w' := by
  obtain ⟨ao, c, rfl, hx1, hx2⟩ := h.form
  obtain ⟨C, hC1, hC2, hC3, hC4⟩ := sl_rows h RH_k
  have hf := fk_len hC1 (List.range xs.length)
  rw [List.length_range] at hf
  cases ao with
  | none =>
    have h0 : xs.length = 0 := by
      rcases Nat.eq_zero_or_pos xs.length with h | hp
      · exact h
      · obtain ⟨b, off, cs, e, _⟩ := h.at (List.getElem?_eq_getElem hp)
        cases e
    obtain rfl := List.eq_nil_of_length_eq_zero h0
    clear h hC1 hC2 hC3 hC4 hf h0 hx1 hx2
    have q22 := nilqH
    go_enter Tryz.func231, Tryz.ntmps231
    go_wp2
    go_ret
    exact ⟨_, rfl, Ow.nil, Ch.refl _⟩
  | some ad =>
    obtain ⟨i0, hi, hz0, hz1, hz2⟩ := info_parts infH
    have A : Hid (∀ j u, ((List.range xs.length).flatMap C)[j]? = some u → w.cell? (ad.add j) = some u) := hC4 ad rfl
    have HC2 : Hid (∀ i a, xs[i]? = some a → RH w (C i) a) := hC2
    have HF : Hid (((List.range xs.length).flatMap C).length = xs.length * 4) := hf
    have HC3 : Hid (∀ u ∈ (List.range xs.length).flatMap C, u.oneCell' = true) := hC3
    clear hC4 h hC2 hf hC3
    generalize hM : (List.range xs.length).flatMap C = news at *
    have q22 := nilqH
    go_enter Tryz.func231, Tryz.ntmps231
    go_wp2_with (at_builtin; refine wpList_append_own _ rfl _ _ 64 rfl w.heap.size 124 i0 (.agg #[.int .i64 0, .int .i64 0, .int .i64 0, .string ⟨#[]⟩]) 4 40 Tryz.underlying64 hi hz0 hz1 hz2 (by kernel_rfl) (by decide) _ _ _ rfl (World.ownsRow_made w #[] 0 (Nat.le_refl _) (Nat.zero_le _) (by simp)) ad xs.length c news rfl ?qc1 ?qc2 ?qc3 ?qc4 ?qc5 ?qc6 ?_)
    case qc1 => exact HF.out
    case qc2 =>
      intro j u hj
      have hb := A.out j u hj
      generalize ad.add j = p at *
      obtain ⟨pb, po, ps⟩ := p
      have hps := World.cell?_spot hb
      simp at hps
      subst hps
      exact cell_keep ((Ch.refl w).alloc _) hb
    case qc3 => exact HC3.out
    case qc4 => unfold maxLen; omega
    case qc5 => omega
    case qc6 => simp
    intro v' w1 hown hgrow hnil
    go_wp2
    go_ret
    have c : Ch w w1 := ((Ch.refl w).alloc _).grown hgrow (fun k hk => by simp [Value.ownBlock] at hk; omega)
    subst hM
    exact ⟨v', rfl, ⟨C, hC1, by simpa using hown, fun i a hi => by have h1 := HC2.out i a hi; exact h1⟩, c⟩
end Go.Proofs.YthmepecmeambmaaGreat
namespace Go.Proofs.YthmepecmeambmaaGreat
open Go.RowKit
set_option linter.unusedVariables false

theorem froz_keep {w w' : World} (h : Ch w w') {g i : Nat} (hg : g < w.heap.size) : w'.frozen? ⟨g, i, none⟩ = w.frozen? ⟨g, i, none⟩ := by
  simp only [World.frozen?, h.block g hg]
/-- What is stored where it stands turns nothing. -/
theorem Ch.same {a w : World} (h : Ch a w) {g o : Nat} {v : Value} (hc : w.cell? ⟨g, o, none⟩ = some v) : Ch a (w.setCell ⟨g, o, none⟩ v) := by
  refine h.trans ⟨rfl, rfl, rfl, by simp [World.setCell], fun k hk => ?_⟩
  by_cases e : k = g
  · subst e
    have hx : ∃ o', w.heap[k]? = some o' := ⟨_, Array.getElem?_eq_getElem hk⟩
    obtain ⟨ob, hob⟩ := hx
    simp only [World.cell?, hob] at hc
    cases ob with
    | cells cs t fr =>
      simp only [World.setCell, Array.getElem?_modify, hob]
      simp at hc ⊢
      refine Array.ext (by simp) fun i h1 h2 => ?_
      rw [Array.getElem_setIfInBounds]
      split
      · next e => subst e; rw [Array.getElem?_eq_some_iff] at hc; exact hc.2.symm
      · rfl
    | _ => simp at hc
  · exact Below.heap_setCell _ _ _ _ e

/-- A place of a text, its own. -/
structure Pl (w : World) (g o : Nat) (s : ByteArray) : Prop where
  c : w.cell? ⟨g, o, none⟩ = some (.string s)
  f : w.frozen? ⟨g, o, none⟩ = false
  z : s.size ≤ 100000
theorem Pl.keep {w w' : World} {g o : Nat} {s : ByteArray} (h : Pl w g o s) (c : Ch w w') : Pl w' g o s :=
  ⟨cell_keep c h.c, by rw [froz_keep c (World.block_lt_of_cell? _ _ h.c)]; exact h.f, h.z⟩

set_option maxHeartbeats 2000000 in
set_option maxRecDepth 100000 in
theorem own_list (B : Nat) (ps : List (Nat × Nat × ByteArray)) (w : World) (hl : ps.length ≤ 10)
    (hc : ∀ k g o s, ps[k]? = some (g, o, s) → w.cell? ⟨B, k, none⟩ = some (.pointer (some ⟨g, o, none⟩)) ∧ Pl w g o s) :
    Calls Tryz.prog 214 #[.slice (some ⟨B, 0, none⟩) ps.length ps.length] w fun e w' => e = .returned (.tuple #[]) ∧ Ch w w' := by
  have HC : Hid (∀ k g o s, ps[k]? = some (g, o, s) → w.cell? ⟨B, k, none⟩ = some (.pointer (some ⟨g, o, none⟩)) ∧ Pl w g o s) := hc
  clear hc
  obtain ⟨n, hn⟩ : ∃ n, ps.length = n := ⟨_, rfl⟩
  rw [hn] at hl ⊢
  have HN : Hid (ps.length = n) := hn
  clear hn
  go_enter Tryz.func214, Tryz.ntmps214
  go_wp2
  go_loopw [6] (fun i wr => ∃ k : Nat, k ≤ n ∧ i = .int .i64 k ∧ Ch w wr) (fun i _ => n - (intOf i).toNat)
  case atStart => exact ⟨0, Nat.zero_le _, rfl, Ch.refl _⟩
  case round =>
    obtain ⟨k, hk, rfl, hcr⟩ := hrel
    by_cases hlt : k < n
    · obtain ⟨⟨g, o, s⟩, hp⟩ : ∃ x, ps[k]? = some x := ⟨_, List.getElem?_eq_getElem (by rw [HN.out]; exact hlt)⟩
      obtain ⟨d0, d1⟩ := HC.out k g o s hp
      have p0 := cell_keep hcr d0
      have hpl := d1.keep hcr
      have p1 := hpl.c
      have p2 := hpl.f
      have hz := d1.z
      have ad : (⟨B, 0, none⟩ : Addr).add k = ⟨B, k, none⟩ := by unfold Addr.add; split <;> simp_all
      clear hp d0 d1
      have HP : Hid (Pl wr g o s) := hpl
      clear hpl
      go_wp2_with (first
        | (go_at_call 79; (with_reducible refine (clone_any s _ hz).mono ?_); rintro e w3 ⟨rfl, hc3⟩; have q1 := (HP.out.keep hc3).c; have q2 := (HP.out.keep hc3).f)
        | fail)
      go_roundw
      case rel => exact ⟨k + 1, by omega, by go_num, (hcr.trans hc3).same q1⟩
      case measure => simp [intOf]; omega
    · obtain rfl : k = n := by omega
      go_wp2
      go_end0
      exact ⟨rfl, hcr⟩
theorem own1 (B g o : Nat) (s : ByteArray) (w0 w : World) (hw : Ch w0 w) (hB : w.heap[B]? = some (.cells #[.pointer (some ⟨g, o, none⟩)] 224)) (h1 : Pl w0 g o s) :
    Calls Tryz.prog 214 #[.slice (some ⟨B, 0, none⟩) 1 1] w fun e w' => e = .returned (.tuple #[]) ∧ Ch w w' :=
  own_list B [(g, o, s)] w (by simp) (fun k g' o' s' hk => by
    rw [cell_of_row _ _ _ _ _ _ hB]
    match k, hk with
    | 0, hk => cases hk; exact ⟨rfl, h1.keep hw⟩)
theorem own2 (B g o : Nat) (s : ByteArray) (g2 o2 : Nat) (s2 : ByteArray) (w0 w : World) (hw : Ch w0 w) (hB : w.heap[B]? = some (.cells #[.pointer (some ⟨g, o, none⟩), .pointer (some ⟨g2, o2, none⟩)] 224)) (h1 : Pl w0 g o s) (h2 : Pl w0 g2 o2 s2) :
    Calls Tryz.prog 214 #[.slice (some ⟨B, 0, none⟩) 2 2] w fun e w' => e = .returned (.tuple #[]) ∧ Ch w w' :=
  own_list B [(g, o, s), (g2, o2, s2)] w (by simp) (fun k g' o' s' hk => by
    rw [cell_of_row _ _ _ _ _ _ hB]
    match k, hk with
    | 0, hk => cases hk; exact ⟨rfl, h1.keep hw⟩
    | 1, hk => cases hk; exact ⟨rfl, h2.keep hw⟩)
theorem own3 (B g o : Nat) (s : ByteArray) (g2 o2 : Nat) (s2 : ByteArray) (g3 o3 : Nat) (s3 : ByteArray) (w0 w : World) (hw : Ch w0 w) (hB : w.heap[B]? = some (.cells #[.pointer (some ⟨g, o, none⟩), .pointer (some ⟨g2, o2, none⟩), .pointer (some ⟨g3, o3, none⟩)] 224)) (h1 : Pl w0 g o s) (h2 : Pl w0 g2 o2 s2) (h3 : Pl w0 g3 o3 s3) :
    Calls Tryz.prog 214 #[.slice (some ⟨B, 0, none⟩) 3 3] w fun e w' => e = .returned (.tuple #[]) ∧ Ch w w' :=
  own_list B [(g, o, s), (g2, o2, s2), (g3, o3, s3)] w (by simp) (fun k g' o' s' hk => by
    rw [cell_of_row _ _ _ _ _ _ hB]
    match k, hk with
    | 0, hk => cases hk; exact ⟨rfl, h1.keep hw⟩
    | 1, hk => cases hk; exact ⟨rfl, h2.keep hw⟩
    | 2, hk => cases hk; exact ⟨rfl, h3.keep hw⟩)
end Go.Proofs.YthmepecmeambmaaGreat
