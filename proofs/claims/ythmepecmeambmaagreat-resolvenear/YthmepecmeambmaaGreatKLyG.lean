/- What stands above a class; Field, Method, Dispatch, whatever the program. -/
/- Dispatch, of a program and of none; the sample of chapter 8. -/
/- ResolveNothing, walked. -/
import Derived.Test.YthmepecmeambmaaGreatKLyD
import Derived.Test.YthmepecmeambmaaGreatKLmF
import Derived.Laws.AppendOwnNone
import Derived.Test.YthmepecmeambmaaGreatKLuA
namespace Go.Proofs.YthmepecmeambmaaGreat
open Go.RowKit
set_option linter.unusedVariables false

theorem grown_self (w : World) (r : Option Nat) : w.grownBy w r := ⟨rfl, rfl, rfl, Nat.le_refl _, fun _ _ _ => rfl⟩
theorem range_map_str (ys : List ByteArray) : (List.range ys.length).flatMap (fun i => [Value.string (ys.getD i ⟨#[]⟩)]) = ys.map Value.string := by
  have h : ∀ i, i < ys.length → [Value.string (ys.getD i ⟨#[]⟩)] = (ys.map Value.string)[i]?.toList := fun i hi => by simp [hi]
  rw [List.flatMap_def]
  refine List.ext_getElem? fun i => ?_
  have e : ((List.range ys.length).map (fun i => [Value.string (ys.getD i ⟨#[]⟩)])).flatten = (List.range ys.length).map (fun i => Value.string (ys.getD i ⟨#[]⟩)) := by
    rw [← List.flatMap_def]
    exact (List.map_eq_flatMap ..).symm
  rw [e]
  by_cases hi : i < ys.length
  · simp [hi]
  · simp [hi]
/-- A row of names behind a row of names of one's own. -/
theorem Ow.catS {B B2 : Nat} {w : World} {v x2 : Value} {xs ys : List ByteArray} (h : Ow 1 9 RS B w v xs) (h2 : Ow 1 9 RS B2 w x2 ys)
    {ops : Array Oper} {rest : List Oper} {o : Oper} {a : Act} {Q : Exit → Act → World → Prop} (hgd : o.guard = none) (s x : Operand)
    (ho : o.op = .call { callee := .builtin .append, args := #[s, x], argTypes := #[32, 32] }) (hs : a.eval s = v) (hx : a.eval x = x2) (hL : xs.length ≤ 100000) (hL2 : ys.length ≤ 100000) (hB : B ≤ w.heap.size)
    (K : ∀ v' w', Ow 1 9 RS B w' v' (xs ++ ys) → w.grownBy w' v.ownBlock → (∀ k, v.ownBlock = some k → B ≤ k) → wpList Tryz.prog ops Q rest (a.put o.dst v') w') : wpList Tryz.prog ops Q (o :: rest) a w := by
  obtain ⟨i0, hi, hz0, hz1, hz2⟩ := info_parts infS9
  obtain ⟨C, c1, c2, c3⟩ := id h
  have hcell : ∀ ao n c, x2 = .slice ao n c → ∀ j y, ys[j]? = some y → ∃ g, ao = some ⟨g, 0, none⟩ ∧ w.cell? ⟨g, j, none⟩ = some (.string y) := fun ao n c e j y hj => by
    subst e
    obtain ⟨g, cs, e1, _, _, e2, q0, _⟩ := h2.at hj
    have e2 : cs = [.string y] := e2
    subst e2
    have q0 := q0 0 _ rfl
    have off0 : j * 1 + 0 = j := by omega
    rw [off0] at q0
    exact ⟨g, e1, q0⟩
  obtain ⟨D2, d1, d2, d3⟩ := id h2
  rcases d2.2 with ⟨hv, h0⟩ | ⟨g, cap, cur, hv, hb, hg, hc1, hc2, hc3, ht⟩
  · have hy : ys = [] := List.length_eq_zero_iff.1 h0
    subst hy
    refine wpList_append_own_none hgd s x 32 ho B 9 i0 1 Tryz.underlying32 hi v xs.length _ hs c2 (hx.trans hv) ?_
    exact K v w (by rw [List.append_nil]; exact h) (grown_self _ _) (fun k hk => (c2.lt k hk).1)
  · refine wpList_append_own_at _ hgd s x 32 ho B 9 i0 (.string ⟨#[]⟩) 1 16 Tryz.underlying32 hi hz0 hz1 hz2 (by rfl) (by decide) v xs.length _ hs c2 ⟨g, 0, none⟩ ys.length cap (ys.map Value.string) (hx.trans hv) (by simp) (fun j q hj => ?_) (fun q hq => ?_) (by unfold maxLen; omega) (by omega) hB ?_
    · have ea : (⟨g, 0, none⟩ : Addr).add j = ⟨g, j, none⟩ := by unfold Addr.add; split <;> simp_all
      rw [ea]
      rw [List.getElem?_map] at hj
      cases hy : ys[j]? with
      | none => rw [hy] at hj; cases hj
      | some y =>
        rw [hy] at hj
        have hj : Value.string y = q := by simpa using hj
        subst hj
        obtain ⟨g', e1, q0⟩ := hcell _ _ _ hv j y hy
        have e1 : g = g' := by simpa using e1
        subst e1
        exact q0
    · obtain ⟨y, _, rfl⟩ := List.mem_map.1 hq
      rfl
    · intro v' w' g1 g2 _ _
      refine K v' w' ⟨fun i => if i < xs.length then C i else [.string (ys.getD (i - xs.length) ⟨#[]⟩)], fun i => by dsimp only; split; exact c1 i; rfl, ?_, fun i a hia => ?_⟩ g2 (fun k hk => (c2.lt k hk).1)
      · rw [List.length_append]
        rw [← range_map_str, flat_app C (fun i => [.string (ys.getD i ⟨#[]⟩)]) xs.length ys.length] at g1
        exact g1
      · dsimp only
        by_cases hlt : i < xs.length
        · rw [if_pos hlt]
          rw [List.getElem?_append_left hlt] at hia
          exact c3 i a hia
        · rw [if_neg hlt]
          rw [List.getElem?_append_right (by omega)] at hia
          show [Value.string (ys.getD (i - xs.length) ⟨#[]⟩)] = [.string a]
          simp [List.getD, hia]

/-- Where a class's fields and methods are looked for, in this order. -/
def abv (P : List Cls) (c : ByteArray) : List ByteArray := (walkN P c).1 ++ ifcE P c
theorem above_nil (n : ByteArray) (w : World) : Calls Tryz.prog 131 #[.pointer none, .string n] w fun e w' => e = .returned (.slice none 0 0) ∧ Ch w w' := by
  have h1 := supers_nil n w
  have h2 := told_nil n w
  obtain ⟨i0, hi, _, _, _⟩ := info_parts infS9
  go_enter Tryz.func131, Tryz.ntmps131
  go_wp2_with (first
    | (go_at_call 33; (with_reducible refine h1.mono ?_); clear h1; rintro e w1 ⟨rfl, hw⟩; have hw := hw.symm; subst hw)
    | (go_at_call 34; (with_reducible refine h2.mono ?_); clear h2; rintro e w2 ⟨rfl, c2⟩)
    | (at_builtin; refine wpList_append_own_none rfl (.tmp 7) (.tmp 10) 32 rfl 0 9 i0 1 Tryz.underlying32 hi _ 0 [] rfl (World.ownsRow_nil _ _ _ _) rfl ?_)
    | fail)
  go_ret
  exact ⟨rfl, c2⟩
def er {α : Type} : Option α → Int
  | some _ => 0
  | none => 8
theorem fst1_none (F : ByteArray → Option Mth) : ∀ l : List ByteArray, (fst1 F l).2 = none → (fst1 F l).1 = ⟨#[]⟩
  | [], _ => rfl
  | x :: r, h => by
    rw [fst1] at h ⊢
    cases hx : F x with
    | none => rw [hx] at h; exact fst1_none F r h
    | some m => rw [hx] at h; cases h
theorem fst2_none (F : ByteArray → Option Fld) : ∀ l : List ByteArray, (fst2 F l).2 = none → (fst2 F l).1 = ⟨#[]⟩
  | [], _ => rfl
  | x :: r, h => by
    rw [fst2] at h ⊢
    cases hx : F x with
    | none => rw [hx] at h; exact fst2_none F r h
    | some m => rw [hx] at h; cases h
set_option maxHeartbeats 16000000 in
set_option maxRecDepth 100000 in
theorem dispatch_gen (c n d : ByteArray) (po : Option Addr) (L : List ByteArray) (F : ByteArray → Option Mth) (w : World) (hL : ∀ x ∈ L, x.size ≤ 100000)
    (hA : ∀ w', Ch w w' → Calls Tryz.prog 33 #[.pointer po, .string c] w' fun e w2 => ∃ v, e = .returned v ∧ Sl 1 RS w2 v L ∧ Ch w' w2) (hf : ∀ w' tp tn td, Ch w w' → w'.cell? ⟨tp, 0, none⟩ = some (.pointer po) → w'.cell? ⟨tn, 0, none⟩ = some (.string n) → w'.cell? ⟨td, 0, none⟩ = some (.string d) → ∀ x ∈ L, Calls Tryz.prog 139 #[.string x, .pointer (some ⟨tp, 0, none⟩), .pointer (some ⟨tn, 0, none⟩), .pointer (some ⟨td, 0, none⟩)] w' fun e w2 => ∃ v m, e = .returned (.tuple #[v, .bool (F x).isSome]) ∧ Mw w' w2 v m ∧ (∀ m', F x = some m' → m = m') ∧ Ch w' w2) :
    Calls Tryz.prog 69 #[.pointer po, .string c, .string n, .string d] w fun e w' => ∃ v, e = .returned (.tuple #[.string (fst1 F L).1, v, .bool (fst1 F L).2.isSome]) ∧ Mw w w' v ((fst1 F L).2.getD noM) ∧ Ch w w' := by
  have B1 := Bo.new (Ch.refl w) #[.pointer po] 25
  have B2 := Bo.new B1.ch #[.string n] 9
  have B3 := Bo.new B2.ch #[.string d] 9
  have R0 := Bo.new B3.ch #[.string ⟨#[]⟩, .string ⟨#[]⟩, .bool false, .bool false, .int .i64 0, .int .i64 0, .slice none 0 0, .slice none 0 0] 66
  have B1 := ((B1.call ((Ch.refl _).alloc (.cells #[.string n] 9))).call ((Ch.refl _).alloc (.cells #[.string d] 9))).call ((Ch.refl _).alloc (.cells #[.string ⟨#[]⟩, .string ⟨#[]⟩, .bool false, .bool false, .int .i64 0, .int .i64 0, .slice none 0 0, .slice none 0 0] 66))
  have B2 := (B2.call ((Ch.refl _).alloc (.cells #[.string d] 9))).call ((Ch.refl _).alloc (.cells #[.string ⟨#[]⟩, .string ⟨#[]⟩, .bool false, .bool false, .int .i64 0, .int .i64 0, .slice none 0 0, .slice none 0 0] 66))
  have B3 := B3.call ((Ch.refl _).alloc (.cells #[.string ⟨#[]⟩, .string ⟨#[]⟩, .bool false, .bool false, .int .i64 0, .int .i64 0, .slice none 0 0, .slice none 0 0] 66))
  have e1 : (w.alloc (.cells #[.pointer po] 25)).heap.size = w.heap.size + 1 := by simp
  have e2 : ((w.alloc (.cells #[.pointer po] 25)).alloc (.cells #[.string n] 9)).heap.size = w.heap.size + 2 := by simp
  have e3 : (((w.alloc (.cells #[.pointer po] 25)).alloc (.cells #[.string n] 9)).alloc (.cells #[.string d] 9)).heap.size = w.heap.size + 3 := by simp
  rw [e1] at B2
  rw [e2] at B3
  rw [e3] at R0
  clear e1 e2 e3
  have ha := hA _ R0.ch
  have q0 := B1.c 0 rfl
  have HF : Hid (∀ w' v, Ch w w' → Sl 1 RS w' v L → w'.cell? ⟨w.heap.size, 0, none⟩ = some (.pointer po) → w'.cell? ⟨w.heap.size + 1, 0, none⟩ = some (.string n) → w'.cell? ⟨w.heap.size + 2, 0, none⟩ = some (.string d) →
      Calls Tryz.prog 134 #[v, .func (.func 139) #[] #[.pointer (some ⟨w.heap.size, 0, none⟩), .pointer (some ⟨w.heap.size + 1, 0, none⟩), .pointer (some ⟨w.heap.size + 2, 0, none⟩)]] w' fun e w2 => ∃ v, e = .returned (.tuple #[.string (fst1 F L).1, v, .bool (fst1 F L).2.isSome]) ∧ Mw w' w2 v ((fst1 F L).2.getD noM) ∧ Ch w' w2) :=
    fun w' v k hv k1 k2 k3 => fstD_any F L v _ _ _ w' hv hL (fun w2 q x hx => hf w2 _ _ _ (k.trans q) (cell_keep q k1) (cell_keep q k2) (cell_keep q k3) x hx)
  have hno : (fst1 F L).2 = none → (fst1 F L).1 = ⟨#[]⟩ := fst1_none F L
  clear hA hf hL
  generalize fst1 F L = r at *
  obtain ⟨ow, om⟩ := r
  dsimp only at *
  clear hno
  generalize om.isSome = t at *
  generalize om.getD noM = m at *
  go_enter Tryz.func69, Tryz.ntmps69
  go_wp2_with (first
    | (go_at_call 33; (with_reducible refine ha.mono ?_); clear ha; rintro e w2 ⟨v2, rfl, s2, c2⟩; have R := R0.call c2; have hf := HF.out w2 v2 R.ch s2 ((B1.call c2).c 0 rfl) ((B2.call c2).c 0 rfl) ((B3.call c2).c 0 rfl); obtain ⟨a2, d2, rfl, _, _⟩ := s2.form)
    | (go_at_call 134; (with_reducible refine hf.mono ?_); clear hf; rintro e w3 ⟨v3, rfl, ⟨vc, vh, rfl, oc, oh⟩, c3⟩; have R3 := R.call c3; have oc := oc.base (B' := w.heap.size) R.ch.size; have oh := oh.base (B' := w.heap.size) R.ch.size; obtain ⟨ac, cc, rfl⟩ := oc.form; obtain ⟨ah, chh, rfl⟩ := oh.form; unfold mV)
    | (refine wpList_store_row rfl 66 (.tmp 9) (.tmp 17) rfl (w.heap.size + 3) #[.string m.n, .string m.d, .bool m.st, .bool m.ab, .int .i64 m.sk, .int .i64 m.lo, .slice ac m.code.length cc, .slice ah m.hs.length chh] rfl rfl 66 _ R3.b infoM rfl (one8 _ _ _ _ _ _ _ _ _ _ _ _) ?_; have R4 := R3.setRow #[.string m.n, .string m.d, .bool m.st, .bool m.ab, .int .i64 m.sk, .int .i64 m.lo, .slice ac m.code.length cc, .slice ah m.hs.length chh]; have oc4 := oc.rowI #[.string m.n, .string m.d, .bool m.st, .bool m.ab, .int .i64 m.sk, .int .i64 m.lo, .slice ac m.code.length cc, .slice ah m.hs.length chh] R3.b (by decide); have oh4 := oh.rowH #[.string m.n, .string m.d, .bool m.st, .bool m.ab, .int .i64 m.sk, .int .i64 m.lo, .slice ac m.code.length cc, .slice ah m.hs.length chh] R3.b (by decide))
    | fail)
  refine bodyPost_ret (results_cells rfl _ _ (w.heap.size + 3) 66 _ (0, 0) _ rfl R4.b Tryz.underlying66 rfl infoM) rfl ?_
  exact ⟨_, rfl, ⟨_, _, rfl, oc4, oh4⟩, R4.ch⟩
set_option maxHeartbeats 16000000 in
set_option maxRecDepth 100000 in
theorem method_gen (c n d : ByteArray) (po : Option Addr) (L : List ByteArray) (F : ByteArray → Option Mth) (w : World) (hL : ∀ x ∈ L, x.size ≤ 100000)
    (hA : ∀ w', Ch w w' → Calls Tryz.prog 131 #[.pointer po, .string c] w' fun e w2 => ∃ v, e = .returned v ∧ Sl 1 RS w2 v L ∧ Ch w' w2) (hf : ∀ w' tp tn td, Ch w w' → w'.cell? ⟨tp, 0, none⟩ = some (.pointer po) → w'.cell? ⟨tn, 0, none⟩ = some (.string n) → w'.cell? ⟨td, 0, none⟩ = some (.string d) → ∀ x ∈ L, Calls Tryz.prog 135 #[.string x, .pointer (some ⟨tp, 0, none⟩), .pointer (some ⟨tn, 0, none⟩), .pointer (some ⟨td, 0, none⟩)] w' fun e w2 => ∃ v m, e = .returned (.tuple #[v, .bool (F x).isSome]) ∧ Mw w' w2 v m ∧ (∀ m', F x = some m' → m = m') ∧ Ch w' w2) :
    Calls Tryz.prog 64 #[.pointer po, .string c, .string n, .string d] w fun e w' => ∃ v, e = .returned (.tuple #[.string (fst1 F L).1, v, .int .i64 (er (fst1 F L).2)]) ∧ Mw w w' v ((fst1 F L).2.getD noM) ∧ Ch w w' := by
  have B1 := Bo.new (Ch.refl w) #[.pointer po] 25
  have B2 := Bo.new B1.ch #[.string n] 9
  have B3 := Bo.new B2.ch #[.string d] 9
  have R0 := Bo.new B3.ch #[.string ⟨#[]⟩, .string ⟨#[]⟩, .bool false, .bool false, .int .i64 0, .int .i64 0, .slice none 0 0, .slice none 0 0] 66
  have B1 := ((B1.call ((Ch.refl _).alloc (.cells #[.string n] 9))).call ((Ch.refl _).alloc (.cells #[.string d] 9))).call ((Ch.refl _).alloc (.cells #[.string ⟨#[]⟩, .string ⟨#[]⟩, .bool false, .bool false, .int .i64 0, .int .i64 0, .slice none 0 0, .slice none 0 0] 66))
  have B2 := (B2.call ((Ch.refl _).alloc (.cells #[.string d] 9))).call ((Ch.refl _).alloc (.cells #[.string ⟨#[]⟩, .string ⟨#[]⟩, .bool false, .bool false, .int .i64 0, .int .i64 0, .slice none 0 0, .slice none 0 0] 66))
  have B3 := B3.call ((Ch.refl _).alloc (.cells #[.string ⟨#[]⟩, .string ⟨#[]⟩, .bool false, .bool false, .int .i64 0, .int .i64 0, .slice none 0 0, .slice none 0 0] 66))
  have e1 : (w.alloc (.cells #[.pointer po] 25)).heap.size = w.heap.size + 1 := by simp
  have e2 : ((w.alloc (.cells #[.pointer po] 25)).alloc (.cells #[.string n] 9)).heap.size = w.heap.size + 2 := by simp
  have e3 : (((w.alloc (.cells #[.pointer po] 25)).alloc (.cells #[.string n] 9)).alloc (.cells #[.string d] 9)).heap.size = w.heap.size + 3 := by simp
  rw [e1] at B2
  rw [e2] at B3
  rw [e3] at R0
  clear e1 e2 e3
  have ha := hA _ R0.ch
  have q0 := B1.c 0 rfl
  have HF : Hid (∀ w' v, Ch w w' → Sl 1 RS w' v L → w'.cell? ⟨w.heap.size, 0, none⟩ = some (.pointer po) → w'.cell? ⟨w.heap.size + 1, 0, none⟩ = some (.string n) → w'.cell? ⟨w.heap.size + 2, 0, none⟩ = some (.string d) →
      Calls Tryz.prog 134 #[v, .func (.func 135) #[] #[.pointer (some ⟨w.heap.size, 0, none⟩), .pointer (some ⟨w.heap.size + 1, 0, none⟩), .pointer (some ⟨w.heap.size + 2, 0, none⟩)]] w' fun e w2 => ∃ v, e = .returned (.tuple #[.string (fst1 F L).1, v, .bool (fst1 F L).2.isSome]) ∧ Mw w' w2 v ((fst1 F L).2.getD noM) ∧ Ch w' w2) :=
    fun w' v k hv k1 k2 k3 => fstM_any F L v _ _ _ w' hv hL (fun w2 q x hx => hf w2 _ _ _ (k.trans q) (cell_keep q k1) (cell_keep q k2) (cell_keep q k3) x hx)
  have hno : (fst1 F L).2 = none → (fst1 F L).1 = ⟨#[]⟩ := fst1_none F L
  clear hA hf hL
  generalize fst1 F L = r at *
  obtain ⟨ow, om⟩ := r
  dsimp only at *
  cases om with
  | none =>
    obtain rfl : ow = ⟨#[]⟩ := hno rfl
    clear hno
    generalize hm : Option.getD none noM = m at *
    go_enter Tryz.func64, Tryz.ntmps64
    go_wp2_with (first
    | (go_at_call 131; (with_reducible refine ha.mono ?_); clear ha; rintro e w2 ⟨v2, rfl, s2, c2⟩; have R := R0.call c2; have hf := HF.out w2 v2 R.ch s2 ((B1.call c2).c 0 rfl) ((B2.call c2).c 0 rfl) ((B3.call c2).c 0 rfl); obtain ⟨a2, d2, rfl, _, _⟩ := s2.form)
    | (go_at_call 134; (with_reducible refine hf.mono ?_); clear hf; rintro e w3 ⟨v3, rfl, ⟨vc, vh, rfl, oc, oh⟩, c3⟩; have R3 := R.call c3; have oc := oc.base (B' := w.heap.size) R.ch.size; have oh := oh.base (B' := w.heap.size) R.ch.size; obtain ⟨ac, cc, rfl⟩ := oc.form; obtain ⟨ah, chh, rfl⟩ := oh.form; unfold mV)
    | (refine wpList_store_row rfl 66 (.tmp 9) (.tmp 19) rfl (w.heap.size + 3) #[.string m.n, .string m.d, .bool m.st, .bool m.ab, .int .i64 m.sk, .int .i64 m.lo, .slice ac m.code.length cc, .slice ah m.hs.length chh] rfl rfl 66 _ R3.b infoM rfl (one8 _ _ _ _ _ _ _ _ _ _ _ _) ?_; have R4 := R3.setRow #[.string m.n, .string m.d, .bool m.st, .bool m.ab, .int .i64 m.sk, .int .i64 m.lo, .slice ac m.code.length cc, .slice ah m.hs.length chh]; have oc4 := oc.rowI #[.string m.n, .string m.d, .bool m.st, .bool m.ab, .int .i64 m.sk, .int .i64 m.lo, .slice ac m.code.length cc, .slice ah m.hs.length chh] R3.b (by decide); have oh4 := oh.rowH #[.string m.n, .string m.d, .bool m.st, .bool m.ab, .int .i64 m.sk, .int .i64 m.lo, .slice ac m.code.length cc, .slice ah m.hs.length chh] R3.b (by decide))
    | (refine wpList_store_row rfl 66 (.tmp 9) (.tmp 23) rfl (w.heap.size + 3) #[.string ⟨#[]⟩, .string ⟨#[]⟩, .bool false, .bool false, .int .i64 0, .int .i64 0, .slice none 0 0, .slice none 0 0] rfl rfl 66 _ R4.b infoM rfl (one8 _ _ _ _ _ _ _ _ _ _ _ _) ?_; have R5 := R4.setRow #[.string ⟨#[]⟩, .string ⟨#[]⟩, .bool false, .bool false, .int .i64 0, .int .i64 0, .slice none 0 0, .slice none 0 0])
    | fail)
    refine bodyPost_ret (results_cells rfl _ _ (w.heap.size + 3) 66 _ (0, 0) _ rfl R5.b Tryz.underlying66 rfl infoM) rfl ?_
    exact ⟨_, rfl, hm ▸ ⟨_, _, rfl, Ow.nil, Ow.nil⟩, R5.ch⟩
  | some m =>
    clear hno
    have e0 : (some m).getD noM = m := rfl
    rw [e0] at *
    go_enter Tryz.func64, Tryz.ntmps64
    go_wp2_with (first
    | (go_at_call 131; (with_reducible refine ha.mono ?_); clear ha; rintro e w2 ⟨v2, rfl, s2, c2⟩; have R := R0.call c2; have hf := HF.out w2 v2 R.ch s2 ((B1.call c2).c 0 rfl) ((B2.call c2).c 0 rfl) ((B3.call c2).c 0 rfl); obtain ⟨a2, d2, rfl, _, _⟩ := s2.form)
    | (go_at_call 134; (with_reducible refine hf.mono ?_); clear hf; rintro e w3 ⟨v3, rfl, ⟨vc, vh, rfl, oc, oh⟩, c3⟩; have R3 := R.call c3; have oc := oc.base (B' := w.heap.size) R.ch.size; have oh := oh.base (B' := w.heap.size) R.ch.size; obtain ⟨ac, cc, rfl⟩ := oc.form; obtain ⟨ah, chh, rfl⟩ := oh.form; unfold mV)
    | (refine wpList_store_row rfl 66 (.tmp 9) (.tmp 19) rfl (w.heap.size + 3) #[.string m.n, .string m.d, .bool m.st, .bool m.ab, .int .i64 m.sk, .int .i64 m.lo, .slice ac m.code.length cc, .slice ah m.hs.length chh] rfl rfl 66 _ R3.b infoM rfl (one8 _ _ _ _ _ _ _ _ _ _ _ _) ?_; have R4 := R3.setRow #[.string m.n, .string m.d, .bool m.st, .bool m.ab, .int .i64 m.sk, .int .i64 m.lo, .slice ac m.code.length cc, .slice ah m.hs.length chh]; have oc4 := oc.rowI #[.string m.n, .string m.d, .bool m.st, .bool m.ab, .int .i64 m.sk, .int .i64 m.lo, .slice ac m.code.length cc, .slice ah m.hs.length chh] R3.b (by decide); have oh4 := oh.rowH #[.string m.n, .string m.d, .bool m.st, .bool m.ab, .int .i64 m.sk, .int .i64 m.lo, .slice ac m.code.length cc, .slice ah m.hs.length chh] R3.b (by decide))
    | fail)
    have R5 := R4.call (Ch.refl _).drew
    refine wp_region_held_drew (S := fun w' => w'.cell? ⟨w.heap.size + 3, 0, none⟩ = some (.string m.n) ∧ w'.cell? ⟨w.heap.size + 3, 1, none⟩ = some (.string m.d) ∧ w'.cell? ⟨w.heap.size + 3, 2, none⟩ = some (.bool m.st) ∧ w'.cell? ⟨w.heap.size + 3, 3, none⟩ = some (.bool m.ab) ∧ w'.cell? ⟨w.heap.size + 3, 4, none⟩ = some (.int .i64 m.sk) ∧ w'.cell? ⟨w.heap.size + 3, 5, none⟩ = some (.int .i64 m.lo) ∧ w'.cell? ⟨w.heap.size + 3, 6, none⟩ = some (.slice ac m.code.length cc) ∧ w'.cell? ⟨w.heap.size + 3, 7, none⟩ = some (.slice ah m.hs.length chh)) (by kernel_rfl) (by exact ⟨(R5).c 0 rfl, (R5).c 1 rfl, (R5).c 2 rfl, (R5).c 3 rfl, (R5).c 4 rfl, (R5).c 5 rfl, (R5).c 6 rfl, (R5).c 7 rfl⟩) (fun hHeld => ?_)
    refine wpAnyH_take (i := 0) (oi := ({ dst := some 24, op := Go.Op.move (Go.Operand.tmp 8), type := 9, pos := "resolve.go:35", after := #[], guard := none } : Oper)) (v := ?_) rfl (by kernel_rfl) (by kernel_rfl) (by kernel_rfl) (fun _ _ _ h => h) (Or.inl ⟨by rfl, ?_⟩) (by assumption) ?_
    rotate_left
    focus (intro w' hSw; (try dsimp only at hSw); go_split_ands; go_simp; try with_reducible rfl)
    (try simp only [Act.put, List.setIfInBounds_toArray, List.set_cons_zero, List.set_cons_succ])
    refine wpAnyH_take (i := 1) (oi := ({ dst := some 25, op := Go.Op.load 66 (Go.Operand.tmp 9), type := 66, pos := "resolve.go:35", after := #[{ on := 2, ground := Go.Ground.gcOnly Go.Departure.lateStores }], guard := none } : Oper)) (v := ?_) rfl (by kernel_rfl) (by kernel_rfl) (by kernel_rfl) (fun _ _ _ h => h) (Or.inl ⟨by rfl, ?_⟩) (by assumption) ?_
    rotate_left
    focus (intro w' hSw; (try dsimp only at hSw); go_split_ands; go_simp; try with_reducible rfl)
    (try simp only [Act.put, List.setIfInBounds_toArray, List.set_cons_zero, List.set_cons_succ])
    refine wpAnyH_take (i := 2) (oi := ({ dst := some 8, op := Go.Op.assign (Go.Operand.tmp 24), type := 9, pos := "resolve.go:35", after := #[{ on := 0, ground := Go.Ground.data }, { on := 0, ground := Go.Ground.phase }, { on := 1, ground := Go.Ground.textOnly Go.Departure.lateStores }], guard := none } : Oper)) (v := ?_) rfl (by kernel_rfl) (by kernel_rfl) (by kernel_rfl) (fun _ _ _ h => h) (Or.inl ⟨by rfl, ?_⟩) (by assumption) ?_
    rotate_left
    focus (intro w' hSw; (try dsimp only at hSw); go_split_ands; go_simp; try with_reducible rfl)
    (try simp only [Act.put, List.setIfInBounds_toArray, List.set_cons_zero, List.set_cons_succ])
    refine wpAnyH_ready (rs := [3]) (by kernel_rfl) (by simp) ?_
    refine AllReadyH.cons (o := ({ dst := none, op := Go.Op.store 66 (Go.Operand.tmp 9) (Go.Operand.tmp 25), type := 0, pos := "resolve.go:35", after := #[{ on := 1, ground := Go.Ground.data }, { on := 2, ground := Go.Ground.chain }, { on := 0, ground := Go.Ground.phase }, { on := 1, ground := Go.Ground.phase }, { on := 2, ground := Go.Ground.phase }], guard := none } : Oper)) rfl (fun K hK => ?_) AllReadyH.nil
    refine wp_store_row 66 (.tmp 9) (.tmp 25) rfl (w.heap.size + 3) #[.string m.n, .string m.d, .bool m.st, .bool m.ab, .int .i64 m.sk, .int .i64 m.lo, .slice ac m.code.length cc, .slice ah m.hs.length chh] rfl rfl 66 _ R5.b infoM rfl (one8 _ _ _ _ _ _ _ _ _ _ _ _) ?_
    have R7 := R5.setRow #[.string m.n, .string m.d, .bool m.st, .bool m.ab, .int .i64 m.sk, .int .i64 m.lo, .slice ac m.code.length cc, .slice ah m.hs.length chh]
    refine hK.out _ _ ?_ (fun hHeld => ?_)
    exact ⟨(R7).c 0 rfl, (R7).c 1 rfl, (R7).c 2 rfl, (R7).c 3 rfl, (R7).c 4 rfl, (R7).c 5 rfl, (R7).c 6 rfl, (R7).c 7 rfl⟩
    clear hK K
    (try simp only [Act.put])
    refine wpAnyH_take (i := 4) (oi := ({ dst := some 10, op := Go.Op.assign (Go.Operand.const (Go.Value.int Go.IntKind.i64 0)), type := 26, pos := "resolve.go:35", after := #[{ on := 3, ground := Go.Ground.chain }, { on := 0, ground := Go.Ground.phase }, { on := 1, ground := Go.Ground.phase }, { on := 2, ground := Go.Ground.phase }, { on := 3, ground := Go.Ground.phase }], guard := none } : Oper)) (v := ?_) rfl (by kernel_rfl) (by kernel_rfl) (by kernel_rfl) (fun _ _ _ h => h) (Or.inl ⟨by rfl, ?_⟩) (by assumption) ?_
    rotate_left
    focus (intro w' hSw; (try dsimp only at hSw); go_split_ands; go_simp; try with_reducible rfl)
    (try simp only [Act.put, List.setIfInBounds_toArray, List.set_cons_zero, List.set_cons_succ])
    refine wpAnyH_done (by kernel_rfl) ?_ _
    go_wp2_with fail
    refine bodyPost_ret (results_cells rfl _ _ (w.heap.size + 3) 66 _ (0, 0) _ rfl R7.b Tryz.underlying66 rfl infoM) rfl ?_
    exact ⟨_, rfl, ⟨_, _, rfl, (oc4.keepI (Ch.refl _).drew).rowI _ R5.b (by decide), (oh4.keepH (Ch.refl _).drew).rowH _ R5.b (by decide)⟩, R7.ch⟩
set_option maxHeartbeats 16000000 in
set_option maxRecDepth 100000 in
theorem field_gen (c n d : ByteArray) (st : Bool) (po : Option Addr) (L : List ByteArray) (F : ByteArray → Option Fld) (w : World) (hL : ∀ x ∈ L, x.size ≤ 100000)
    (hA : ∀ w', Ch w w' → Calls Tryz.prog 131 #[.pointer po, .string c] w' fun e w2 => ∃ v, e = .returned v ∧ Sl 1 RS w2 v L ∧ Ch w' w2) (hf : ∀ w' tp tn td ts, Ch w w' → w'.cell? ⟨tp, 0, none⟩ = some (.pointer po) → w'.cell? ⟨tn, 0, none⟩ = some (.string n) → w'.cell? ⟨td, 0, none⟩ = some (.string d) → w'.cell? ⟨ts, 0, none⟩ = some (.bool st) → ∀ x ∈ L, Calls Tryz.prog 132 #[.string x, .pointer (some ⟨tp, 0, none⟩), .pointer (some ⟨tn, 0, none⟩), .pointer (some ⟨td, 0, none⟩), .pointer (some ⟨ts, 0, none⟩)] w' fun e w2 => ∃ m, e = .returned (.tuple #[fV m, .bool (F x).isSome]) ∧ (∀ m', F x = some m' → m = m') ∧ Ch w' w2) :
    Calls Tryz.prog 62 #[.pointer po, .string c, .string n, .string d, .bool st] w fun e w' => e = .returned (.tuple #[.string (fst2 F L).1, .int .i64 (er (fst2 F L).2)]) ∧ Ch w w' := by
  have B1 := Bo.new (Ch.refl w) #[.pointer po] 25
  have B2 := Bo.new B1.ch #[.string n] 9
  have B3 := Bo.new B2.ch #[.string d] 9
  have B4 := Bo.new B3.ch #[.bool st] 4
  have B1 := ((B1.call ((Ch.refl _).alloc (.cells #[.string n] 9))).call ((Ch.refl _).alloc (.cells #[.string d] 9))).call ((Ch.refl _).alloc (.cells #[.bool st] 4))
  have B2 := (B2.call ((Ch.refl _).alloc (.cells #[.string d] 9))).call ((Ch.refl _).alloc (.cells #[.bool st] 4))
  have B3 := B3.call ((Ch.refl _).alloc (.cells #[.bool st] 4))
  have e1 : (w.alloc (.cells #[.pointer po] 25)).heap.size = w.heap.size + 1 := by simp
  have e2 : ((w.alloc (.cells #[.pointer po] 25)).alloc (.cells #[.string n] 9)).heap.size = w.heap.size + 2 := by simp
  have e3 : (((w.alloc (.cells #[.pointer po] 25)).alloc (.cells #[.string n] 9)).alloc (.cells #[.string d] 9)).heap.size = w.heap.size + 3 := by simp
  rw [e1] at B2
  rw [e2] at B3
  rw [e3] at B4
  clear e1 e2 e3
  have ha := hA _ B4.ch
  have q0 := B1.c 0 rfl
  have HF : Hid (∀ w' v, Ch w w' → Sl 1 RS w' v L → w'.cell? ⟨w.heap.size, 0, none⟩ = some (.pointer po) → w'.cell? ⟨w.heap.size + 1, 0, none⟩ = some (.string n) → w'.cell? ⟨w.heap.size + 2, 0, none⟩ = some (.string d) → w'.cell? ⟨w.heap.size + 3, 0, none⟩ = some (.bool st) →
      Calls Tryz.prog 130 #[v, .func (.func 132) #[] #[.pointer (some ⟨w.heap.size, 0, none⟩), .pointer (some ⟨w.heap.size + 1, 0, none⟩), .pointer (some ⟨w.heap.size + 2, 0, none⟩), .pointer (some ⟨w.heap.size + 3, 0, none⟩)]] w' fun e w2 => e = .returned (.tuple #[.string (fst2 F L).1, fV ((fst2 F L).2.getD noF), .bool (fst2 F L).2.isSome]) ∧ Ch w' w2) :=
    fun w' v k hv k1 k2 k3 k4 => firstF_any F L v _ _ _ _ w' hv hL (fun w2 q x hx => hf w2 _ _ _ _ (k.trans q) (cell_keep q k1) (cell_keep q k2) (cell_keep q k3) (cell_keep q k4) x hx)
  have hno : (fst2 F L).2 = none → (fst2 F L).1 = ⟨#[]⟩ := fst2_none F L
  clear hA hf hL
  generalize fst2 F L = r at *
  obtain ⟨ow, om⟩ := r
  dsimp only at *
  have HN : Hid (om = none → ow = ⟨#[]⟩) := hno
  clear hno
  obtain ⟨m, hm⟩ : ∃ m, om.getD noF = m := ⟨_, rfl⟩
  rw [hm] at HF
  clear hm
  unfold fV at HF
  cases om with
  | none =>
    obtain rfl : ow = ⟨#[]⟩ := HN.out rfl
    go_enter Tryz.func62, Tryz.ntmps62
    go_wp2_with (first
      | (go_at_call 131; (with_reducible refine ha.mono ?_); clear ha; rintro e w2 ⟨v2, rfl, s2, c2⟩; have R := B4.call c2; have hf := HF.out w2 v2 R.ch s2 ((B1.call c2).c 0 rfl) ((B2.call c2).c 0 rfl) ((B3.call c2).c 0 rfl) ((B4.call c2).c 0 rfl); obtain ⟨a2, d2, rfl, _, _⟩ := s2.form)
      | (go_at_call 130; (with_reducible refine hf.mono ?_); clear hf; rintro e w3 ⟨rfl, c3⟩; have T0 := Bo.new (R.call c3).ch #[.string ⟨#[]⟩, .string ⟨#[]⟩, .bool false] 103)
      | (refine wpList_store_row rfl 103 (.tmp 12) (.tmp 21) rfl w3.heap.size #[.string m.n, .string m.d, .bool m.st] rfl rfl 103 _ T0.b infoF rfl (one3 _ _ _) ?_; have T1 := T0.setRow #[.string m.n, .string m.d, .bool m.st])
      | fail)
    go_ret2
    exact ⟨rfl, T1.ch⟩
  | some m0 =>
    go_enter Tryz.func62, Tryz.ntmps62
    go_wp2_with (first
      | (go_at_call 131; (with_reducible refine ha.mono ?_); clear ha; rintro e w2 ⟨v2, rfl, s2, c2⟩; have R := B4.call c2; have hf := HF.out w2 v2 R.ch s2 ((B1.call c2).c 0 rfl) ((B2.call c2).c 0 rfl) ((B3.call c2).c 0 rfl) ((B4.call c2).c 0 rfl); obtain ⟨a2, d2, rfl, _, _⟩ := s2.form)
      | (go_at_call 130; (with_reducible refine hf.mono ?_); clear hf; rintro e w3 ⟨rfl, c3⟩; have T0 := Bo.new (R.call c3).ch #[.string ⟨#[]⟩, .string ⟨#[]⟩, .bool false] 103)
      | (refine wpList_store_row rfl 103 (.tmp 12) (.tmp 21) rfl w3.heap.size #[.string m.n, .string m.d, .bool m.st] rfl rfl 103 _ T0.b infoF rfl (one3 _ _ _) ?_; have T1 := T0.setRow #[.string m.n, .string m.d, .bool m.st])
      | fail)
    go_ret2
    exact ⟨rfl, T1.ch⟩
end Go.Proofs.YthmepecmeambmaaGreat
namespace Go.Proofs.YthmepecmeambmaaGreat
open Go.RowKit
set_option linter.unusedVariables false

theorem nms_sz {P : List Cls} (hT : okCs P) : ∀ s ∈ nms P, s.size ≤ 100000 := fun s hs => by
  obtain ⟨c, hc, rfl⟩ := List.mem_map.1 hs
  have := hT c hc
  unfold clsT at this
  omega
theorem dispatch_any (c n d : ByteArray) (P : List Cls) (g b : Nat) (w : World) (h : Pm w g b P) (hT : okCs P) :
    Calls Tryz.prog 69 #[.pointer (some ⟨g, 0, none⟩), .string c, .string n, .string d] w fun e w' => ∃ v, e = .returned (.tuple #[.string (fst1 (dspF P n d) (walkN P c).1).1, v, .bool (fst1 (dspF P n d) (walkN P c).1).2.isSome]) ∧ Mw w w' v ((fst1 (dspF P n d) (walkN P c).1).2.getD noM) ∧ Ch w w' :=
  dispatch_gen c n d (some ⟨g, 0, none⟩) (walkN P c).1 (dspF P n d) w (fun x hx => nms_sz hT x (walk_in c P x hx))
    (fun w' k => (supers_any c P g b w' (h.keep k)).mono (fun e w2 ⟨v, h1, h2, h3⟩ => ⟨v, h1, h2.sl, h3⟩))
    (fun w' tp tn td k k1 k2 k3 x _ => askD_any x n d tp tn td P g b w' (h.keep k) hT k1 k2 k3)
def noneF (_ : ByteArray) : Option Mth := none
theorem dispatch_nil (c n d : ByteArray) (w : World) :
    Calls Tryz.prog 69 #[.pointer none, .string c, .string n, .string d] w fun e w' => ∃ v, e = .returned (.tuple #[.string ⟨#[]⟩, v, .bool false]) ∧ Mw w w' v noM ∧ Ch w w' :=
  dispatch_gen c n d none [] noneF w (fun x hx => by cases hx)
    (fun w' k => (supers_nil c w').mono (fun e w2 ⟨h1, h2⟩ => ⟨_, h1, nilR _ _ _, by rw [h2]; exact Ch.refl _⟩))
    (fun w' tp tn td k k1 k2 k3 x hx => by cases hx)
theorem method_nil (c n d : ByteArray) (w : World) :
    Calls Tryz.prog 64 #[.pointer none, .string c, .string n, .string d] w fun e w' => ∃ v, e = .returned (.tuple #[.string ⟨#[]⟩, v, .int .i64 8]) ∧ Mw w w' v noM ∧ Ch w w' :=
  method_gen c n d none [] noneF w (fun x hx => by cases hx)
    (fun w' k => (above_nil c w').mono (fun e w2 ⟨h1, h2⟩ => ⟨_, h1, nilR _ _ _, h2⟩))
    (fun w' tp tn td k k1 k2 k3 x hx => by cases hx)
def noneFF (_ : ByteArray) : Option Fld := none
theorem field_nil (c n d : ByteArray) (st : Bool) (w : World) :
    Calls Tryz.prog 62 #[.pointer none, .string c, .string n, .string d, .bool st] w fun e w' => e = .returned (.tuple #[.string ⟨#[]⟩, .int .i64 8]) ∧ Ch w w' :=
  field_gen c n d st none [] noneFF w (fun x hx => by cases hx)
    (fun w' k => (above_nil c w').mono (fun e w2 ⟨h1, h2⟩ => ⟨_, h1, nilR _ _ _, h2⟩))
    (fun w' tp tn td ts k k1 k2 k3 k4 x hx => by cases hx)
set_option maxHeartbeats 4000000 in
theorem lkMethod_nil (c n d : ByteArray) (w : World) : Calls Tryz.prog 136 #[.pointer none, .string c, .string n, .string d] w fun e w' => e = .returned (.tuple #[.agg #[.string ⟨#[]⟩, .string ⟨#[]⟩, .bool false, .bool false, .int .i64 0, .int .i64 0, .slice none 0 0, .slice none 0 0], .bool false]) ∧ Ch w w' := by
  have B1 := Bo.new (Ch.refl w) #[.string n] 9
  have B2 := Bo.new B1.ch #[.string d] 9
  have R := Bo.new B2.ch #[.string ⟨#[]⟩, .string ⟨#[]⟩, .bool false, .bool false, .int .i64 0, .int .i64 0, .slice none 0 0, .slice none 0 0] 66
  have e2 : ((w.alloc (.cells #[.string n] 9)).alloc (.cells #[.string d] 9)).heap.size = w.heap.size + 2 := by simp
  rw [e2] at R
  have hf := find_nil c (((w.alloc (.cells #[.string n] 9)).alloc (.cells #[.string d] 9)).alloc (.cells #[.string ⟨#[]⟩, .string ⟨#[]⟩, .bool false, .bool false, .int .i64 0, .int .i64 0, .slice none 0 0, .slice none 0 0] 66))
  go_enter Tryz.func136, Tryz.ntmps136
  go_wp2_with (first
    | (go_at_call 92; (with_reducible refine hf.mono ?_); clear hf; rintro e w2 ⟨rfl, hw⟩; have hw := hw.symm; subst hw)
    | (refine wpList_store_row rfl 66 (.tmp 8) (.tmp 17) rfl (w.heap.size + 2) #[.string ⟨#[]⟩, .string ⟨#[]⟩, .bool false, .bool false, .int .i64 0, .int .i64 0, .slice none 0 0, .slice none 0 0] rfl rfl 66 _ R.b infoM rfl (one8 _ _ _ _ _ _ _ _ _ _ _ _) ?_)
    | fail)
  have R6 := R.setRow #[.string ⟨#[]⟩, .string ⟨#[]⟩, .bool false, .bool false, .int .i64 0, .int .i64 0, .slice none 0 0, .slice none 0 0]
  refine bodyPost_ret (results_cell_one rfl _ _ (w.heap.size + 2) 66 _ (0, 0) _ rfl R6.b Tryz.underlying66 rfl infoM) rfl ?_
  exact ⟨rfl, R6.ch⟩
set_option maxHeartbeats 4000000 in
theorem clinit_nil (c : ByteArray) (w : World) : Calls Tryz.prog 71 #[.pointer none, .string c] w fun e w' => e = .returned (.bool false) ∧ Ch w w' := by
  have hf := lkMethod_nil c ⟨#[60, 99, 108, 105, 110, 105, 116, 62]⟩ ⟨#[40, 41, 86]⟩ w
  go_enter Tryz.func71, Tryz.ntmps71
  go_wp2_with (first
    | (go_at_call 136; (with_reducible refine hf.mono ?_); clear hf; rintro e w2 ⟨rfl, c2⟩; have T0 := Bo.new c2 #[.string ⟨#[]⟩, .string ⟨#[]⟩, .bool false, .bool false, .int .i64 0, .int .i64 0, .slice none 0 0, .slice none 0 0] 66)
    | (refine wpList_store_row rfl 66 (.tmp 5) (.tmp 11) rfl w2.heap.size #[.string ⟨#[]⟩, .string ⟨#[]⟩, .bool false, .bool false, .int .i64 0, .int .i64 0, .slice none 0 0, .slice none 0 0] rfl rfl 66 _ T0.b infoM rfl (one8 _ _ _ _ _ _ _ _ _ _ _ _) ?_; have T1 := T0.setRow #[.string ⟨#[]⟩, .string ⟨#[]⟩, .bool false, .bool false, .int .i64 0, .int .i64 0, .slice none 0 0, .slice none 0 0])
    | fail)
  go_ret
  exact ⟨rfl, T1.ch⟩
set_option maxHeartbeats 8000000 in
theorem call_nil (x : Ins) (w : World) : Calls Tryz.prog 67 #[.pointer none, x.v] w fun e w' => ∃ v, e = .returned (.tuple #[.string ⟨#[]⟩, v, .int .i64 8]) ∧ Mw w w' v noM ∧ Ch w w' := by
  unfold Ins.v
  generalize x.op = a1
  generalize x.a = a2
  generalize x.b = a3
  generalize x.c = a4
  generalize x.n = a5
  generalize x.d = a6
  have B1 := Bo.new (Ch.refl w) #[.int .i64 a1, .int .i64 a2, .int .i64 a3, .string a4, .string a5, .string a6] 62
  have R := Bo.new B1.ch #[.string ⟨#[]⟩, .string ⟨#[]⟩, .bool false, .bool false, .int .i64 0, .int .i64 0, .slice none 0 0, .slice none 0 0] 66
  have B1 := B1.call ((Ch.refl _).alloc (.cells #[.string ⟨#[]⟩, .string ⟨#[]⟩, .bool false, .bool false, .int .i64 0, .int .i64 0, .slice none 0 0, .slice none 0 0] 66))
  have e2 : (w.alloc (.cells #[.int .i64 a1, .int .i64 a2, .int .i64 a3, .string a4, .string a5, .string a6] 62)).heap.size = w.heap.size + 1 := by simp
  rw [e2] at R
  clear e2
  have q3 := B1.c 3 rfl
  have q4 := B1.c 4 rfl
  have q5 := B1.c 5 rfl
  have hf := method_nil a4 a5 a6 ((w.alloc (.cells #[.int .i64 a1, .int .i64 a2, .int .i64 a3, .string a4, .string a5, .string a6] 62)).alloc (.cells #[.string ⟨#[]⟩, .string ⟨#[]⟩, .bool false, .bool false, .int .i64 0, .int .i64 0, .slice none 0 0, .slice none 0 0] 66))
  generalize hm : noM = m at hf ⊢
  go_enter Tryz.func67, Tryz.ntmps67
  go_wp2_with (first
    | (go_at_call 64; (with_reducible refine hf.mono ?_); clear hf; rintro e w3 ⟨v3, rfl, ⟨vc, vh, rfl, oc, oh⟩, c3⟩; have R3 := R.call c3; obtain ⟨ac, cc, rfl⟩ := oc.form; obtain ⟨ah, chh, rfl⟩ := oh.form; unfold mV)
    | (refine wpList_store_row rfl 66 (.tmp 5) (.tmp 17) rfl (w.heap.size + 1) #[.string m.n, .string m.d, .bool m.st, .bool m.ab, .int .i64 m.sk, .int .i64 m.lo, .slice ac m.code.length cc, .slice ah m.hs.length chh] rfl rfl 66 _ R3.b infoM rfl (one8 _ _ _ _ _ _ _ _ _ _ _ _) ?_; have R4 := R3.setRow #[.string m.n, .string m.d, .bool m.st, .bool m.ab, .int .i64 m.sk, .int .i64 m.lo, .slice ac m.code.length cc, .slice ah m.hs.length chh])
    | (refine wpList_store_row rfl 66 (.tmp 5) (.tmp 29) rfl (w.heap.size + 1) #[.string ⟨#[]⟩, .string ⟨#[]⟩, .bool false, .bool false, .int .i64 0, .int .i64 0, .slice none 0 0, .slice none 0 0] rfl rfl 66 _ R4.b infoM rfl (one8 _ _ _ _ _ _ _ _ _ _ _ _) ?_; have R5 := R4.setRow #[.string ⟨#[]⟩, .string ⟨#[]⟩, .bool false, .bool false, .int .i64 0, .int .i64 0, .slice none 0 0, .slice none 0 0])
    | fail)
  refine bodyPost_ret (results_cells rfl _ _ (w.heap.size + 1) 66 _ (0, 0) _ rfl R5.b Tryz.underlying66 rfl infoM) rfl ?_
  exact ⟨_, rfl, hm ▸ ⟨_, _, rfl, Ow.nil, Ow.nil⟩, R5.ch⟩
theorem itself_nil (c : ByteArray) (w : World) : Calls Tryz.prog 140 #[.pointer none, .string c] w fun e w' => e = .returned (.string ⟨#[]⟩) ∧ w' = w := by
  have hf := supers_nil c w
  go_enter Tryz.func140, Tryz.ntmps140
  go_wp2_with (first
    | (go_at_call 33; (with_reducible refine hf.mono ?_); clear hf; rintro e w2 ⟨rfl, hw⟩; have hw := hw.symm; subst hw)
    | fail)
  go_ret
  exact ⟨rfl, rfl⟩
theorem isSys_any (s : ByteArray) (w : World) : Calls Tryz.prog 75 #[.string s] w fun e w' => e = .returned (.bool (nq s nSys)) ∧ w' = w := by
  have hq : (s.toList == [83, 121, 115]) = nq s nSys := by rw [bl_toList]; rfl
  generalize nq s nSys = r at *
  go_enter Tryz.func75, Tryz.ntmps75
  go_wp2
  go_ret
  exact ⟨rfl, rfl⟩
set_option maxHeartbeats 16000000 in
theorem initializes_nil (x : Ins) (w : World) : Calls Tryz.prog 73 #[.pointer none, x.v] w fun e w' => e = .returned (.string ⟨#[]⟩) ∧ Ch w w' := by
  have HC : Hid (∀ w, Calls Tryz.prog 67 #[.pointer none, x.v] w fun e w' => ∃ v, e = .returned (.tuple #[.string ⟨#[]⟩, v, .int .i64 8]) ∧ Mw w w' v noM ∧ Ch w w') := fun w => call_nil x w
  unfold Ins.v at *
  generalize x.op = a1 at *
  generalize x.a = a2 at *
  generalize x.b = a3 at *
  generalize x.c = a4 at *
  generalize x.n = a5 at *
  generalize x.d = a6 at *
  have B1 := Bo.new (Ch.refl w) #[.int .i64 a1, .int .i64 a2, .int .i64 a3, .string a4, .string a5, .string a6] 62
  have q0 := B1.c 0 rfl
  have q1 := B1.c 1 rfl
  have q2 := B1.c 2 rfl
  have q3 := B1.c 3 rfl
  have q4 := B1.c 4 rfl
  have q5 := B1.c 5 rfl
  have HB : Hid (Ch w (w.alloc (.cells #[.int .i64 a1, .int .i64 a2, .int .i64 a3, .string a4, .string a5, .string a6] 62))) := B1.ch
  clear B1
  go_enter Tryz.func73, Tryz.ntmps73
  go_wp2_with (first
    | (go_at_call 140; (with_reducible refine (itself_nil _ _).mono ?_); rintro e w2 ⟨rfl, hw⟩; have hw := hw.symm; subst hw)
    | (go_at_call 62; (with_reducible refine (field_nil _ _ _ _ _).mono ?_); rintro e w2 ⟨rfl, c2⟩)
    | (go_at_call 67; (with_reducible refine (HC.out _).mono ?_); rintro e w2 ⟨v2, rfl, _, c2⟩)
    | (go_at_call 75; (with_reducible refine (isSys_any _ _).mono ?_); rintro e w3 ⟨rfl, hw⟩; have hw := hw.symm; subst hw)
    | fail)
  all_goals (go_ret; exact ⟨rfl, by first | exact HB.out | exact HB.out.trans c2⟩)
end Go.Proofs.YthmepecmeambmaaGreat
namespace Go.Proofs.YthmepecmeambmaaGreat
open Go.RowKit
set_option linter.unusedVariables false

abbrev rRun : ByteArray := ⟨#[114, 117, 110]⟩
abbrev rM : Mth := ⟨rRun, wV, false, false, 0, 1, [wIns], []⟩
abbrev rC : Cls := ⟨wA, nObject, false, false, [nTask], [], [rM]⟩
theorem link_R : link [rC] = (some (prog [rC]), 0, nNone) := link_ok (by decide +kernel)
theorem okc_R : okCs [rC] := fun c hc => by
  have h : ([rC].all fun c => decide (clsT c ≤ 12000)) = true := by decide +kernel
  simpa using List.all_eq_true.1 h c hc
theorem okp_R : okCs (prog [rC]) := fun c hc => by
  have h : ((prog [rC]).all fun c => decide (clsT c ≤ 12000)) = true := by decide +kernel
  simpa using List.all_eq_true.1 h c hc
theorem dsp_R : (fst1 (dspF (prog [rC]) rRun wV) (walkN (prog [rC]) wA).1).1 = wA ∧ (fst1 (dspF (prog [rC]) rRun wV) (walkN (prog [rC]) wA).1).2.isSome = true := by
  have h : (nq (fst1 (dspF (prog [rC]) rRun wV) (walkN (prog [rC]) wA).1).1 wA && (fst1 (dspF (prog [rC]) rRun wV) (walkN (prog [rC]) wA).1).2.isSome) = true := by decide +kernel
  rw [Bool.and_eq_true] at h
  exact ⟨nq_iff.1 h.1, h.2⟩
set_option maxHeartbeats 16000000 in
set_option maxRecDepth 100000 in
theorem awake8 (w : World) : Calls Tryz.prog 60 #[] w fun e w' => e = .returned (.bool true) ∧ Ch w w' := by
  have HL := link_R
  have HC : Hid (∀ vl w, Sl 7 RC w vl [rC] → Calls Tryz.prog 24 #[vl] w fun e w' => ∃ v, e = .returned (.tuple #[v, .int .i64 (link [rC]).2.1, .string (link [rC]).2.2]) ∧ Pv w' (link [rC]).1 v ∧ Ch w w') := fun vl w h => classes_any _ vl w h okc_R
  rw [HL] at HC
  clear HL
  have HD : Hid (∀ g b w', Pm w' g b (prog [rC]) → Calls Tryz.prog 69 #[.pointer (some ⟨g, 0, none⟩), .string wA, .string rRun, .string wV] w' fun e w2 => ∃ v m, e = .returned (.tuple #[.string wA, v, .bool true]) ∧ Mw w' w2 v m ∧ Ch w' w2) := fun g b w' hm => by
    have h := dispatch_any wA rRun wV _ g b w' hm okp_R
    rw [dsp_R.1, dsp_R.2] at h
    exact h.mono (fun e w2 ⟨v, h1, h2, h3⟩ => ⟨v, _, h1, h2, h3⟩)
  have HN1 : Hid (∀ w, Calls Tryz.prog 75 #[.string ⟨#[83, 121, 115]⟩] w fun e w' => e = .returned (.bool true) ∧ w' = w) := fun w => isSys_any ⟨#[83, 121, 115]⟩ w
  have HN2 : Hid (∀ w, Calls Tryz.prog 75 #[.string ⟨#[65]⟩] w fun e w' => e = .returned (.bool false) ∧ w' = w) := fun w => isSys_any ⟨#[65]⟩ w
  go_enter Tryz.func60, Tryz.ntmps60
  go_wp2_with (first
    | (go_at_call 24; refine (HC.out _ _ (one_sl (by repeat (first | (refine alloc_at _ _ _ ?_; simp; done) | refine al_keep ?_)) ⟨_, _, _, rfl, one_sl (by repeat (first | (refine alloc_at _ _ _ ?_; simp; done) | refine al_keep ?_)) rfl, nilR _ _ _, one_sl (by repeat (first | (refine alloc_at _ _ _ ?_; simp; done) | refine al_keep ?_)) ⟨_, _, rfl, one_sl (by repeat (first | (refine alloc_at _ _ _ ?_; simp; done) | refine al_keep ?_)) rfl, nilR _ _ _⟩⟩)).mono ?_; rintro e w2 ⟨v2, rfl, ⟨g, b, rfl, hm⟩, c2⟩; have hd := HD.out g b w2 hm)
    | (go_at_call 69; (with_reducible refine hd.mono ?_); clear hd; rintro e w3 ⟨v3, m, rfl, ⟨vc, vh, rfl, oc, oh⟩, c3⟩; obtain ⟨ac, cc, rfl⟩ := oc.form; obtain ⟨ah, chh, rfl⟩ := oh.form; unfold mV; have T0 := Bo.new c3 #[.string ⟨#[]⟩, .string ⟨#[]⟩, .bool false, .bool false, .int .i64 0, .int .i64 0, .slice none 0 0, .slice none 0 0] 66)
    | (refine wpList_store_row rfl 66 (.tmp 5) (.tmp 23) rfl w3.heap.size #[.string m.n, .string m.d, .bool m.st, .bool m.ab, .int .i64 m.sk, .int .i64 m.lo, .slice ac m.code.length cc, .slice ah m.hs.length chh] rfl rfl 66 _ T0.b infoM rfl (one8 _ _ _ _ _ _ _ _ _ _ _ _) ?_; have T1 := T0.setRow #[.string m.n, .string m.d, .bool m.st, .bool m.ab, .int .i64 m.sk, .int .i64 m.lo, .slice ac m.code.length cc, .slice ah m.hs.length chh]; have k1 := T1.ch)
    | (go_at_call 75; (with_reducible refine (HN1.out _).mono ?_); rintro e w4 ⟨rfl, hw⟩; have hw := hw.symm; subst hw)
    | (go_at_call 75; (with_reducible refine (HN2.out _).mono ?_); rintro e w4 ⟨rfl, hw⟩; have hw := hw.symm; subst hw)
    | fail)
  go_ret
  exact ⟨rfl, Ch.trans (Ch.trans (by repeat (first | exact Ch.refl _ | refine Ch.drew ?_ | refine Ch.alloc ?_ _ | refine Ch.trans ?_ (by assumption))) c2) k1⟩

theorem sum_big (n : Int) (hn : 1099511627776 < n) (B c : Nat) (w : World) :
    Calls Tryz.prog 58 #[.int .i64 n, .slice (some ⟨B, 0, none⟩) 3 c] w fun e w' => e = .returned (.int .i64 1099511627776) ∧ w' = w := by
  have t0 : decide ((1099511627776 : Int) < n) = true := by simpa using hn
  go_enter Tryz.func58, Tryz.ntmps58
  go_wp2
  go_loop [0, 5] (fun nv i => nv = .int .i64 n ∧ i = .int .i64 0) (fun _ _ => 0)
  case atStart => exact ⟨rfl, rfl⟩
  case round =>
    obtain ⟨rfl, rfl⟩ := hrel
    go_wp2
    go_ret
    exact ⟨rfl, rfl⟩
/-- A sum of a length and three more: some number. -/
theorem sum_some (c a b : Nat) (m : Int) (t B : Nat) (w : World) (hB : w.heap[B]? = some (.cells #[.int .i64 (a : Int), .int .i64 (b : Int), .int .i64 m] 3)) (hm : Ok m t) :
    Calls Tryz.prog 58 #[.int .i64 (c : Int), .slice (some ⟨B, 0, none⟩) 3 3] w fun e w' => ∃ r : Int, e = .returned (.int .i64 r) ∧ w' = w := by
  by_cases h : (1099511627776 : Int) < c
  · exact (sum_big c h B 3 w).mono (fun e w' ⟨h1, h2⟩ => ⟨_, h1, h2⟩)
  · exact (sum3 c a b m c a b t B w hB ⟨Okk.nat _, by omega⟩ (Okk.nat _) (Okk.nat _) hm.1).mono (fun e w' ⟨⟨r, h1, _⟩, h2⟩ => ⟨r, h1, h2⟩)

set_option maxHeartbeats 32000000 in
set_option maxRecDepth 100000 in
theorem nothing8_walk (c n d : ByteArray) (x : Ins) (w : World) : Calls Tryz.prog 20 #[.string c, .string n, .string d, x.v] w fun e w' => e = .returned (.bool true) ∧ Ch w w' := by
  have HT : Hid (∀ w, Calls Tryz.prog 59 #[x.v] w fun e w' => ∃ m, e = .returned (.int .i64 m) ∧ Ok m (insT x) ∧ Ch w w') := fun w => (insT_any x w).mono (fun e w' ⟨⟨m, h1, h2⟩, h3⟩ => ⟨m, h1, h2, h3⟩)
  have HC : Hid (∀ w, Calls Tryz.prog 67 #[.pointer none, x.v] w fun e w' => ∃ v m, e = .returned (.tuple #[.string ⟨#[]⟩, v, .int .i64 8]) ∧ Mw w w' v m ∧ Ch w w') := fun w => (call_nil x w).mono (fun e w' ⟨v, h1, h2, h3⟩ => ⟨v, _, h1, h2, h3⟩)
  have HI : Hid (∀ w, Calls Tryz.prog 73 #[.pointer none, x.v] w fun e w' => e = .returned (.string ⟨#[]⟩) ∧ Ch w w') := fun w => initializes_nil x w
  have HM : Hid (∀ w, Calls Tryz.prog 64 #[.pointer none, .string c, .string n, .string d] w fun e w' => ∃ v m, e = .returned (.tuple #[.string ⟨#[]⟩, v, .int .i64 8]) ∧ Mw w w' v m ∧ Ch w w') := fun w => (method_nil c n d w).mono (fun e w' ⟨v, h1, h2, h3⟩ => ⟨v, _, h1, h2, h3⟩)
  have HD : Hid (∀ w, Calls Tryz.prog 69 #[.pointer none, .string c, .string n, .string d] w fun e w' => ∃ v m, e = .returned (.tuple #[.string ⟨#[]⟩, v, .bool false]) ∧ Mw w w' v m ∧ Ch w w') := fun w => (dispatch_nil c n d w).mono (fun e w' ⟨v, h1, h2, h3⟩ => ⟨v, _, h1, h2, h3⟩)
  unfold Ins.v at *
  generalize insT x = ti at *
  generalize x.op = a1 at *
  generalize x.a = a2 at *
  generalize x.b = a3 at *
  generalize x.c = a4 at *
  generalize x.n = a5 at *
  generalize x.d = a6 at *
  have B1 := Bo.new (Ch.refl w) #[.int .i64 a1, .int .i64 a2, .int .i64 a3, .string a4, .string a5, .string a6] 62
  have q0 := B1.c 0 rfl
  have q1 := B1.c 1 rfl
  have q2 := B1.c 2 rfl
  have q3 := B1.c 3 rfl
  have q4 := B1.c 4 rfl
  have q5 := B1.c 5 rfl
  have HB : Hid (Bo w w.heap.size 62 #[.int .i64 a1, .int .i64 a2, .int .i64 a3, .string a4, .string a5, .string a6] (w.alloc (.cells #[.int .i64 a1, .int .i64 a2, .int .i64 a3, .string a4, .string a5, .string a6] 62))) := B1
  clear B1
  go_enter Tryz.func20, Tryz.ntmps20
  go_wp2_with (first
    | (go_at_call 59; (with_reducible refine (HT.out _).mono ?_); rintro e w1 ⟨m, rfl, hm, c1⟩; clear q0 q1 q2 q3 q4 q5)
    | (go_at_call 58; (with_reducible refine (sum_some c.size n.size d.size m ti w1.heap.size _ (heap_alloc_new _ _) hm).mono ?_); rintro e w2 ⟨r, rfl, hw⟩; have hw := hw.symm; subst hw)
    | fail)
  · go_wp2_with (first
      | (go_at_call 60; (with_reducible refine (awake8 _).mono ?_); rintro e w3 ⟨rfl, c3⟩)
      | fail)
    go_ret
    exact ⟨rfl, (HB.out.ch.trans (c1.alloc _)).trans c3⟩
  · go_wp2_with (first
      | (go_at_call 62; (with_reducible refine (field_nil _ _ _ _ _).mono ?_); rintro e w3 ⟨rfl, c3⟩; have k3 := (c1.alloc _).trans c3)
      | (go_at_call 64; (with_reducible refine (HM.out _).mono ?_); rintro e w4 ⟨v4, m4, rfl, ⟨vc4, vh4, rfl, oc, oh⟩, c4⟩; obtain ⟨p4, r4, rfl⟩ := oc.form; obtain ⟨s4, t4, rfl⟩ := oh.form; unfold mV; clear oc oh; have T4 := Bo.new (k3.trans c4) #[.string ⟨#[]⟩, .string ⟨#[]⟩, .bool false, .bool false, .int .i64 0, .int .i64 0, .slice none 0 0, .slice none 0 0] 66; try clear q0 q1 q2 q3 q4 q5)
      | (refine wpList_store_row rfl 66 (.tmp 12) (.tmp 45) rfl w4.heap.size #[.string m4.n, .string m4.d, .bool m4.st, .bool m4.ab, .int .i64 m4.sk, .int .i64 m4.lo, .slice p4 m4.code.length r4, .slice s4 m4.hs.length t4] rfl rfl 66 _ T4.b infoM rfl (one8 _ _ _ _ _ _ _ _ _ _ _ _) ?_; have k5 := (T4.setRow #[.string m4.n, .string m4.d, .bool m4.st, .bool m4.ab, .int .i64 m4.sk, .int .i64 m4.lo, .slice p4 m4.code.length r4, .slice s4 m4.hs.length t4]).ch; have B4 := HB.out.call k5; have q0 := B4.c 0 rfl; have q1 := B4.c 1 rfl; have q2 := B4.c 2 rfl; have q3 := B4.c 3 rfl; have q4 := B4.c 4 rfl; have q5 := B4.c 5 rfl; clear B4)
      | (go_at_call 67; (with_reducible refine (HC.out _).mono ?_); rintro e w6 ⟨v6, m6, rfl, ⟨vc6, vh6, rfl, oc, oh⟩, c6⟩; obtain ⟨p6, r6, rfl⟩ := oc.form; obtain ⟨s6, t6, rfl⟩ := oh.form; unfold mV; clear oc oh; have T6 := Bo.new (k5.trans c6) #[.string ⟨#[]⟩, .string ⟨#[]⟩, .bool false, .bool false, .int .i64 0, .int .i64 0, .slice none 0 0, .slice none 0 0] 66; try clear q0 q1 q2 q3 q4 q5)
      | (refine wpList_store_row rfl 66 (.tmp 15) (.tmp 51) rfl w6.heap.size #[.string m6.n, .string m6.d, .bool m6.st, .bool m6.ab, .int .i64 m6.sk, .int .i64 m6.lo, .slice p6 m6.code.length r6, .slice s6 m6.hs.length t6] rfl rfl 66 _ T6.b infoM rfl (one8 _ _ _ _ _ _ _ _ _ _ _ _) ?_; have k7 := (T6.setRow #[.string m6.n, .string m6.d, .bool m6.st, .bool m6.ab, .int .i64 m6.sk, .int .i64 m6.lo, .slice p6 m6.code.length r6, .slice s6 m6.hs.length t6]).ch; have B6 := HB.out.call k7; have q0 := B6.c 0 rfl; have q1 := B6.c 1 rfl; have q2 := B6.c 2 rfl; have q3 := B6.c 3 rfl; have q4 := B6.c 4 rfl; have q5 := B6.c 5 rfl; clear B6)
      | (go_at_call 69; (with_reducible refine (HD.out _).mono ?_); rintro e w8 ⟨v8, m8, rfl, ⟨vc8, vh8, rfl, oc, oh⟩, c8⟩; obtain ⟨p8, r8, rfl⟩ := oc.form; obtain ⟨s8, t8, rfl⟩ := oh.form; unfold mV; clear oc oh; have T8 := Bo.new (k7.trans c8) #[.string ⟨#[]⟩, .string ⟨#[]⟩, .bool false, .bool false, .int .i64 0, .int .i64 0, .slice none 0 0, .slice none 0 0] 66; try clear q0 q1 q2 q3 q4 q5)
      | (refine wpList_store_row rfl 66 (.tmp 18) (.tmp 59) rfl w8.heap.size #[.string m8.n, .string m8.d, .bool m8.st, .bool m8.ab, .int .i64 m8.sk, .int .i64 m8.lo, .slice p8 m8.code.length r8, .slice s8 m8.hs.length t8] rfl rfl 66 _ T8.b infoM rfl (one8 _ _ _ _ _ _ _ _ _ _ _ _) ?_; have k9 := (T8.setRow #[.string m8.n, .string m8.d, .bool m8.st, .bool m8.ab, .int .i64 m8.sk, .int .i64 m8.lo, .slice p8 m8.code.length r8, .slice s8 m8.hs.length t8]).ch; have B8 := HB.out.call k9; have q0 := B8.c 0 rfl; have q1 := B8.c 1 rfl; have q2 := B8.c 2 rfl; have q3 := B8.c 3 rfl; have q4 := B8.c 4 rfl; have q5 := B8.c 5 rfl; clear B8)
      | (go_at_call 71; (with_reducible refine (clinit_nil _ _).mono ?_); rintro e w10 ⟨rfl, c10⟩; have k10 := k9.trans c10; have B10 := HB.out.call k10; clear q0 q1 q2 q3 q4 q5; have q0 := B10.c 0 rfl; have q1 := B10.c 1 rfl; have q2 := B10.c 2 rfl; have q3 := B10.c 3 rfl; have q4 := B10.c 4 rfl; have q5 := B10.c 5 rfl; clear B10)
      | (go_at_call 73; (with_reducible refine (HI.out _).mono ?_); rintro e w11 ⟨rfl, c11⟩; clear q0 q1 q2 q3 q4 q5)
      | (go_at_call 60; (with_reducible refine (awake8 _).mono ?_); rintro e w12 ⟨rfl, c12⟩)
      | fail)
    go_ret
    exact ⟨rfl, (HB.out.ch.trans k10).trans (c11.trans c12)⟩
end Go.Proofs.YthmepecmeambmaaGreat
