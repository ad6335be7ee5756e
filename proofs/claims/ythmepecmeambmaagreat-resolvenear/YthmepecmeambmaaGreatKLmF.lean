/- A class's supers. -/
/- Texts sorted in place; the interfaces that a class is told. -/
/- A type's class, its element, a class's type. -/
import Derived.Test.YthmepecmeambmaaGreatKLmA
import Derived.Shelf.SortM.Plain
import Derived.Shelf.SortM.SortNone
import Derived.Ground.SlgmProg
import Derived.Shelf.SlGeneric
import Derived.Test.YthmepecmeambmaaGreatKMeth
namespace Go.Proofs.YthmepecmeambmaaGreat
open Go.RowKit
set_option linter.unusedVariables false

set_option maxHeartbeats 8000000 in
set_option maxRecDepth 100000 in
theorem supers_any (n : ByteArray) (P : List Cls) (g b : Nat) (w : World) (h : Pm w g b P) :
    Calls Tryz.prog 33 #[.pointer (some ⟨g, 0, none⟩), .string n] w fun e w' => ∃ v, e = .returned v ∧ Ow 1 9 RS w.heap.size w' v (walkN P n).1 ∧ Ch w w' := by
  have HP : Hid (Pm w g b P) := h
  have hl := h.2.1
  have hwk := walk_any n P g b w h
  clear h
  generalize walkN P n = wn at *
  obtain ⟨way, again⟩ := wn
  dsimp only at hwk ⊢
  go_enter Tryz.func33, Tryz.ntmps33
  go_wp2_with (first
    | (go_at_call 96; (with_reducible refine hwk.mono ?_); clear hwk; rintro e w1 ⟨v1, rfl, o1, i1, n1, c1⟩; obtain ⟨a1, d1, rfl⟩ := o1.form)
    | fail)
  have l1 := Nat.le_trans (inP_len i1 n1) hl
  have HO : Hid (∀ w', Ch w1 w' → Ow 1 117 (RP b P) w.heap.size w' (.slice a1 way.length d1) way) := fun w' k => o1.keepP k
  have HIN : Hid (inP P way) := i1
  have HC1 : Hid (Ch w w1) := c1
  clear o1 i1 n1 c1
  go_loopw [7, 18] (fun v i wr => ∃ k : Nat, k ≤ way.length ∧ i = .int .i64 k ∧ Ow 1 9 RS w1.heap.size wr v (way.take k) ∧ Ch w1 wr) (fun _ i _ => way.length - (intOf i).toNat)
  case atStart => exact ⟨0, Nat.zero_le _, rfl, Ow.nil, Ch.refl _⟩
  case round =>
    obtain ⟨k, hk, rfl, ho, hcr⟩ := hrel
    obtain ⟨a4, d4, rfl⟩ := ho.form
    by_cases hlt : k < way.length
    · obtain ⟨m, hm⟩ : ∃ m, way[k]? = some m := ⟨_, List.getElem?_eq_getElem hlt⟩
      obtain ⟨i, hi⟩ := HIN.out m (List.mem_of_getElem? hm)
      obtain ⟨x, hxi, hxl, _⟩ := ix_some hi
      obtain ⟨_, hxn⟩ := lk_some hxl
      subst hxn
      obtain ⟨g1, cs, e1, _, _, e2, q0, _⟩ := (HO.out wr hcr).at hm
      have e2 : cs = [pn b P x.n] := e2
      subst e1 e2
      have q0 := q0 0 _ rfl
      rw [pn_is hi] at q0
      have off0 : k * 1 + 0 = k := by omega
      rw [off0] at q0
      unfold ptr at q0
      obtain ⟨vi, vf, vm, _, p0, _⟩ := (HP.out.keep (HC1.out.trans hcr)).at hxi
      have HT : Hid (way.take (k + 1) = way.take k ++ [x.n]) := by
        obtain ⟨h1, h2⟩ := List.getElem?_eq_some_iff.1 hm
        show way.take (k + 1) = _
        rw [List.take_succ_eq_append_getElem h1, h2]
      have hlw : (way.take k).length ≤ 100000 := by simp; omega
      have HOA : Hid (Ow 1 9 RS w1.heap.size wr (.slice a4 (way.take k).length d4) (way.take k)) := ho
      have HCR : Hid (Ch w1 wr) := hcr
      have hsz := hcr.size
      clear off0 hm ho hcr hi hxi hxl
      generalize way.take k = ab at *
      go_wp2_with (first
        | (at_builtin; refine Ow.push (B := w1.heap.size) (HOA.out.keepS ((Ch.refl wr).alloc (.cells #[.string x.n] 9))) infS9 rfl (by decide) Tryz.underlying32 rfl _ _ rfl (by rfl) (.string x.n) x.n (fun _ => rfl) (fun _ _ _ _ x => x) rfl wr.heap.size 1 (by rfl) (heap_alloc_new wr _) hlw (by simp; omega) ?_; intro v6 w6 o6 g6 b6)
        | fail)
      exact ⟨⟨k + 1, by omega, by go_num, by rw [HT.out]; exact o6, (HCR.out.alloc _).grown g6 b6⟩, by simp [intOf]; omega⟩
    · obtain rfl : k = way.length := by omega
      rw [List.take_length] at ho ⊢
      have HO2 : Hid (Ow 1 9 RS w1.heap.size wr (.slice a4 way.length d4) way) := ho
      have HCR : Hid (Ch w1 wr) := hcr
      clear ho hcr
      go_wp2_with fail
      go_ret
      exact ⟨_, rfl, HO2.out.base HC1.out.size, HC1.out.trans HCR.out⟩

/-- No program. -/
theorem walk_nil (n : ByteArray) (w : World) : Calls Tryz.prog 96 #[.pointer none, .string n] w fun e w' => e = .returned (.tuple #[.slice none 0 0, .pointer none]) ∧ w' = w := by
  have hf := find_nil n w
  go_enter Tryz.func96, Tryz.ntmps96
  go_wp2_with fail
  refine wp_scope_oneL 0 (by rfl) ?_
  go_wp2_with (first
    | (go_at_call 92; (with_reducible refine hf.mono ?_); clear hf; rintro e w1 ⟨rfl, hw⟩; have hw := hw.symm; subst hw)
    | fail)
  go_loopw [4, 6] (fun vw c wr => vw = .slice none 0 0 ∧ c = .pointer none ∧ wr = w) (fun _ _ _ => 0)
  case atStart => exact ⟨rfl, rfl, rfl⟩
  case round =>
    obtain ⟨rfl, rfl, rfl⟩ := hrel
    go_wp2_with fail
    rw [jump_retL]
    go_ret2
    exact ⟨rfl, rfl⟩
theorem supers_nil (n : ByteArray) (w : World) : Calls Tryz.prog 33 #[.pointer none, .string n] w fun e w' => e = .returned (.slice none 0 0) ∧ w' = w := by
  have hf := walk_nil n w
  go_enter Tryz.func33, Tryz.ntmps33
  go_wp2_with (first
    | (go_at_call 96; (with_reducible refine hf.mono ?_); clear hf; rintro e w1 ⟨rfl, hw⟩; have hw := hw.symm; subst hw)
    | fail)
  go_loopw [7, 18] (fun v i wr => v = .slice none 0 0 ∧ i = .int .i64 0 ∧ wr = w) (fun _ _ _ => 0)
  case atStart => exact ⟨rfl, rfl, rfl⟩
  case round =>
    obtain ⟨rfl, rfl, rfl⟩ := hrel
    go_wp2_with fail
    go_ret
    exact ⟨rfl, rfl⟩
end Go.Proofs.YthmepecmeambmaaGreat
namespace Go.Proofs
open Go.Shelf
shelf_lay_g SlLaysM.n6 Slgm 6 at Tryz 98 as Tryz.sortT
end Go.Proofs
namespace Go.Proofs.YthmepecmeambmaaGreat
open Go.RowKit Go.Sort Go.Shelf
set_option linter.unusedVariables false

/-- Texts by bytes. -/
def srtS (L : List ByteArray) : List ByteArray := ((L.map bl).mergeSort fun x y => decide (x ≤ y)).map ms
theorem srtS_perm (L : List ByteArray) : (srtS L).Perm L := by
  unfold srtS
  refine ((List.mergeSort_perm _ _).map _).trans ?_
  rw [List.map_map]
  have : (ms ∘ bl) = id := funext fun s => ms_bl s
  rw [this, List.map_id]
theorem srtS_len (L : List ByteArray) : (srtS L).length = L.length := (srtS_perm L).length_eq

theorem sorted_texts {w : World} {g m : Nat} {cur : Array Value} {d' : Array (List UInt8)} {os : Array Obj} (hg : w.heap[g]? = some (.cells cur 9)) (hs : d'.size ≤ cur.size) :
    w.grownBy (grow (putRow encStr (Sort.ahead w m) g 0 d') os) (some g) ∧ ∃ cur', (grow (putRow encStr (Sort.ahead w m) g 0 d') os).heap[g]? = some (.cells cur' 9) ∧ cur'.size = cur.size ∧ ∀ i, i < d'.size → cur'[i]? = some (encStr d'[i]!) := by
  have hlt := (Array.getElem?_eq_some_iff.1 hg).1
  have hP : (putRow encStr (Sort.ahead w m) g 0 d').heap[g]? = some (.cells (putCells encStr 0 d' cur) 9) := by
    simp only [putRow, mapBlock, Sort.ahead, Array.getElem?_modify, hg, onCells, if_true, Option.map_some]
  have hsz : (putRow encStr (Sort.ahead w m) g 0 d').heap.size = w.heap.size := by simp [putRow, mapBlock, Sort.ahead]
  have hG : (grow (putRow encStr (Sort.ahead w m) g 0 d') os).heap[g]? = some (.cells (putCells encStr 0 d' cur) 9) := (heap_grow_old _ _ (by rw [hsz]; exact hlt)).trans hP
  refine ⟨⟨rfl, rfl, rfl, ?_, fun k hk hne => ?_⟩, _, hG, by simp [putCells], fun i hi => ?_⟩
  · show w.heap.size ≤ (grow (putRow encStr (Sort.ahead w m) g 0 d') os).heap.size
    rw [size_grow, hsz]
    omega
  · have hkg : g ≠ k := fun e => hne (by rw [e])
    refine (heap_grow_old _ _ (by rw [hsz]; exact hk)).trans ?_
    simp [putRow, mapBlock, Sort.ahead, Array.getElem?_modify, hkg]
  · have hc : i < cur.size := by omega
    simp [putCells, hc, hi]

set_option maxHeartbeats 2000000 in
theorem sortS_any (B : Nat) (v : Value) (L : List ByteArray) (w : World) (h : Ow 1 9 RS B w v L) (hl : L.length ≤ 100000) :
    Calls Tryz.prog 98 #[v] w fun e w' => e = .returned (.tuple #[]) ∧ Ow 1 9 RS B w' v (srtS L) ∧ w.grownBy w' v.ownBlock := by
  by_cases h0 : L.length = 0
  · obtain rfl := List.eq_nil_of_length_eq_zero h0
    obtain ⟨ao, c, rfl⟩ := h.form
    refine (AnyM.slices_Sort_string_none Tryz.sortT ao c w).mono ?_
    rintro e w' ⟨rfl, rfl⟩
    exact ⟨rfl, by simpa [srtS] using h, World.grownBy.refl _ _⟩
  · obtain ⟨C, h1, h2, h3⟩ := h
    rcases h2.2 with ⟨_, hz⟩ | ⟨g, cap, cur, rfl, hb, hg, hc1, hc2, hc3, ht⟩
    · omega
    · have hC : ∀ i s, L[i]? = some s → C i = [.string s] := fun i s hi => h3 i s hi
      obtain ⟨ss, hss⟩ : ∃ ss, ss = L.map bl := ⟨_, rfl⟩
      have hsl : ss.length = L.length := by rw [hss]; simp
      have hcur : ∀ i s, L[i]? = some s → cur[i]? = some (Value.string s) := fun i s hi => by
        have hil := (List.getElem?_eq_some_iff.1 hi).1
        have e4 : (cur.toList.take (L.length * 1))[i * 1 + 0]? = (C i)[0]? := by rw [ht, fk_cell h1 (List.range L.length) i 0 i (List.getElem?_range hil) (by omega)]
        rw [List.getElem?_take_of_lt (by omega), hC i s hi] at e4
        simpa using e4
      have hH : Holds encStr w g 0 ss.toArray := fun j hj => by
        have hj' : j < L.length := by simpa [hsl] using hj
        have e := hcur j _ (List.getElem?_eq_getElem hj')
        refine ⟨?_, by simp [World.frozen?, hg]⟩
        rw [Nat.zero_add]
        simp only [World.cell?, hg]
        have e2 : ss.toArray[j]! = bl L[j] := by
          rw [getElem!_pos ss.toArray j hj]
          simp [hss]
        rw [e2]
        have e3 : encStr (bl L[j]) = .string L[j] := by
          show Value.string (ms (bl L[j])) = _
          rw [ms_bl]
        rw [e3]
        simpa using e
      have hcon := AnyM.slices_Sort_string Tryz.sortT g 0 cap ss w hH (Array.getElem?_eq_some_iff.1 hg).1 (by omega)
      rw [hsl] at hcon
      refine Calls.mono (show Calls Tryz.prog 98 _ _ _ from hcon) fun e w' ⟨he, m, os, hw⟩ => ⟨he, ?_⟩
      obtain ⟨ys, hys⟩ : ∃ ys, ys = ss.mergeSort fun x y => decide (x ≤ y) := ⟨_, rfl⟩
      rw [← hys] at hw
      have hyl : ys.length = L.length := by rw [hys, List.length_mergeSort, hsl]
      obtain ⟨gr, cur', k1, k2, k3⟩ := sorted_texts (w := w) (m := m) (d' := ys.toArray) (os := os) hg (by simp [hyl]; omega)
      rw [← hw] at gr k1
      have hsr : srtS L = ys.map ms := by unfold srtS; rw [hys, hss]
      have hrl : (srtS L).length = L.length := srtS_len L
      refine ⟨⟨fun i => [.string ((srtS L)[i]?.getD ⟨#[]⟩)], fun i => rfl, ⟨by rw [fk_len (C := fun i => [.string ((srtS L)[i]?.getD ⟨#[]⟩)]) (k := 1) (fun _ => rfl), List.length_range], Or.inr ⟨g, cap, cur', by rw [hrl], hb, k1, by rw [hrl]; exact hc1, hc2, k2.trans hc3, ?_⟩⟩, fun i s hi => ?_⟩, gr⟩
      · refine List.ext_getElem? fun x => ?_
        rw [hrl]
        by_cases hx : x < L.length * 1
        · have e5 := fk_cell (C := fun i => [Value.string ((srtS L)[i]?.getD ⟨#[]⟩)]) (k := 1) (fun _ => rfl) (List.range L.length) x 0 x (List.getElem?_range (by omega)) (by omega)
          rw [Nat.mul_one, Nat.add_zero] at e5
          rw [List.getElem?_take_of_lt hx, e5]
          have k4 := k3 x (by simp; omega)
          rw [Array.getElem?_toList, k4]
          have hxy : x < ys.length := by omega
          have e6 : ys.toArray[x]! = ys[x] := by rw [getElem!_pos ys.toArray x (by simpa using hxy)]; simp
          rw [e6, hsr]
          simp [hxy]
          rfl
        · rw [List.getElem?_eq_none (by rw [List.length_take]; omega), List.getElem?_eq_none (by rw [fk_len (C := fun i => [Value.string ((srtS L)[i]?.getD ⟨#[]⟩)]) (k := 1) (fun _ => rfl), List.length_range]; omega)]
      · show [Value.string ((srtS L)[i]?.getD ⟨#[]⟩)] = [.string s]
        rw [hi]
        rfl
/-- The interfaces that a class is told. -/
def ifcE (P : List Cls) (n : ByteArray) : List ByteArray := srtS (ifs P n ++ if isIf P n then [n] else [])
theorem Ow.own_le {α : Type} {k : Nat} {e : TypeId} {R : World → List Value → α → Prop} {B : Nat} {w : World} {v : Value} {xs : List α} (h : Ow k e R B w v xs) : ∀ g, v.ownBlock = some g → B ≤ g := fun g hg => by
  obtain ⟨C, _, h2, _⟩ := h
  exact (h2.lt g hg).1

set_option maxHeartbeats 8000000 in
set_option maxRecDepth 100000 in
theorem interfaces_told (n : ByteArray) (P : List Cls) (g b : Nat) (w : World) (h : Pm w g b P) (hI : imIn P) :
    Calls Tryz.prog 34 #[.pointer (some ⟨g, 0, none⟩), .string n] w fun e w' => ∃ v, e = .returned v ∧ Ow 1 9 RS w.heap.size w' v (ifcE P n) ∧ Ch w w' := by
  have hl := h.2.1
  have hif := interfaces_any n P g b w h hI
  have HF : Hid (∀ w', Ch w w' → Calls Tryz.prog 92 #[.pointer (some ⟨g, 0, none⟩), .string n] w' fun e w2 => e = .returned (pn b P n) ∧ Ch w' w2) := fun w' k => find_any n P g b w' (h.keep k)
  have HQ : Hid (∀ w' i x, Ch w w' → P[i]? = some x → w'.cell? ⟨b, i * 7, none⟩ = some (.string x.n) ∧ w'.cell? ⟨b, i * 7 + 2, none⟩ = some (.bool x.it)) := fun w' i x k hx => by
    obtain ⟨vi, vf, vm, _, q0, _, q2, _⟩ := (h.keep k).at hx
    exact ⟨q0, q2⟩
  clear h hI
  unfold ifcE
  generalize ifs P n = l at *
  cases hx : ixN P n with
  | none =>
    have hno : isIf P n = false := by unfold isIf; rw [ix_none.1 hx]
    have HPN : Hid (pn b P n = .pointer none) := pn_no hx
    rw [hno]
    have hap : l ++ (if false = true then [n] else []) = l := by simp
    rw [hap]
    clear hx hno hap
    go_enter Tryz.func34, Tryz.ntmps34
    go_wp2_with (first
      | (go_at_call 97; (with_reducible refine hif.mono ?_); clear hif; rintro e w1 ⟨v1, rfl, o1, i1, n1, c1⟩; have hf := HF.out w1 c1; rw [HPN.out] at hf; have l1 := Nat.le_trans (inP_len i1 n1) hl; have HO1 : Hid (Ow 1 9 RS w.heap.size w1 v1 l) := o1; obtain ⟨a1, d1, rfl⟩ := o1.form; clear o1 i1 n1)
      | (go_at_call 92; (with_reducible refine hf.mono ?_); clear hf; rintro e w2 ⟨rfl, c2⟩; have hs := sortS_any _ _ _ w2 (HO1.out.keepS c2) (by omega))
      | (go_at_call 98; (with_reducible refine hs.mono ?_); clear hs; rintro e w3 ⟨rfl, o3, g3⟩)
      | fail)
    go_ret
    exact ⟨_, rfl, o3, (c1.trans c2).grown g3 (fun k e => Ow.own_le HO1.out k e)⟩
  | some i =>
    obtain ⟨x, hxi, hxl, _⟩ := ix_some hx
    obtain ⟨_, hxn⟩ := lk_some hxl
    subst hxn
    have hisx : isIf P x.n = x.it := by unfold isIf; rw [hxl]
    have HPN : Hid (pn b P x.n = .pointer (some ⟨b, i * 7, none⟩)) := pn_is hx
    rw [hisx]
    have HX : Hid (P[i]? = some x) := hxi
    clear hx hxi hxl hisx
    cases hit : x.it with
    | false =>
      have hap : l ++ (if false = true then [x.n] else []) = l := by simp
      rw [hap]
      have HIT : Hid (x.it = false) := hit
      clear hap hit
      go_enter Tryz.func34, Tryz.ntmps34
      go_wp2_with (first
        | (go_at_call 97; (with_reducible refine hif.mono ?_); clear hif; rintro e w1 ⟨v1, rfl, o1, i1, n1, c1⟩; have hf := HF.out w1 c1; rw [HPN.out] at hf; have l1 := Nat.le_trans (inP_len i1 n1) hl; have HO1 : Hid (Ow 1 9 RS w.heap.size w1 v1 l) := o1; obtain ⟨a1, d1, rfl⟩ := o1.form; clear o1 i1 n1)
        | (go_at_call 92; (with_reducible refine hf.mono ?_); clear hf; rintro e w2 ⟨rfl, c2⟩; obtain ⟨q0, q2⟩ := HQ.out w2 i x (c1.trans c2) HX.out; rw [HIT.out] at q2; have hs := sortS_any _ _ _ w2 (HO1.out.keepS c2) (by omega))
        | (go_at_call 98; (with_reducible refine hs.mono ?_); clear hs; rintro e w3 ⟨rfl, o3, g3⟩)
        | fail)
      go_ret
      exact ⟨_, rfl, o3, (c1.trans c2).grown g3 (fun k e => Ow.own_le HO1.out k e)⟩
    | true =>
      have hap : l ++ (if true = true then [x.n] else []) = l ++ [x.n] := by simp
      rw [hap]
      have HIT : Hid (x.it = true) := hit
      clear hap hit
      go_enter Tryz.func34, Tryz.ntmps34
      go_wp2_with (first
        | (go_at_call 97; (with_reducible refine hif.mono ?_); clear hif; rintro e w1 ⟨v1, rfl, o1, i1, n1, c1⟩; have hf := HF.out w1 c1; rw [HPN.out] at hf; have l1 := Nat.le_trans (inP_len i1 n1) hl; have HO1 : Hid (Ow 1 9 RS w.heap.size w1 v1 l) := o1; obtain ⟨a1, d1, rfl⟩ := o1.form; clear o1 i1 n1)
        | (go_at_call 92; (with_reducible refine hf.mono ?_); clear hf; rintro e w2 ⟨rfl, c2⟩; obtain ⟨q0, q2⟩ := HQ.out w2 i x (c1.trans c2) HX.out; rw [HIT.out] at q2; have HC2 : Hid (Ch w w2) := c1.trans c2; have hsz := (c1.trans c2).size)
        | (at_builtin; refine Ow.push (B := w.heap.size) ((HO1.out.keepS c2).keepS ((Ch.refl w2).alloc (.cells #[.string x.n] 9))) infS9 rfl (by decide) Tryz.underlying32 rfl _ _ rfl (by rfl) (.string x.n) x.n (fun _ => rfl) (fun _ _ _ _ x => x) rfl w2.heap.size 1 (by rfl) (heap_alloc_new w2 _) (by omega) (by simp; omega) ?_; intro v6 w6 o6 g6 b6; have hs := sortS_any _ _ _ w6 o6 (by simp; omega); have HO6 : Hid (Ow 1 9 RS w.heap.size w6 v6 (l ++ [x.n])) := o6; obtain ⟨a6, d6, rfl⟩ := o6.form; have hl6 : (l ++ [x.n]).length = l.length + 1 := (by simp); rw [hl6] at hs; rw [hl6]; clear o6)
        | (go_at_call 98; (with_reducible refine hs.mono ?_); clear hs; rintro e w3 ⟨rfl, o3, g3⟩)
        | fail)
      go_ret
      exact ⟨_, rfl, o3, ((HC2.out.alloc _).grown g6 b6).grown g3 (fun k e => Ow.own_le HO6.out k (by rw [hl6]; exact e))⟩

theorem interfaces_nil (n : ByteArray) (w : World) : Calls Tryz.prog 97 #[.pointer none, .string n] w fun e w' => e = .returned (.slice none 0 0) ∧ Ch w w' := by
  have hf := walk_nil n (w.alloc (.cells #[.slice none 0 0] 32))
  have hc := (heap_alloc_new w (.cells #[.slice none 0 0] 32))
  have C0 := (Ch.refl w).alloc (.cells #[.slice none 0 0] 32)
  go_enter Tryz.func97, Tryz.ntmps97
  go_wp2_with (first
    | (go_at_call 96; (with_reducible refine hf.mono ?_); clear hf; rintro e w1 ⟨rfl, hw⟩; have hw := hw.symm; subst hw)
    | fail)
  go_loopw [21] (fun i wr => i = .int .i64 0 ∧ wr = w.alloc (.cells #[.slice none 0 0] 32)) (fun _ _ => 0)
  case atStart => exact ⟨rfl, rfl⟩
  case round =>
    obtain ⟨rfl, rfl⟩ := hrel
    go_wp2_with fail
    go_loopw [11] (fun i wr => i = .int .i64 0 ∧ wr = w.alloc (.cells #[.slice none 0 0] 32)) (fun _ _ => 0)
    case atStart => exact ⟨rfl, rfl⟩
    case round =>
      obtain ⟨rfl, rfl⟩ := hrel
      go_wp2_with fail
      go_ret
      exact ⟨rfl, C0⟩
theorem told_nil (n : ByteArray) (w : World) : Calls Tryz.prog 34 #[.pointer none, .string n] w fun e w' => e = .returned (.slice none 0 0) ∧ Ch w w' := by
  have hi := interfaces_nil n w
  go_enter Tryz.func34, Tryz.ntmps34
  go_wp2_with (first
    | (go_at_call 97; (with_reducible refine hi.mono ?_); clear hi; rintro e w1 ⟨rfl, c1⟩; have hf := find_nil n w1)
    | (go_at_call 92; (with_reducible refine hf.mono ?_); clear hf; rintro e w2 ⟨rfl, hw⟩; have hw := hw.symm; subst hw; have hs := AnyM.slices_Sort_string_none Tryz.sortT none 0 w1; change Calls Tryz.prog 98 _ _ _ at hs)
    | (go_at_call 98; (with_reducible refine hs.mono ?_); clear hs; rintro e w3 ⟨rfl, hw⟩; have hw := hw.symm; subst hw)
    | fail)
  go_ret
  exact ⟨rfl, c1⟩
end Go.Proofs.YthmepecmeambmaaGreat
namespace Go.Proofs.YthmepecmeambmaaGreat
open Go.RowKit
set_option linter.unusedVariables false
set_option maxHeartbeats 2000000 in
theorem class_t (s : ByteArray) (w : World) (hs : s.size ≤ 100000) : Calls Tryz.prog 121 #[.string s] w fun e w' => e = .returned (.string (ms (classL (bl s)))) ∧ Ch w w' := by
  obtain ⟨b, hb⟩ : ∃ b, isType (bl s) = b := ⟨_, rfl⟩
  have hcall := fun w0 => type_as hb hs w0
  cases b
  · have hr : classL (bl s) = [] := by unfold classL; rw [hb]; rfl
    rw [hr]
    clear hr hb
    go_enter Tryz.func121, Tryz.ntmps121
    go_wp2_with (go_at_call 119; refine (hcall _).mono ?_; rintro e w2 ⟨rfl, hw2⟩; have hw2 := hw2.symm; subst hw2)
    go_ret
    exact ⟨rfl, Ch.refl _⟩
  · have h0 := type_size hb
    obtain ⟨d, hd1⟩ : ∃ d, hd 76 (bl s) = d := ⟨_, rfl⟩
    have hz := hd_ne 76 rfl h0 hd1
    cases d
    · have hr : classL (bl s) = [] := by unfold classL; rw [hb, hd1]; rfl
      rw [hr]
      clear hr hb hd1
      rw [Bool.not_false] at hz
      go_enter Tryz.func121, Tryz.ntmps121
      go_wp2_with (go_at_call 119; refine (hcall _).mono ?_; rintro e w2 ⟨rfl, hw2⟩; have hw2 := hw2.symm; subst hw2)
      go_ret
      exact ⟨rfl, Ch.refl _⟩
    · have h2 := cls_size hb hd1
      have hr : ms (classL (bl s)) = s.extract 1 (s.size - 1) := by
        refine (eq_ms ?_).symm
        unfold classL
        rw [hb, hd1, bl_extract, bl_len]
        rfl
      have ht : ((s.size : Int) - 1).toNat = s.size - 1 := by omega
      rw [hr]
      rw [Bool.not_true] at hz
      have hcl := fun w0 => clone_any (s.extract 1 (s.size - 1)) w0 (by rw [← bl_len, bl_extract, List.length_take, List.length_drop, bl_len]; omega)
      clear hr hb hd1
      go_enter Tryz.func121, Tryz.ntmps121
      go_wp2_with (first | (go_at_call 119; refine (hcall _).mono ?_; rintro e w2 ⟨rfl, hw2⟩; have hw2 := hw2.symm; subst hw2) | (go_at_call 79; refine (hcl _).mono ?_; rintro e w3 ⟨rfl, hc3⟩))
      go_ret
      exact ⟨rfl, hc3⟩
set_option maxHeartbeats 2000000 in
theorem elem_t (s : ByteArray) (w : World) (hs : s.size ≤ 100000) : Calls Tryz.prog 124 #[.string s] w fun e w' => e = .returned (.tuple #[.string (ms (elemL (bl s))), .bool (elemB (bl s))]) ∧ Ch w w' := by
  obtain ⟨b, hb⟩ : ∃ b, isType (bl s) = b := ⟨_, rfl⟩
  have hcall := fun w0 => type_as hb hs w0
  cases b
  · have hr : elemL (bl s) = [] := by unfold elemL; rw [hb]; rfl
    rw [hr]
    have hq : elemB (bl s) = false := by unfold elemB; rw [hb]; rfl
    rw [hq]
    clear hq
    clear hr hb
    go_enter Tryz.func124, Tryz.ntmps124
    go_wp2_with (go_at_call 119; refine (hcall _).mono ?_; rintro e w2 ⟨rfl, hw2⟩; have hw2 := hw2.symm; subst hw2)
    go_ret2
    exact ⟨rfl, Ch.refl _⟩
  · have h0 := type_size hb
    obtain ⟨d, hd1⟩ : ∃ d, hd 91 (bl s) = d := ⟨_, rfl⟩
    have hz := hd_ne 91 rfl h0 hd1
    cases d
    · have hr : elemL (bl s) = [] := by unfold elemL; rw [hb, hd1]; rfl
      rw [hr]
      have hq : elemB (bl s) = false := by unfold elemB; rw [hb, hd1]; rfl
      rw [hq]
      clear hq
      clear hr hb hd1
      rw [Bool.not_false] at hz
      go_enter Tryz.func124, Tryz.ntmps124
      go_wp2_with (go_at_call 119; refine (hcall _).mono ?_; rintro e w2 ⟨rfl, hw2⟩; have hw2 := hw2.symm; subst hw2)
      go_ret2
      exact ⟨rfl, Ch.refl _⟩
    · have hr : ms (elemL (bl s)) = s.extract 1 s.size := by
        refine (eq_ms ?_).symm
        unfold elemL
        rw [hb, hd1, bl_from]
        rfl
      have hq : elemB (bl s) = true := by unfold elemB; rw [hb, hd1]; rfl
      rw [hq]
      clear hq
      rw [hr]
      rw [Bool.not_true] at hz
      have hcl := fun w0 => clone_any (s.extract 1 s.size) w0 (by rw [← bl_len, bl_extract, List.length_take, List.length_drop, bl_len]; omega)
      clear hr hb hd1
      go_enter Tryz.func124, Tryz.ntmps124
      go_wp2_with (first | (go_at_call 119; refine (hcall _).mono ?_; rintro e w2 ⟨rfl, hw2⟩; have hw2 := hw2.symm; subst hw2) | (go_at_call 79; refine (hcl _).mono ?_; rintro e w3 ⟨rfl, hc3⟩))
      go_ret2
      exact ⟨rfl, hc3⟩
set_option maxHeartbeats 2000000 in
theorem of_t (s : ByteArray) (w : World) (hs : s.size ≤ 90000) : Calls Tryz.prog 125 #[.string s] w fun e w' => e = .returned (.string (ms (ofL (bl s)))) ∧ w' = w := by
  have hcall : ∀ w0, Calls Tryz.prog 191 #[.string ((⟨#[76]⟩ ++ s) ++ ⟨#[59]⟩)] w0 fun e w' => e = .returned (.string (ms (ofL (bl s)))) ∧ w' = w0 := fun w0 => by
    have h := only_any ((⟨#[76]⟩ ++ s) ++ ⟨#[59]⟩) w0 (by rw [size_of]; omega)
    rw [bl_of] at h
    unfold onlyL at h
    rw [isType_of] at h
    exact h
  go_enter Tryz.func125, Tryz.ntmps125
  go_wp2_with (go_at_call 191; refine (hcall _).mono ?_; rintro e w2 ⟨rfl, hw2⟩; have hw2 := hw2.symm; subst hw2)
  go_ret
  exact ⟨rfl, rfl⟩
end Go.Proofs.YthmepecmeambmaaGreat
