/- Classes sorted by their Names. -/
import Derived.Test.YthmepecmeambmaaGreatKLkI
import Derived.Shelf.SlSortCmp.WholeK
import Derived.Shelf.Small.Strs
import Derived.Shelf.Lay
import Derived.Ground.SlsfProg
import Derived.Ground.NamesProg
namespace Go.Proofs
open Go.Shelf
shelf_lay_g SlLaysF0.n6 Slsf 6 at Tryz 151 as Tryz.sortC
shelf_lay Lays.n106 Nm 106 at Tryz as Tryz.cmpS
end Go.Proofs
namespace Go.Proofs.YthmepecmeambmaaGreat
open Go.RowKit Go.Shelf Go.Sort
set_option linter.unusedVariables false

theorem compare_any (a b : ByteArray) (W : World) : Calls Tryz.prog 153 #[.string a, .string b] W fun e w' => e = .returned (.int .i64 (cb (bl a) (bl b))) ∧ w' = W :=
  Any.strings_Compare Tryz.cmpS a b W
/-- A class's row: what it holds, and where. -/
structure SR where
  c : Cls
  a1 : Option Addr
  n1 : Nat
  c1 : Nat
  a2 : Option Addr
  n2 : Nat
  c2 : Nat
  a3 : Option Addr
  n3 : Nat
  c3 : Nat
def sr0 : SR := ⟨⟨nNone, nNone, false, false, [], [], []⟩, none, 0, 0, none, 0, 0, none, 0, 0⟩
def encR (x : SR) : List Value := [.string x.c.n, .string x.c.s, .bool x.c.it, .bool x.c.ab, .slice x.a1 x.n1 x.c1, .slice x.a2 x.n2 x.c2, .slice x.a3 x.n3 x.c3]
def cfR (x y : SR) : Int := cb (bl x.c.n) (bl y.c.n)
theorem encR_k (x : SR) : (encR x).length = 7 := rfl
theorem encR_1 (x : SR) : ∀ v ∈ encR x, v.oneCell' = true := by simp [encR, Value.oneCell']
theorem swoR : SWO (ltOf cfR) where
  irrefl x := by have := cb_self (bl x.c.n); simp [ltOf, cfR, this]
  trans x y z h1 h2 := by
    have a : blt x.c.n y.c.n = true := h1
    have b : blt y.c.n z.c.n = true := h2
    exact blt_trans a b
  ntrans x y z h1 h2 := by
    have a : blt x.c.n y.c.n = false := h1
    have b : blt y.c.n z.c.n = false := h2
    exact blt_ntrans a b
set_option maxHeartbeats 1000000 in
theorem cmpC_any (x y : SR) (W : World) : Calls Tryz.prog 152 #[.agg (encR x).toArray, .agg (encR y).toArray] W fun e w' => e = .returned (.int .i64 (cfR x y)) ∧ ∃ q os', w' = grow (W.drewN q) os' := by
  have hc : ∀ W', Calls Tryz.prog 153 #[.string x.c.n, .string y.c.n] W' fun e w' => e = .returned (.int .i64 (cfR x y)) ∧ w' = W' := fun W' => compare_any x.c.n y.c.n W'
  show Calls Tryz.prog 152 #[.agg #[.string x.c.n, .string x.c.s, .bool x.c.it, .bool x.c.ab, .slice x.a1 x.n1 x.c1, .slice x.a2 x.n2 x.c2, .slice x.a3 x.n3 x.c3], .agg #[.string y.c.n, .string y.c.s, .bool y.c.it, .bool y.c.ab, .slice y.a1 y.n1 y.c1, .slice y.a2 y.n2 y.c2, .slice y.a3 y.n3 y.c3]] W _
  generalize cfR x y = r at *
  go_enter Tryz.func152, Tryz.ntmps152
  go_wp2_with (first
    | (go_at_call 153; (with_reducible refine (hc _).mono ?_); rintro e w' ⟨rfl, hw⟩; have hw := hw.symm; subst hw)
    | fail)
  go_ret
  exact ⟨rfl, 0, _, by rw [alloc_eq_grow, alloc_eq_grow, grow_grow]; rfl⟩

theorem RCo.sr {B : Nat} {w : World} {cs : List Value} {c : Cls} (h : RCo B w cs c) : ∃ x : SR, x.c = c ∧ cs = encR x := by
  obtain ⟨vi, vf, vm, rfl, h1⟩ := h
  obtain ⟨a1, c1, rfl⟩ := h1.i.form
  obtain ⟨a2, c2, rfl⟩ := h1.f.form
  obtain ⟨a3, c3, rfl⟩ := h1.m.form
  exact ⟨⟨c, a1, _, c1, a2, _, c2, a3, _, c3⟩, rfl, rfl⟩
/-- The world behind the sort: the row, and more. -/
theorem sorted_world [Inhabited SR] {w : World} {g m : Nat} {cur : Array Value} {d' : Array SR} {os : Array Obj} (hg : w.heap[g]? = some (.cells cur 41)) (hs : d'.size * 7 ≤ cur.size) :
    w.grownBy (sortWorldK encR 7 w g 0 m d' os) (some g) ∧ ∃ cur', (sortWorldK encR 7 w g 0 m d' os).heap[g]? = some (.cells cur' 41) ∧ cur'.size = cur.size ∧ ∀ i j, i < d'.size → j < 7 → cur'[i * 7 + j]? = (encR d'[i]!)[j]? := by
  have hlt := (Array.getElem?_eq_some_iff.1 hg).1
  have hP : (putRowK encR 7 (Sort.ahead w m) g 0 d').heap[g]? = some (.cells (putCells id 0 (flatK encR 7 d') cur) 41) := by
    simp only [putRowK, putRow, mapBlock, Sort.ahead, Array.getElem?_modify, hg, onCells, if_true, Option.map_some]
  have hsz : (putRowK encR 7 (Sort.ahead w m) g 0 d').heap.size = w.heap.size := by simp [putRowK, putRow, mapBlock, Sort.ahead]
  have hG : (sortWorldK encR 7 w g 0 m d' os).heap[g]? = some (.cells (putCells id 0 (flatK encR 7 d') cur) 41) := (heap_grow_old _ _ (by rw [hsz]; exact hlt)).trans hP
  refine ⟨⟨rfl, rfl, rfl, ?_, fun k hk hne => ?_⟩, _, hG, by simp [putCells], fun i j hi hj => ?_⟩
  · show w.heap.size ≤ (grow (putRowK encR 7 (Sort.ahead w m) g 0 d') os).heap.size
    rw [size_grow, hsz]
    omega
  · have hkg : g ≠ k := fun e => hne (by rw [e])
    refine (heap_grow_old _ _ (by rw [hsz]; exact hk)).trans ?_
    simp [putRowK, putRow, mapBlock, Sort.ahead, Array.getElem?_modify, hkg]
  · have ht : i * 7 + j < d'.size * 7 := by omega
    have h1 : (putCells id 0 (flatK encR 7 d') cur)[i * 7 + j]? = some ((flatK encR 7 d')[i * 7 + j]!) := by
      have hc : i * 7 + j < cur.size := by omega
      simp [putCells, hc, ht]
    rw [h1, get_flatK _ _ _ _ ht, show (i * 7 + j) / 7 = i from by omega, show (i * 7 + j) % 7 = j from by omega]
    have hj' : j < (encR d'[i]!).length := hj
    rw [List.getElem?_eq_getElem hj', getElem!_pos (encR d'[i]!) j hj']

set_option maxHeartbeats 1000000 in
theorem sort_any (B : Nat) (v : Value) (L : List Cls) (w : World) (h : Oc B w v L) (h0 : 0 < L.length) (hl : L.length ≤ 1000) :
    Calls Tryz.prog 151 #[v, .func (.func 152) #[] #[]] w fun e w' => e = .returned (.tuple #[]) ∧ ∃ L', L'.Perm L ∧ Srt L' ∧ Oc B w' v L' ∧ ∃ g, B ≤ g ∧ w.grownBy w' (some g) := by
  have hInh : Inhabited SR := ⟨sr0⟩
  obtain ⟨C, h1, h2, h3⟩ := h
  rcases h2.2 with ⟨_, hz⟩ | ⟨g, cap, cur, rfl, hb, hg, hc1, hc2, hc3, ht⟩
  · omega
  · have each : ∀ i, i < L.length → ∃ x : SR, (∀ c, L[i]? = some c → x.c = c) ∧ C i = encR x := fun i hi => by
      obtain ⟨x, e1, e2⟩ := (h3 i _ (List.getElem?_eq_getElem hi)).sr
      exact ⟨x, fun c hc => by rw [List.getElem?_eq_getElem hi] at hc; cases hc; exact e1, e2⟩
    obtain ⟨D, hD⟩ := Deep.choose_lt (α := SR) each
    obtain ⟨d, hd⟩ : ∃ d, d = ((List.range L.length).map D).toArray := ⟨_, rfl⟩
    have hds : d.size = L.length := by rw [hd]; simp
    have hdi : ∀ i, i < L.length → d[i]! = D i := fun i hi => by rw [getElem!_pos d i (by omega)]; simp [hd]
    have hH : HoldsK encR 7 w g 0 d := fun t ht' => by
      have ht2 : t < d.size * 7 := by simpa using ht'
      have ht3 : t < L.length * 7 := by omega
      refine ⟨?_, by simp [World.frozen?, hg]⟩
      rw [get_flatK _ _ _ _ ht2, Nat.zero_add, hdi _ (by omega), ← (hD (t / 7) (by omega)).2]
      have e4 : (cur.toList.take (L.length * 7))[t / 7 * 7 + t % 7]? = (C (t / 7))[t % 7]? := by rw [ht, fk_cell h1 (List.range L.length) (t / 7) (t % 7) (t / 7) (List.getElem?_range (by omega)) (Nat.mod_lt _ (by omega))]
      rw [show t / 7 * 7 + t % 7 = t from by omega, List.getElem?_take_of_lt ht3] at e4
      have hj : t % 7 < (C (t / 7)).length := by rw [h1]; exact Nat.mod_lt _ (by omega)
      rw [getElem!_pos (C (t / 7)) (t % 7) hj]
      rw [List.getElem?_eq_getElem hj] at e4
      simp only [World.cell?, hg, id]
      simpa using e4
    have eg : ∀ args w, (callFunc 152 args).run Tryz.prog w = .ok (.enter 152 args) w := enters_of Tryz.func152 (by kernel_rfl) rfl
    have hcon := AnyQ.slices_SortFunc Tryz.sortC 7 Tryz.isAgg41 Tryz.sizeOf41 encR encR_k encR_1 cfR swoR 152 #[] g 0 cap d w eg (fun _ _ _ _ x y => cmpC_any x y _) hH (Array.getElem?_eq_some_iff.1 hg).1 (by omega)
    change Calls Tryz.prog 151 _ _ _ at hcon
    rw [hds] at hcon
    refine hcon.mono fun e w' ⟨he, d', m, os, hp, hs, hw⟩ => ⟨he, ?_⟩
    obtain ⟨p1, p2, p3⟩ := hp
    rw [hds] at p1
    have p3' : d'.toList.Perm d.toList := by
      have e1 : (d'.extract 0 d.size) = d' := by rw [hds, ← p1]; simp
      have e2 : (d.extract 0 d.size) = d := by simp
      rw [hds] at e1 e2
      rwa [e1, e2] at p3
    have hLd : d.toList.map (·.c) = L := by
      refine List.ext_getElem (by simp [hds]) fun i q1 q2 => ?_
      have := (hD i q2).1 _ (List.getElem?_eq_getElem q2)
      simp [hd, this]
    obtain ⟨gr, cur', k1, k2, k3⟩ := sorted_world (w := w) (m := m) (d' := d') (os := os) hg (by rw [p1, hc3]; exact Nat.mul_le_mul_right 7 hc1)
    rw [← hw] at gr k1
    have hd'i : ∀ i (hi : i < d'.size), d'[i]! = d'[i] := fun i hi => getElem!_pos d' i hi
    refine ⟨d'.toList.map (·.c), hLd ▸ p3'.map _, ?_, ?_, g, hb, gr⟩
    · unfold Srt nms
      rw [List.pairwise_iff_getElem]
      intro i j hi hj hij
      have hi' : i < d'.size := by simpa using hi
      have hj' : j < d'.size := by simpa using hj
      have := hs i j (Nat.zero_le _) hij (by omega)
      rw [hd'i i hi', hd'i j hj'] at this
      have this : blt d'[j].c.n d'[i].c.n = false := this
      simpa using this
    · have hlen : (d'.toList.map (·.c)).length = L.length := by simp [p1]
      refine ⟨fun i => encR d'[i]!, fun i => rfl, ⟨by rw [fk_len (C := fun i => encR d'[i]!) (k := 7) (fun _ => rfl), List.length_range], Or.inr ⟨g, cap, cur', by rw [hlen], hb, k1, by rw [hlen]; exact hc1, hc2, k2.trans hc3, ?_⟩⟩, fun i c hi => ?_⟩
      · rw [hlen]
        refine List.ext_getElem? fun x => ?_
        by_cases hx : x < L.length * 7
        · obtain ⟨i, j, hj, rfl⟩ : ∃ i j, j < 7 ∧ x = i * 7 + j := ⟨x / 7, x % 7, Nat.mod_lt _ (by omega), by omega⟩
          have hil : i < L.length := by omega
          rw [List.getElem?_take_of_lt hx, fk_cell (C := fun i => encR d'[i]!) (k := 7) (fun _ => rfl) (List.range L.length) i j i (by simp [hil]) hj, ← k3 i j (by omega) hj]
          simp
        · rw [List.getElem?_eq_none (by rw [List.length_take]; omega), List.getElem?_eq_none (by rw [fk_len (C := fun i => encR d'[i]!) (k := 7) (fun _ => rfl), List.length_range]; omega)]
      · have hi' : i < d'.size := by simpa using (List.getElem?_eq_some_iff.1 hi).1
        have hmem : d'[i] ∈ d.toList := p3'.mem_iff.1 (by simp)
        obtain ⟨t, ht1, ht2⟩ := List.getElem_of_mem hmem
        have ht3 : t < L.length := by simpa [hds] using ht1
        have e1 : d'[i] = D t := by rw [← ht2]; simp [hd]
        have e2 : c = L[t] := by
          have := (hD t ht3).1 _ (List.getElem?_eq_getElem ht3)
          rw [← this, ← e1]
          simp [hi'] at hi
          exact hi.symm
        show RCo B w' (encR d'[i]!) c
        rw [hd'i i hi', e1, ← (hD t ht3).2, e2]
        exact (h3 t _ (List.getElem?_eq_getElem ht3)).grown gr (fun g' e => by cases e; exact ⟨cur, hg⟩)
end Go.Proofs.YthmepecmeambmaaGreat
