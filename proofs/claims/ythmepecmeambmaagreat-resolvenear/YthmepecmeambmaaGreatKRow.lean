/- What the document fixes; two rows of texts that are alike. -/
/- The table of operations, made by a function: its row of an Op, in memory of its own. -/
import Derived.Test.YthmepecmeambmaaGreatKMeth
import Derived.Laws.Tables
import Derived.Laws.Rows
namespace Go.Proofs.YthmepecmeambmaaGreat
open Go.RowKit
set_option linter.unusedVariables false

theorem own_cells {w : World} {base : Nat} {v : Value} {ps : List (List UInt8)} (h : w.ownsRow base 9 1 v ps.length (ps.map strV)) (hn : 0 < ps.length) :
    ∃ g cap, v = .slice (some ⟨g, 0, none⟩) ps.length cap ∧ ∀ k p, ps[k]? = some p → w.cell? ⟨g, k, none⟩ = some (.string (ms p)) := by
  rcases h.2 with ⟨_, h0⟩ | ⟨g, cap, cur, hv, hb, hg, hc1, hc2, hc3, ht⟩
  · omega
  · refine ⟨g, cap, hv, fun k p hp => ?_⟩
    obtain ⟨hk, _⟩ := List.getElem?_eq_some_iff.1 hp
    simp only [World.cell?, hg]
    have e1 : (cur.toList.take (ps.length * 1))[k]? = (ps.map strV)[k]? := by rw [ht]
    rw [List.getElem?_take_of_lt (by omega)] at e1
    rw [List.getElem?_map, hp] at e1
    simpa [strV] using e1

theorem words_any (v : Value) (ps : List (List UInt8)) (base : Nat) (w : World) (h : w.ownsRow base 9 1 v ps.length (ps.map strV)) : Calls Tryz.prog 261 #[v] w fun e w' => e = .returned (.int .i64 (ps.length : Int)) ∧ w' = w := by
  have hlen := own_len h
  go_enter Tryz.func261, Tryz.ntmps261
  go_wp2
  go_ret
  exact ⟨rfl, rfl⟩

theorem method_yes {s : ByteArray} {p : List (List UInt8) × List UInt8} (hM : meth (bl s) = some p) (hs : s.size ≤ 100000) (w : World) :
    Calls Tryz.prog 207 #[.string s] w fun e w' => ∃ v, e = .returned (.tuple #[v, .string (ms p.2), .int .i64 0]) ∧ w'.ownsRow w.heap.size 9 1 v p.1.length (p.1.map strV) ∧ Ch w w' :=
  (method_any s w hs).mono fun e w' h => by
    obtain ⟨hc, ⟨hn, _⟩ | ⟨q, v, hq, he, ho⟩⟩ := h
    · rw [hM] at hn; cases hn
    · rw [hM] at hq; cases hq; exact ⟨v, he, ho, hc⟩
theorem method_no {s : ByteArray} (hM : meth (bl s) = none) (hs : s.size ≤ 100000) (w : World) :
    Calls Tryz.prog 207 #[.string s] w fun e w' => e = .returned (.tuple #[.slice none 0 0, .string ⟨#[]⟩, .int .i64 6]) ∧ Ch w w' :=
  (method_any s w hs).mono fun e w' h => by
    obtain ⟨hc, ⟨_, he⟩ | ⟨q, v, hq, he, ho⟩⟩ := h
    · exact ⟨he, hc⟩
    · rw [hM] at hq; cases hq
end Go.Proofs.YthmepecmeambmaaGreat
namespace Go.Proofs.YthmepecmeambmaaGreat
open Go.RowKit
set_option linter.unusedVariables false

def wordsL : List (List UInt8) := [[], [110, 111, 112], [105, 99, 111, 110, 115, 116], [99, 99, 111, 110, 115, 116], [110, 117, 108, 108], [108, 111, 97, 100], [115, 116, 111, 114, 101], [112, 111, 112], [100, 117, 112], [115, 119, 97, 112], [105, 97, 100, 100], [105, 115, 117, 98], [105, 109, 117, 108], [105, 100, 105, 118], [99, 97, 100, 100], [99, 109, 117, 108], [99, 114, 101], [103, 111, 116, 111], [105, 102, 122, 101, 114, 111], [105, 102, 110, 117, 108, 108], [105, 102, 115, 97, 109, 101], [110, 101, 119], [103, 101, 116, 102, 105, 101, 108, 100], [112, 117, 116, 102, 105, 101, 108, 100], [103, 101, 116, 115, 116, 97, 116, 105, 99], [112, 117, 116, 115, 116, 97, 116, 105, 99], [110, 101, 119, 97, 114, 114, 97, 121], [97, 108, 111, 97, 100], [97, 115, 116, 111, 114, 101], [97, 108, 101, 110], [99, 97, 115, 116], [105, 115, 105, 110, 115, 116], [99, 97, 108, 108, 115, 116, 97, 116, 105, 99], [99, 97, 108, 108, 115, 112, 101, 99, 105, 97, 108], [99, 97, 108, 108, 118, 105, 114, 116, 117, 97, 108], [99, 97, 108, 108, 105, 110, 116, 101, 114, 102, 97, 99, 101], [114, 101, 116, 117, 114, 110], [114, 101, 116, 118, 97, 108], [116, 104, 114, 111, 119]]
def kindsL : List Int := [0, 1, 2, 3, 1, 4, 4, 1, 1, 1, 1, 1, 1, 1, 1, 1, 1, 5, 5, 5, 5, 6, 9, 9, 9, 9, 7, 1, 1, 1, 8, 8, 10, 10, 10, 10, 1, 1, 1]
def popsL : List Int := [0, 0, 0, 0, 0, 0, 1, 1, 1, 2, 2, 2, 2, 2, 2, 2, 1, 0, 1, 1, 2, 0, 1, 2, 0, 1, 1, 2, 3, 1, 1, 1, 0, 1, 1, 1, 0, 1, 1]
def pushL : List Int := [0, 0, 1, 1, 1, 1, 0, 0, 2, 2, 1, 1, 1, 1, 1, 1, 1, 0, 0, 0, 0, 1, 1, 0, 1, 0, 1, 1, 0, 1, 1, 1, 0, 0, 0, 0, 0, 0, 0]
/-- The row's word, the kind of its fields, what it takes, what it lays. -/
def wB (k : Nat) : ByteArray := ms (wordsL.getD k [])
def kd (k : Nat) : Int := kindsL.getD k 0
def pp (k : Nat) : Int := popsL.getD k 0
def ph (k : Nat) : Int := pushL.getD k 0
def rowC (k : Nat) : List Value := [.string (wB k), .int .i64 (kd k), .int .i64 (pp k), .int .i64 (ph k)]
def rV (k : Nat) : Value := .agg #[.string (wB k), .int .i64 (kd k), .int .i64 (pp k), .int .i64 (ph k)]
def tabC : Array Value := ((List.range 39).flatMap rowC).toArray
def zerC : Array Value := ((List.range 39).flatMap fun _ => rowC 0).toArray
/-- The place of an Op in the table; 0 of what is none. -/
def ix (op : Int) : Nat := if 0 ≤ op ∧ op ≤ 38 then op.toNat else 0

section
variable {P : Program} {ops : Array Oper} {Q : Exit → Act → World → Prop}
/-- Operations that build values of constants, one behind the other. -/
def runBuilds (P : Program) : List Oper → Act → Option Act
  | [], a => some a
  | o :: rest, a => match o.guard, o.op with
    | none, .build t parts => match P.built t (parts.map fun (i, x) => (i, a.eval x)).toList with
      | some cells => runBuilds P rest (a.put o.dst (.agg cells))
      | none => none
    | _, _ => none
theorem wpList_builds_app (rest : List Oper) : ∀ (l : List Oper) (a a' : Act) (w : World), runBuilds P l a = some a' → wpList P ops Q rest a' w → wpList P ops Q (l ++ rest) a w
  | [], a, a', w, h, k => by
    simp only [runBuilds, Option.some.injEq] at h
    subst h
    exact k
  | o :: l, a, a', w, h, k => by
    rw [runBuilds] at h
    split at h
    · rename_i t parts hg ho
      split at h
      · rename_i cells hb
        refine wpList_build hg t parts ho (by rw [hb]; rfl) ?_
        rw [hb]
        exact wpList_builds_app rest l _ _ w h k
      · cases h
    · cases h
theorem wpList_builds {l : List Oper} {a a' : Act} {w : World} (n : Nat) (h : runBuilds P (l.take n) a = some a') (k : wpList P ops Q (l.drop n) a' w) : wpList P ops Q l a w := by
  have := wpList_builds_app (P := P) (ops := ops) (Q := Q) (l.drop n) (l.take n) a a' w h k
  rwa [List.take_append_drop] at this
theorem wpList_alloc_at {rest : List Oper} {o : Oper} {a a' : Act} {w : World} (hg : o.guard = none) (ty : TypeId) (ho : o.op = .alloc ty) (Z : Array Value)
    (hr : (Instr.alloc ty true (.tuple #[])).run P w = .ok (.pointer (some ⟨w.heap.size, 0, none⟩)) (w.alloc (.cells Z ty)))
    (ha : a.put o.dst (.pointer (some ⟨w.heap.size, 0, none⟩)) = a') (k : wpList P ops Q rest a' (w.alloc (.cells Z ty))) : wpList P ops Q (o :: rest) a w :=
  wpList_plain hg fun _ hK => by
    unfold Oper.wp execOp
    simp only [ho, Sem.run_bind, hr, Result.andThen_ok, Sem.run_pure]
    subst ha
    exact hK _ _ k
theorem wpList_frame' {l : List Oper} {a a' : Act} {w w' : World} (ha : a = a') (hw : w = w') (h : wpList P ops Q l a' w') : wpList P ops Q l a w := by subst ha; subst hw; exact h
theorem setRow_alloc (w : World) (Z T : Array Value) (t : TypeId) : (w.alloc (.cells Z t)).setRow w.heap.size T = w.alloc (.cells T t) := by
  unfold World.setRow
  show ({ w with heap := (w.heap.push (.cells Z t)).modify w.heap.size _ } : World) = { w with heap := w.heap.push (.cells T t) }
  congr 1
  apply Array.ext_getElem?
  intro i
  rw [Array.getElem?_modify, Array.getElem?_push, Array.getElem?_push]
  by_cases h : w.heap.size = i
  · subst h; simp
  · have h2 : ¬ i = w.heap.size := fun e => h e.symm
    simp [h, h2]
theorem run_loadVar_cells (w : World) (g i : Nat) (ty : TypeId) (cs : List Value) (d : TypeDesc) (hc : ∀ j v, cs[j]? = some v → w.cell? ⟨g, i + j, none⟩ = some v)
    (hu : P.underlying ty = some d) (hd : (match d with | .struct _ | .array _ _ => true | _ => false) = true) (hi : (P.info? ty).map (·.size) = some cs.length) :
    (loadVar ty ⟨g, i, none⟩).run P w = .ok (.agg cs.toArray) w := by
  have hl : (loadCells ⟨g, i, none⟩ cs.length).run P w = .ok cs.toArray w :=
    run_loadCells_list (P := P) w ⟨g, i, none⟩ cs (fun j v hv => by
      have hadd : (⟨g, i, none⟩ : Addr).add j = ⟨g, i + j, none⟩ := by unfold Addr.add; split <;> simp_all
      rw [hadd]
      exact hc j v hv)
  cases hq : P.info? ty with
  | none => simp [hq] at hi
  | some it =>
    have hs : it.size = cs.length := by simpa [hq] using hi
    have hagg : (isAgg ty).run P w = .ok true w := by
      unfold isAgg
      rw [Sem.run_bind, run_underlying hu w]
      cases d <;> simp_all
    simp [loadVar, Sem.run_bind, hagg, sizeOf, typeInfo, hq, hs, hl]
theorem wpList_load_cells {rest : List Oper} {o : Oper} {a : Act} {w : World} (hgd : o.guard = none) (ty : TypeId) (x : Operand) (ho : o.op = .load ty x)
    (g i : Nat) (hx : a.eval x = .pointer (some ⟨g, i, none⟩)) (cs : List Value) (d : TypeDesc) (hc : ∀ j v, cs[j]? = some v → w.cell? ⟨g, i + j, none⟩ = some v)
    (hu : P.underlying ty = some d) (hd : (match d with | .struct _ | .array _ _ => true | _ => false) = true) (hi : (P.info? ty).map (·.size) = some cs.length)
    (h : wpList P ops Q rest (a.put o.dst (.agg cs.toArray)) w) : wpList P ops Q (o :: rest) a w :=
  wpList_plain hgd fun _ hK => by
    unfold Oper.wp execOp
    simp only [ho, hx, Instr.loadAt, Instr.sureAddr, Sem.run_bind, Sem.run_pure, Result.andThen_ok, run_loadVar_cells w g i ty cs d hc hu hd hi]
    exact hK _ _ h
end
theorem alloc56 (w : World) : (Instr.alloc 338 true (.tuple #[])).run Tryz.prog w = .ok (.pointer (some ⟨w.heap.size, 0, none⟩)) (w.alloc (.cells zerC 338)) := by kernel_rfl

theorem on_range {α : Type} {f g : Nat → α} {n : Nat} (h : (List.range n).map f = (List.range n).map g) {k : Nat} (hk : k < n) : f k = g k := by
  have := congrArg (·[k]?) h
  simpa [hk] using this
theorem tab_at {k : Nat} (hk : k < 39) : tabC[4 * k]? = some (.string (wB k)) ∧ tabC[4 * k + 1]? = some (.int .i64 (kd k)) ∧ tabC[4 * k + 2]? = some (.int .i64 (pp k)) ∧ tabC[4 * k + 3]? = some (.int .i64 (ph k)) :=
  ⟨on_range (f := fun k => tabC[4 * k]?) (g := fun k => some (.string (wB k))) (by kernel_rfl) hk, on_range (f := fun k => tabC[4 * k + 1]?) (g := fun k => some (.int .i64 (kd k))) (by kernel_rfl) hk,
   on_range (f := fun k => tabC[4 * k + 2]?) (g := fun k => some (.int .i64 (pp k))) (by kernel_rfl) hk, on_range (f := fun k => tabC[4 * k + 3]?) (g := fun k => some (.int .i64 (ph k))) (by kernel_rfl) hk⟩

theorem Ch.setRow {a b : World} (h : Ch a b) (g : Nat) (cs : Array Value) (hg : a.heap.size ≤ g) : Ch a (b.setRow g cs) :=
  ⟨h.os, h.tape, h.output, by rw [setRow_size]; exact h.size, fun k hk => by rw [setRow_other _ _ _ _ (by omega)]; exact h.block k hk⟩
theorem ix_yes (k : Nat) (h : k ≤ 38) : ix (k : Int) = k := by unfold ix; rw [if_pos (by omega)]; omega
theorem ix_no {op : Int} (h : op < 0 ∨ 38 < op) : ix op = 0 := by unfold ix; rw [if_neg (by omega)]
theorem info118 : (Tryz.prog.info? 316).map (·.size) = some 4 := by kernel_rfl
theorem rV_zero : rV 0 = .agg #[.string ⟨#[]⟩, .int .i64 0, .int .i64 0, .int .i64 0] := rfl

theorem one4 (a : ByteArray) (b c d : Int) : (#[Value.string a, .int .i64 b, .int .i64 c, .int .i64 d].all (·.oneCell')) = true := by kernel_rfl
set_option maxHeartbeats 4000000 in
theorem rowOf_any (op : Int) (w : World) : Calls Tryz.prog 315 #[.int .i64 op] w fun e w' => e = .returned (rV (ix op)) ∧ Ch w w' := by
  go_enter Tryz.func315, Tryz.ntmps315
  iterate 11 go_step
  refine wpList_builds 39 (a' := { tmps := (.int .i64 op :: undef :: .pointer (some ⟨w.heap.size, 0, none⟩) :: undef :: rV 1 :: rV 2 :: rV 3 :: rV 4 :: rV 5 :: rV 6 :: rV 7 :: rV 8 :: rV 9 :: rV 10 :: rV 11 :: rV 12 :: rV 13 :: rV 14 :: rV 15 :: rV 16 :: rV 17 :: rV 18 :: rV 19 :: rV 20 :: rV 21 :: rV 22 :: rV 23 :: rV 24 :: rV 25 :: rV 26 :: rV 27 :: rV 28 :: rV 29 :: rV 30 :: rV 31 :: rV 32 :: rV 33 :: rV 34 :: rV 35 :: rV 36 :: rV 37 :: rV 38 :: .agg tabC :: undef :: undef :: undef :: undef :: undef :: undef :: undef :: undef :: undef :: undef :: []).toArray, defers := [] }) (by kernel_rfl) ?_
  simp only [List.drop_succ_cons, List.drop_zero]
  obtain ⟨c0, hA, h4⟩ : ∃ c0 : Array Value, #[.string ⟨#[]⟩, .int .i64 0, .int .i64 0, .int .i64 0] = c0 ∧ c0.size = 4 := ⟨_, rfl, rfl⟩
  rw [hA]
  clear hA
  refine wpList_alloc_at rfl 338 rfl zerC (alloc56 _) (a' := { tmps := (.int .i64 op :: undef :: .pointer (some ⟨w.heap.size, 0, none⟩) :: .pointer (some ⟨(w.alloc (.cells c0 316)).heap.size, 0, none⟩) :: rV 1 :: rV 2 :: rV 3 :: rV 4 :: rV 5 :: rV 6 :: rV 7 :: rV 8 :: rV 9 :: rV 10 :: rV 11 :: rV 12 :: rV 13 :: rV 14 :: rV 15 :: rV 16 :: rV 17 :: rV 18 :: rV 19 :: rV 20 :: rV 21 :: rV 22 :: rV 23 :: rV 24 :: rV 25 :: rV 26 :: rV 27 :: rV 28 :: rV 29 :: rV 30 :: rV 31 :: rV 32 :: rV 33 :: rV 34 :: rV 35 :: rV 36 :: rV 37 :: rV 38 :: .agg tabC :: undef :: undef :: undef :: undef :: undef :: undef :: undef :: undef :: undef :: undef :: []).toArray, defers := [] }) (by kernel_rfl) ?_
  refine wpList_store_row rfl 338 (.tmp 3) (.tmp 42) rfl (w.alloc (.cells c0 316)).heap.size tabC (by kernel_rfl) (by kernel_rfl) 338 zerC (heap_alloc_new _ _) (by kernel_rfl) (by kernel_rfl) (by kernel_rfl) ?_
  rw [setRow_alloc]
  have hz : (w.alloc (.cells c0 316)).heap.size = w.heap.size + 1 := by simp
  refine wpList_frame' (a' := { tmps := (.int .i64 op :: undef :: .pointer (some ⟨w.heap.size, 0, none⟩) :: .pointer (some ⟨w.heap.size + 1, 0, none⟩) :: rV 1 :: rV 2 :: rV 3 :: rV 4 :: rV 5 :: rV 6 :: rV 7 :: rV 8 :: rV 9 :: rV 10 :: rV 11 :: rV 12 :: rV 13 :: rV 14 :: rV 15 :: rV 16 :: rV 17 :: rV 18 :: rV 19 :: rV 20 :: rV 21 :: rV 22 :: rV 23 :: rV 24 :: rV 25 :: rV 26 :: rV 27 :: rV 28 :: rV 29 :: rV 30 :: rV 31 :: rV 32 :: rV 33 :: rV 34 :: rV 35 :: rV 36 :: rV 37 :: rV 38 :: .agg tabC :: undef :: undef :: undef :: undef :: undef :: undef :: undef :: undef :: undef :: undef :: []).toArray, defers := [] }) (by rw [hz]; rfl) rfl ?_
  have hg0 := heap_alloc2_old w (.cells c0 316) (.cells tabC 338)
  have hg1 := heap_alloc2_new w (.cells c0 316) (.cells tabC 338)
  have hch : Ch w ((w.alloc (.cells c0 316)).alloc (.cells tabC 338)) := ((Ch.refl w).alloc _).alloc _
  clear hz
  generalize (w.alloc (.cells c0 316)).alloc (.cells tabC 338) = w2 at *
  have H0 : Hid (w2.heap[w.heap.size]? = some (.cells c0 316)) := hg0
  have H1 : Hid (w2.heap[w.heap.size + 1]? = some (.cells tabC 338)) := hg1
  clear hg0 hg1
  by_cases hb : op < 0 ∨ 38 < op
  · have hix := ix_no hb
    have HX : Hid (ix op = 0) := hix
    clear hix
    rcases hb with hb | hb
    all_goals
      go_wp2_with (refine wpList_store_row rfl 316 (.tmp 2) (.tmp 49) rfl w.heap.size #[.string ⟨#[]⟩, .int .i64 0, .int .i64 0, .int .i64 0] rfl rfl 316 c0 H0.out info118 h4 (one4 _ _ _ _) ?_)
      refine bodyPost_ret (results_cell_row rfl _ _ w.heap.size 316 _ (0, 0) _ rfl (setRow_heap _ _ _ _ _ _ H0.out) Tryz.underlying316 rfl info118) rfl ?_
      exact ⟨by rw [HX.out]; rfl, hch.setRow _ _ (Nat.le_refl _)⟩
  · obtain ⟨k, rfl⟩ : ∃ k : Nat, op = (k : Int) := ⟨op.toNat, by omega⟩
    have hk : k ≤ 38 := by omega
    have hk2 : (k : Int) ≤ 38 := by omega
    have hk3 : (k : Int) < 39 := by omega
    clear hb
    obtain ⟨t0, t1, t2, t3⟩ := tab_at (k := k) (by omega)
    have d0 : w2.cell? ⟨w.heap.size + 1, k * 4, none⟩ = some (.string (wB k)) := by rw [cell_of_row _ _ _ _ _ _ H1.out, Nat.mul_comm]; exact t0
    have d1 : w2.cell? ⟨w.heap.size + 1, k * 4 + 1, none⟩ = some (.int .i64 (kd k)) := by rw [cell_of_row _ _ _ _ _ _ H1.out, Nat.mul_comm]; exact t1
    have d2 : w2.cell? ⟨w.heap.size + 1, k * 4 + 2, none⟩ = some (.int .i64 (pp k)) := by rw [cell_of_row _ _ _ _ _ _ H1.out, Nat.mul_comm]; exact t2
    have d3 : w2.cell? ⟨w.heap.size + 1, k * 4 + 3, none⟩ = some (.int .i64 (ph k)) := by rw [cell_of_row _ _ _ _ _ _ H1.out, Nat.mul_comm]; exact t3
    clear t0 t1 t2 t3
    go_wp2_with (refine wpList_store_row rfl 316 (.tmp 2) (.tmp 52) rfl w.heap.size #[.string (wB k), .int .i64 (kd k), .int .i64 (pp k), .int .i64 (ph k)] rfl rfl 316 c0 H0.out info118 h4 (one4 _ _ _ _) ?_)
    refine bodyPost_ret (results_cell_row rfl _ _ w.heap.size 316 _ (0, 0) _ rfl (setRow_heap _ _ _ _ _ _ H0.out) Tryz.underlying316 rfl info118) rfl ?_
    exact ⟨by rw [ix_yes k hk]; rfl, hch.setRow _ _ (Nat.le_refl _)⟩
end Go.Proofs.YthmepecmeambmaaGreat
