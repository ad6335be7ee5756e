/- A class that shares nothing: its rows. -/
/- A class that shares nothing with another. -/
import Derived.Test.YthmepecmeambmaaGreatKLkE
namespace Go.Proofs.YthmepecmeambmaaGreat
open Go.RowKit
set_option linter.unusedVariables false

theorem Ch.put {a b : World} (h : Ch a b) {g o : Nat} (v : Value) (hg : a.heap.size ≤ g) : Ch a (b.setCell ⟨g, o, none⟩ v) :=
  ⟨h.os, h.tape, h.output, by have := h.size; simp [World.setCell]; omega, fun k hk => (Below.heap_setCell _ _ _ _ (fun e => by simp at e; omega)).trans (h.block k hk)⟩
/-- A box of one's own since w. -/
structure Bo (w : World) (g : Nat) (T : TypeId) (cs : Array Value) (w1 : World) : Prop where
  ch : Ch w w1
  le : w.heap.size ≤ g
  b : w1.heap[g]? = some (.cells cs T)
section
variable {w w1 w2 : World} {g : Nat} {T : TypeId} {cs : Array Value}
theorem Bo.new (h : Ch w w1) (cs : Array Value) (T : TypeId) : Bo w w1.heap.size T cs (w1.alloc (.cells cs T)) := ⟨h.alloc _, h.size, heap_alloc_new _ _⟩
theorem Bo.call (h : Bo w g T cs w1) (c : Ch w1 w2) : Bo w g T cs w2 := ⟨h.ch.trans c, h.le, kept_at c h.b⟩
theorem Bo.set (h : Bo w g T cs w1) (i : Nat) (u : Value) : Bo w g T (cs.setIfInBounds i u) (w1.setCell ⟨g, i, none⟩ u) :=
  ⟨h.ch.put u h.le, h.le, by simp [World.setCell, Array.getElem?_modify, h.b]⟩
theorem Bo.c (h : Bo w g T cs w1) (i : Nat) {u : Value} (hu : cs[i]? = some u) : w1.cell? ⟨g, i, none⟩ = some u := by simp [World.cell?, h.b, hu]
theorem Bo.fz (h : Bo w g T cs w1) (i : Nat) : w1.frozen? ⟨g, i, none⟩ = false := by simp [World.frozen?, h.b]
theorem Bo.lt (h : Bo w g T cs w1) : g < w1.heap.size := (Array.getElem?_eq_some_iff.1 h.b).1
/-- Another box stays. -/
theorem Bo.far (h : Bo w g T cs w1) {g' : Nat} (i : Nat) (u : Value) (hne : g ≠ g') (hg : w.heap.size ≤ g') : Bo w g T cs (w1.setCell ⟨g', i, none⟩ u) :=
  ⟨h.ch.put u hg, h.le, (Below.heap_setCell _ _ _ _ (fun e => hne e)).trans h.b⟩
end
theorem Bo.setRow {w w1 : World} {g : Nat} {T : TypeId} {cs : Array Value} (h : Bo w g T cs w1) (cs' : Array Value) : Bo w g T cs' (w1.setRow g cs') :=
  ⟨h.ch.setRow g cs' h.le, h.le, setRow_heap _ _ _ _ _ _ h.b⟩
theorem Bo.farRow {w w1 : World} {g : Nat} {T : TypeId} {cs : Array Value} (h : Bo w g T cs w1) {g' : Nat} (cs' : Array Value) (hne : g ≠ g') (hg : w.heap.size ≤ g') : Bo w g T cs (w1.setRow g' cs') :=
  ⟨h.ch.setRow g' cs' hg, h.le, (setRow_other _ _ _ _ hne).trans h.b⟩
/-- The block of an owned row. -/
theorem own_objG {w : World} {base : Nat} {e : TypeId} {size : Nat} {v : Value} {n : Nat} {xs : List Value} (h : w.ownsRow base e size v n xs) {g : Nat} (hg : v.ownBlock = some g) : base ≤ g ∧ ∃ cur, w.heap[g]? = some (.cells cur e) := by
  rcases h.2 with ⟨hv, _⟩ | ⟨g', cap, cur, hv, hb, hh, _⟩
  · rw [hv] at hg; cases hg
  · rw [hv] at hg
    have : g' = g := by simpa [Value.ownBlock] using hg
    subst this
    exact ⟨hb, cur, hh⟩
section
variable {α : Type} {k : Nat} {e : TypeId} {R : World → List Value → α → Prop} {B : Nat} {w w' : World} {v : Value} {xs : List α}
/-- A box of another type is turned: the rows stay. -/
theorem Ow.far (h : Ow k e R B w v xs) {g i : Nat} {cs : Array Value} {T : TypeId} {u : Value} (hg : w.heap[g]? = some (.cells cs T)) (hT : T ≠ e) (hR : ∀ cs a, R w cs a → R (w.setCell ⟨g, i, none⟩ u) cs a) : Ow k e R B (w.setCell ⟨g, i, none⟩ u) v xs := by
  obtain ⟨C, h1, h2, h3⟩ := h
  refine ⟨C, h1, ownsRow_same h2 (fun g' hg' => Below.heap_setCell _ _ _ _ (fun q => ?_)), fun i a hi => hR _ _ (h3 i a hi)⟩
  obtain ⟨_, cur, hc⟩ := own_objG h2 hg'
  have q : g' = g := q
  rw [q, hg] at hc
  exact hT (by simpa using (by simpa using hc : _ ∧ _).2)
theorem Ow.farRow (h : Ow k e R B w v xs) {g : Nat} {cs : Array Value} {T : TypeId} (cs' : Array Value) (hg : w.heap[g]? = some (.cells cs T)) (hT : T ≠ e) (hR : ∀ cs a, R w cs a → R (w.setRow g cs') cs a) : Ow k e R B (w.setRow g cs') v xs := by
  obtain ⟨C, h1, h2, h3⟩ := h
  refine ⟨C, h1, ownsRow_same h2 (fun g' hg' => setRow_other _ _ _ _ (fun q => ?_)), fun i a hi => hR _ _ (h3 i a hi)⟩
  obtain ⟨_, cur, hc⟩ := own_objG h2 hg'
  have q : g' = g := q
  rw [q, hg] at hc
  exact hT (by simpa using (by simpa using hc : _ ∧ _).2)
end
theorem Ow.keepS {B : Nat} {w w' : World} {v : Value} {xs : List ByteArray} (h : Ow 1 9 RS B w v xs) (c : Ch w w') : Ow 1 9 RS B w' v xs := h.keep (fun _ _ x => x) c
theorem Ow.farS {B : Nat} {w : World} {v : Value} {xs : List ByteArray} (h : Ow 1 9 RS B w v xs) {g : Nat} (i : Nat) {cs : Array Value} {T : TypeId} (u : Value) (hg : w.heap[g]? = some (.cells cs T)) (hT : T ≠ 9) : Ow 1 9 RS B (w.setCell ⟨g, i, none⟩ u) v xs := h.far hg hT (fun _ _ x => x)
theorem Ow.keepF {B : Nat} {w w' : World} {v : Value} {xs : List Fld} (h : Ow 3 103 RF B w v xs) (c : Ch w w') : Ow 3 103 RF B w' v xs := h.keep (fun _ _ x => x) c
theorem Ow.farF {B : Nat} {w : World} {v : Value} {xs : List Fld} (h : Ow 3 103 RF B w v xs) {g : Nat} (i : Nat) {cs : Array Value} {T : TypeId} (u : Value) (hg : w.heap[g]? = some (.cells cs T)) (hT : T ≠ 103) : Ow 3 103 RF B (w.setCell ⟨g, i, none⟩ u) v xs := h.far hg hT (fun _ _ x => x)
theorem Ow.keepI {B : Nat} {w w' : World} {v : Value} {xs : List Ins} (h : Ow 6 62 RI B w v xs) (c : Ch w w') : Ow 6 62 RI B w' v xs := h.keep (fun _ _ x => x) c
theorem Ow.farI {B : Nat} {w : World} {v : Value} {xs : List Ins} (h : Ow 6 62 RI B w v xs) {g : Nat} (i : Nat) {cs : Array Value} {T : TypeId} (u : Value) (hg : w.heap[g]? = some (.cells cs T)) (hT : T ≠ 62) : Ow 6 62 RI B (w.setCell ⟨g, i, none⟩ u) v xs := h.far hg hT (fun _ _ x => x)
theorem Ow.keepH {B : Nat} {w w' : World} {v : Value} {xs : List Hnd} (h : Ow 4 124 RH B w v xs) (c : Ch w w') : Ow 4 124 RH B w' v xs := h.keep (fun _ _ x => x) c
theorem Ow.farH {B : Nat} {w : World} {v : Value} {xs : List Hnd} (h : Ow 4 124 RH B w v xs) {g : Nat} (i : Nat) {cs : Array Value} {T : TypeId} (u : Value) (hg : w.heap[g]? = some (.cells cs T)) (hT : T ≠ 124) : Ow 4 124 RH B (w.setCell ⟨g, i, none⟩ u) v xs := h.far hg hT (fun _ _ x => x)
theorem Ow.rowS {B : Nat} {w : World} {v : Value} {xs : List ByteArray} (h : Ow 1 9 RS B w v xs) {g : Nat} {cs : Array Value} {T : TypeId} (cs' : Array Value) (hg : w.heap[g]? = some (.cells cs T)) (hT : T ≠ 9) : Ow 1 9 RS B (w.setRow g cs') v xs := h.farRow cs' hg hT (fun _ _ x => x)
theorem Ow.rowF {B : Nat} {w : World} {v : Value} {xs : List Fld} (h : Ow 3 103 RF B w v xs) {g : Nat} {cs : Array Value} {T : TypeId} (cs' : Array Value) (hg : w.heap[g]? = some (.cells cs T)) (hT : T ≠ 103) : Ow 3 103 RF B (w.setRow g cs') v xs := h.farRow cs' hg hT (fun _ _ x => x)
theorem Ow.rowI {B : Nat} {w : World} {v : Value} {xs : List Ins} (h : Ow 6 62 RI B w v xs) {g : Nat} {cs : Array Value} {T : TypeId} (cs' : Array Value) (hg : w.heap[g]? = some (.cells cs T)) (hT : T ≠ 62) : Ow 6 62 RI B (w.setRow g cs') v xs := h.farRow cs' hg hT (fun _ _ x => x)
theorem Ow.rowH {B : Nat} {w : World} {v : Value} {xs : List Hnd} (h : Ow 4 124 RH B w v xs) {g : Nat} {cs : Array Value} {T : TypeId} (cs' : Array Value) (hg : w.heap[g]? = some (.cells cs T)) (hT : T ≠ 124) : Ow 4 124 RH B (w.setRow g cs') v xs := h.farRow cs' hg hT (fun _ _ x => x)
theorem slc {w : World} {v : Value} {xs : List Mth} (h : Sl 8 RM w v xs) : Sl 8 (RMc w) w v xs := by
  obtain ⟨ao, cap, hv, h1, h2, h3⟩ := h
  exact ⟨ao, cap, hv, h1, h2, h3⟩
theorem RMo.rowM {B : Nat} {w : World} {cs : List Value} {m : Mth} (h : RMo B w cs m) {g : Nat} {c : Array Value} {T : TypeId} (cs' : Array Value) (hg : w.heap[g]? = some (.cells c T)) (h1 : T ≠ 62) (h2 : T ≠ 124) : RMo B (w.setRow g cs') cs m := by
  obtain ⟨vc, vh, e, q1, q2⟩ := h
  exact ⟨vc, vh, e, q1.rowI _ hg h1, q2.rowH _ hg h2⟩
theorem Ow.rowM {B : Nat} {w : World} {v : Value} {xs : List Mth} (h : Ow 8 66 (RMo B) B w v xs) {g : Nat} {cs : Array Value} {T : TypeId} (cs' : Array Value) (hg : w.heap[g]? = some (.cells cs T)) (hT : T ≠ 66) (h1 : T ≠ 62) (h2 : T ≠ 124) : Ow 8 66 (RMo B) B (w.setRow g cs') v xs := h.farRow cs' hg hT (fun _ _ x => x.rowM _ hg h1 h2)
theorem row8 {w : World} {g : Nat} {cur : Array Value} {T : TypeId} (h : w.heap[g]? = some (.cells cur T)) (o : Nat) (ho : o + 8 ≤ cur.size) : ∃ u0 u1 u2 u3 u4 u5 u6 u7 : Value, w.cell? ⟨g, o, none⟩ = some u0 ∧ w.cell? ⟨g, o + 1, none⟩ = some u1 ∧ w.cell? ⟨g, o + 2, none⟩ = some u2 ∧ w.cell? ⟨g, o + 3, none⟩ = some u3 ∧ w.cell? ⟨g, o + 4, none⟩ = some u4 ∧ w.cell? ⟨g, o + 5, none⟩ = some u5 ∧ w.cell? ⟨g, o + 6, none⟩ = some u6 ∧ w.cell? ⟨g, o + 7, none⟩ = some u7 ∧ w.frozen? ⟨g, o, none⟩ = false ∧ w.frozen? ⟨g, o + 1, none⟩ = false ∧ w.frozen? ⟨g, o + 2, none⟩ = false ∧ w.frozen? ⟨g, o + 3, none⟩ = false ∧ w.frozen? ⟨g, o + 4, none⟩ = false ∧ w.frozen? ⟨g, o + 5, none⟩ = false ∧ w.frozen? ⟨g, o + 6, none⟩ = false ∧ w.frozen? ⟨g, o + 7, none⟩ = false := by
  have hc : ∀ j, j < 8 → w.cell? ⟨g, o + j, none⟩ = cur[o + j]? := fun j _ => by simp [World.cell?, h]
  have hj : ∀ j, j < 8 → ∃ u, cur[o + j]? = some u := fun j hj => ⟨_, Array.getElem?_eq_getElem (by omega)⟩
  have hf : ∀ o', w.frozen? ⟨g, o', none⟩ = false := fun o' => by simp [World.frozen?, h]
  obtain ⟨u0, e0⟩ := hj 0 (by omega)
  obtain ⟨u1, e1⟩ := hj 1 (by omega)
  obtain ⟨u2, e2⟩ := hj 2 (by omega)
  obtain ⟨u3, e3⟩ := hj 3 (by omega)
  obtain ⟨u4, e4⟩ := hj 4 (by omega)
  obtain ⟨u5, e5⟩ := hj 5 (by omega)
  obtain ⟨u6, e6⟩ := hj 6 (by omega)
  obtain ⟨u7, e7⟩ := hj 7 (by omega)
  exact ⟨u0, u1, u2, u3, u4, u5, u6, u7, (hc 0 (by omega)).trans e0, (hc 1 (by omega)).trans e1, (hc 2 (by omega)).trans e2, (hc 3 (by omega)).trans e3, (hc 4 (by omega)).trans e4, (hc 5 (by omega)).trans e5, (hc 6 (by omega)).trans e6, (hc 7 (by omega)).trans e7, hf _, hf _, hf _, hf _, hf _, hf _, hf _, hf _⟩
theorem far1 {w : World} {g o b i : Nat} {u v : Value} (hne : b ≠ g) (hc : w.cell? ⟨b, i, none⟩ = some v) : (w.setCell ⟨g, o, none⟩ u).cell? ⟨b, i, none⟩ = some v := by
  have := Below.heap_setCell w ⟨g, o, none⟩ u b hne
  simpa only [World.cell?, this] using hc
theorem far8 {w : World} {g o1 o2 o3 o4 o5 o6 o7 o8 b i : Nat} {u1 u2 u3 u4 u5 u6 u7 u8 v : Value} (hne : b ≠ g) (hc : w.cell? ⟨b, i, none⟩ = some v) : ((((((((w.setCell ⟨g, o1, none⟩ u1).setCell ⟨g, o2, none⟩ u2).setCell ⟨g, o3, none⟩ u3).setCell ⟨g, o4, none⟩ u4).setCell ⟨g, o5, none⟩ u5).setCell ⟨g, o6, none⟩ u6).setCell ⟨g, o7, none⟩ u7).setCell ⟨g, o8, none⟩ u8).cell? ⟨b, i, none⟩ = some v :=
  far1 hne (far1 hne (far1 hne (far1 hne (far1 hne (far1 hne (far1 hne (far1 hne hc)))))))
theorem infoM : (Tryz.prog.info? 66).map (·.size) = some 8 := by kernel_rfl
theorem infoC : (Tryz.prog.info? 41).map (·.size) = some 7 := by kernel_rfl
theorem one8 (a b : ByteArray) (c d : Bool) (i j : Int) (a1 : Option Addr) (n1 c1 : Nat) (a2 : Option Addr) (n2 c2 : Nat) : (#[Value.string a, .string b, .bool c, .bool d, .int .i64 i, .int .i64 j, .slice a1 n1 c1, .slice a2 n2 c2].all (·.oneCell')) = true := by kernel_rfl
theorem one7 (a b : ByteArray) (c d : Bool) (a1 : Option Addr) (n1 c1 : Nat) (a2 : Option Addr) (n2 c2 : Nat) (a3 : Option Addr) (n3 c3 : Nat) : (#[Value.string a, .string b, .bool c, .bool d, .slice a1 n1 c1, .slice a2 n2 c2, .slice a3 n3 c3].all (·.oneCell')) = true := by kernel_rfl

set_option maxHeartbeats 8000000 in
set_option maxRecDepth 100000 in
theorem ownCode_any (m : Mth) (vc vh : Value) (w : World) (h1 : Sl 6 RI w vc m.code) (h2 : Sl 4 RH w vh m.hs) (l1 : m.code.length ≤ 12000) (l2 : m.hs.length ≤ 12000) :
    Calls Tryz.prog 172 #[.agg #[.string m.n, .string m.d, .bool m.st, .bool m.ab, .int .i64 m.sk, .int .i64 m.lo, vc, vh]] w fun e w' =>
      ∃ vc' vh', e = .returned (.agg #[.string m.n, .string m.d, .bool m.st, .bool m.ab, .int .i64 m.sk, .int .i64 m.lo, vc', vh']) ∧ Ow 6 62 RI w.heap.size w' vc' m.code ∧ Ow 4 124 RH w.heap.size w' vh' m.hs ∧ Ch w w' := by
  have HI : Hid (∀ w', Ch w w' → Calls Tryz.prog 230 #[vc] w' fun e w2 => ∃ v', e = .returned v' ∧ Ow 6 62 RI w'.heap.size w2 v' m.code ∧ Ch w' w2) := fun w' k => cloneI _ _ _ (h1.keepI k) (by omega)
  have HH : Hid (∀ w', Ch w w' → Calls Tryz.prog 231 #[vh] w' fun e w2 => ∃ v', e = .returned v' ∧ Ow 4 124 RH w'.heap.size w2 v' m.hs ∧ Ch w' w2) := fun w' k => cloneH _ _ _ (h2.keepH k) (by omega)
  obtain ⟨ac, cc, rfl, _, _⟩ := h1.form
  obtain ⟨ah, chh, rfl, _, _⟩ := h2.form
  clear h1 h2
  have B0 := Bo.new (Ch.refl w) #[.string m.n, .string m.d, .bool m.st, .bool m.ab, .int .i64 m.sk, .int .i64 m.lo, .slice ac m.code.length cc, .slice ah m.hs.length chh] 66
  have R0 := Bo.new B0.ch #[.string ⟨#[]⟩, .string ⟨#[]⟩, .bool false, .bool false, .int .i64 0, .int .i64 0, .slice none 0 0, .slice none 0 0] 66
  have B1 := B0.call ((Ch.refl _).alloc (.cells #[.string ⟨#[]⟩, .string ⟨#[]⟩, .bool false, .bool false, .int .i64 0, .int .i64 0, .slice none 0 0, .slice none 0 0] 66))
  clear B0
  have hsz : (w.alloc (.cells #[.string m.n, .string m.d, .bool m.st, .bool m.ab, .int .i64 m.sk, .int .i64 m.lo, .slice ac m.code.length cc, .slice ah m.hs.length chh] 66)).heap.size = w.heap.size + 1 := by simp
  rw [hsz] at R0
  go_enter Tryz.func172, Tryz.ntmps172
  go_wp2_with (first
    | (go_at_call 230; (with_reducible refine (HI.out _ B1.ch).mono ?_); rintro e w3 ⟨v3, rfl, o3, c3⟩; obtain ⟨a3, d3, rfl⟩ := o3.form; have B2 := B1.call c3; have R2 := R0.call c3; have f6 := B2.fz 6; have g6 := B2.c 6 rfl; have B3 := B2.set 6 (.slice a3 m.code.length d3); have R3 := R2.far 6 (.slice a3 m.code.length d3) (g' := w.heap.size) (by omega) (Nat.le_refl _); have o3' := (o3.farI 6 (.slice a3 m.code.length d3) B2.b (by decide)).base (B' := w.heap.size) B1.ch.size; have g7 := B2.c 7 rfl)
    | (go_at_call 231; (with_reducible refine (HH.out _ B3.ch).mono ?_); rintro e w4 ⟨v4, rfl, o4, c4⟩; obtain ⟨a4, d4, rfl⟩ := o4.form; have B4 := B3.call c4; have R4 := R3.call c4; have f7 := B4.fz 7; have q7 := B4.c 7 rfl; have B5 := B4.set 7 (.slice a4 m.hs.length d4); have R5 := R4.far 7 (.slice a4 m.hs.length d4) (g' := w.heap.size) (by omega) (Nat.le_refl _); have o3'' := (o3'.keepI c4).farI 7 (.slice a4 m.hs.length d4) B4.b (by decide); have o4' := (o4.farH 7 (.slice a4 m.hs.length d4) B4.b (by decide)).base (B' := w.heap.size) B3.ch.size; have r0 := B4.c 0 rfl; have r1 := B4.c 1 rfl; have r2 := B4.c 2 rfl; have r3 := B4.c 3 rfl; have r4 := B4.c 4 rfl; have r5 := B4.c 5 rfl; have r6 := B4.c 6 rfl)
    | (refine wpList_store_row rfl 66 (.tmp 2) (.tmp 11) rfl (w.heap.size + 1) #[.string m.n, .string m.d, .bool m.st, .bool m.ab, .int .i64 m.sk, .int .i64 m.lo, .slice a3 m.code.length d3, .slice a4 m.hs.length d4] rfl rfl 66 _ R5.b infoM rfl (one8 _ _ _ _ _ _ _ _ _ _ _ _) ?_))
  have R6 := R5.setRow #[.string m.n, .string m.d, .bool m.st, .bool m.ab, .int .i64 m.sk, .int .i64 m.lo, .slice a3 m.code.length d3, .slice a4 m.hs.length d4]
  refine bodyPost_ret (results_cell_row rfl _ _ (w.heap.size + 1) 66 _ (0, 0) _ rfl R6.b Tryz.underlying66 rfl infoM) rfl ?_
  have B6 := B5.farRow (g' := w.heap.size + 1) #[.string m.n, .string m.d, .bool m.st, .bool m.ab, .int .i64 m.sk, .int .i64 m.lo, .slice a3 m.code.length d3, .slice a4 m.hs.length d4] (by omega) (by omega)
  exact ⟨_, _, rfl, o3''.rowI _ R5.b (by decide), o4'.rowH _ R5.b (by decide), B6.ch⟩

/-- Methods' rows, of which the first k are their own through and through; the others are as they were in W. -/
def OwM (W : World) (B : Nat) (w : World) (v : Value) (xs : List Mth) (k : Nat) : Prop :=
  ∃ C : Nat → List Value, (∀ i, (C i).length = 8) ∧ w.ownsRow B 66 8 v xs.length ((List.range xs.length).flatMap C) ∧ ∀ i a, xs[i]? = some a → (i < k → RMo B w (C i) a) ∧ (k ≤ i → RM W (C i) a)
theorem OwM.new {W : World} {B : Nat} {w : World} {v : Value} {xs : List Mth} (h : Ow 8 66 (RMc W) B w v xs) : OwM W B w v xs 0 := by
  obtain ⟨C, h1, h2, h3⟩ := h
  exact ⟨C, h1, h2, fun i a hi => ⟨fun h => by omega, fun _ => h3 i a hi⟩⟩
theorem OwM.all {W : World} {B : Nat} {w : World} {v : Value} {xs : List Mth} (h : OwM W B w v xs xs.length) : Ow 8 66 (RMo B) B w v xs := by
  obtain ⟨C, h1, h2, h3⟩ := h
  exact ⟨C, h1, h2, fun i a hi => (h3 i a hi).1 (List.getElem?_eq_some_iff.1 hi).1⟩
theorem OwM.keep {W : World} {B : Nat} {w w' : World} {v : Value} {xs : List Mth} {k : Nat} (h : OwM W B w v xs k) (c : Ch w w') : OwM W B w' v xs k := by
  obtain ⟨C, h1, h2, h3⟩ := h
  exact ⟨C, h1, ownsRow_keep h2 c, fun i a hi => ⟨fun q => ((h3 i a hi).1 q).keep c, (h3 i a hi).2⟩⟩
theorem OwM.at {W : World} {B : Nat} {w : World} {ao : Option Addr} {n c : Nat} {xs : List Mth} {k : Nat} (h : OwM W B w (.slice ao n c) xs k) {m : Mth} (hi : xs[k]? = some m) :
    ∃ g cur vc vh, ao = some ⟨g, 0, none⟩ ∧ B ≤ g ∧ w.heap[g]? = some (.cells cur 66) ∧ xs.length * 8 ≤ cur.size ∧ Sl 6 RI W vc m.code ∧ Sl 4 RH W vh m.hs ∧
      w.cell? ⟨g, k * 8, none⟩ = some (.string m.n) ∧ w.cell? ⟨g, k * 8 + 1, none⟩ = some (.string m.d) ∧ w.cell? ⟨g, k * 8 + 2, none⟩ = some (.bool m.st) ∧ w.cell? ⟨g, k * 8 + 3, none⟩ = some (.bool m.ab) ∧
      w.cell? ⟨g, k * 8 + 4, none⟩ = some (.int .i64 m.sk) ∧ w.cell? ⟨g, k * 8 + 5, none⟩ = some (.int .i64 m.lo) ∧ w.cell? ⟨g, k * 8 + 6, none⟩ = some vc ∧ w.cell? ⟨g, k * 8 + 7, none⟩ = some vh := by
  obtain ⟨C, h1, h2, h3⟩ := h
  obtain ⟨vc, vh, e, q1, q2⟩ := (h3 k m hi).2 (Nat.le_refl _)
  have hlt := (List.getElem?_eq_some_iff.1 hi).1
  have h4 : Ow 8 66 (fun _ cs a => cs = C a) B w (.slice ao n c) (List.range xs.length) := ⟨C, h1, by simpa using h2, fun i a hi' => by rw [(range_at hi').1]⟩
  obtain ⟨g, cs, e1, e2, _, rfl, e3, _, _, cur, e4, e5⟩ := h4.at (i := k) (a := k) (by simp [hlt])
  rw [e] at e3
  exact ⟨g, cur, vc, vh, e1, e2, e4, by simpa using e5, q1, q2, e3 0 _ rfl, e3 1 _ rfl, e3 2 _ rfl, e3 3 _ rfl, e3 4 _ rfl, e3 5 _ rfl, e3 6 _ rfl, e3 7 _ rfl⟩
theorem OwM.row {W : World} {B : Nat} {w : World} {v : Value} {xs : List Mth} {k : Nat} (h : OwM W B w v xs k) : Ow 8 66 (fun _ _ _ => True) B w v xs := by
  obtain ⟨C, h1, h2, h3⟩ := h
  exact ⟨C, h1, h2, fun _ _ _ => trivial⟩

/-- Only block g may have turned. -/
structure Tg (g : Nat) (w w' : World) : Prop where
  os : w'.os = w.os
  tape : w'.tape = w.tape
  output : w'.output = w.output
  size : w'.heap.size = w.heap.size
  block : ∀ b, b ≠ g → w'.heap[b]? = w.heap[b]?
theorem Tg.ch {g : Nat} {a w w' : World} (h : Ch a w) (t : Tg g w w') (hg : a.heap.size ≤ g) : Ch a w' :=
  ⟨t.os.trans h.os, t.tape.trans h.tape, t.output.trans h.output, by have := h.size; have := t.size; omega, fun k hk => (t.block k (by omega)).trans (h.block k hk)⟩
theorem Bo.tg {w w1 w2 : World} {g : Nat} {T : TypeId} {cs : Array Value} (h : Bo w g T cs w1) {g' : Nat} (t : Tg g' w1 w2) (hne : g ≠ g') (hg : w.heap.size ≤ g') : Bo w g T cs w2 :=
  ⟨t.ch h.ch hg, h.le, (t.block g hne).trans h.b⟩
theorem Ow.tg {α : Type} {k : Nat} {e : TypeId} {R R' : World → List Value → α → Prop} {B : Nat} {w w' : World} {v : Value} {xs : List α} (h : Ow k e R B w v xs) {g : Nat} {cs : Array Value} {T : TypeId} (t : Tg g w w') (hg : w.heap[g]? = some (.cells cs T)) (hT : T ≠ e) (hR : ∀ cs a, R w cs a → R' w' cs a) : Ow k e R' B w' v xs := by
  obtain ⟨C, h1, h2, h3⟩ := h
  refine ⟨C, h1, ownsRow_same h2 (fun g' hg' => t.block g' (fun q => ?_)), fun i a hi => hR _ _ (h3 i a hi)⟩
  obtain ⟨_, cur, hc⟩ := own_objG h2 hg'
  have q : g' = g := q
  rw [q, hg] at hc
  exact hT (by simpa using (by simpa using hc : _ ∧ _).2)
theorem RMo.tg {B : Nat} {w w' : World} {cs : List Value} {m : Mth} (h : RMo B w cs m) {g : Nat} {c : Array Value} {T : TypeId} (t : Tg g w w') (hg : w.heap[g]? = some (.cells c T)) (h1 : T ≠ 62) (h2 : T ≠ 124) : RMo B w' cs m := by
  obtain ⟨vc, vh, e, q1, q2⟩ := h
  exact ⟨vc, vh, e, q1.tg t hg h1 (fun _ _ x => x), q2.tg t hg h2 (fun _ _ x => x)⟩
theorem setCells_row {g : Nat} {T : TypeId} : ∀ (vs : List Value) (o : Nat) (w : World) (cur : Array Value), w.heap[g]? = some (.cells cur T) → Tg g w (w.setCells g o vs) ∧
    ∃ cur', (w.setCells g o vs).heap[g]? = some (.cells cur' T) ∧ cur'.size = cur.size ∧ (∀ i, i < o ∨ o + vs.length ≤ i → cur'[i]? = cur[i]?) ∧ ∀ j u, vs[j]? = some u → o + j < cur.size → cur'[o + j]? = some u
  | [], o, w, cur, h => ⟨⟨rfl, rfl, rfl, rfl, fun _ _ => rfl⟩, cur, h, rfl, fun _ _ => rfl, fun j u hj => by simp at hj⟩
  | v :: r, o, w, cur, h => by
    have h1 : (w.setCell ⟨g, o, none⟩ v).heap[g]? = some (.cells (cur.setIfInBounds o v) T) := by simp [World.setCell, Array.getElem?_modify, h]
    obtain ⟨t, cur', c1, c2, c3, c4⟩ := setCells_row r (o + 1) (w.setCell ⟨g, o, none⟩ v) _ h1
    refine ⟨⟨t.os, t.tape, t.output, t.size.trans (by simp [World.setCell]), fun b hb => (t.block b hb).trans (Below.heap_setCell _ _ _ _ hb)⟩, cur', c1, by simpa using c2, fun i hi => ?_, fun j u hj hlt => ?_⟩
    · rw [List.length_cons] at hi
      rw [c3 i (by omega), Array.getElem?_setIfInBounds_ne (by omega)]
    · match j, hj with
      | 0, hj =>
        have e : v = u := by simpa using hj
        subst e
        rw [Nat.add_zero, c3 o (by omega)]
        simp at hlt
        simp [hlt]
      | j + 1, hj =>
        have := c4 j u (by simpa using hj) (by simp; omega)
        rw [show o + (j + 1) = o + 1 + j from by omega]
        exact this
theorem OwM.set {W : World} {B : Nat} {w : World} {g n c : Nat} {xs : List Mth} {k : Nat} (h : OwM W B w (.slice (some ⟨g, 0, none⟩) n c) xs k) {m : Mth} (hi : xs[k]? = some m) {cs : List Value} (hl : cs.length = 8) (hm : RMo B w cs m) :
    OwM W B (w.setCells g (k * 8) cs) (.slice (some ⟨g, 0, none⟩) n c) xs (k + 1) ∧ Tg g w (w.setCells g (k * 8) cs) := by
  obtain ⟨C, h1, h2, h3⟩ := h
  have hlt := (List.getElem?_eq_some_iff.1 hi).1
  rcases h2.2 with ⟨hv, _⟩ | ⟨g', cap, cur, hv, hb, hg, hc1, hc2, hc3, ht⟩
  · cases hv
  · obtain ⟨e1, e2, e3⟩ := Value.slice.inj hv
    have e1 : g = g' := by simpa using e1
    subst e1 e3
    obtain ⟨t, cur', c1, c2, c3, c4⟩ := setCells_row cs (k * 8) w cur hg
    have hC' : ∀ i, ((fun i => if i = k then cs else C i) i).length = 8 := fun i => by dsimp only; split; exact hl; exact h1 i
    have hk8 : (k + 1) * 8 ≤ xs.length * 8 := Nat.mul_le_mul_right 8 hlt
    refine ⟨⟨fun i => if i = k then cs else C i, hC', ⟨by rw [fk_len hC', List.length_range], Or.inr ⟨g, c, cur', hv, hb, c1, hc1, hc2, c2.trans hc3, ?_⟩⟩, fun i a hia => ⟨fun q => ?_, fun q => ?_⟩⟩, t⟩
    · refine List.ext_getElem? fun x => ?_
      by_cases hx : x < xs.length * 8
      · obtain ⟨i, j, hj, rfl⟩ : ∃ i j, j < 8 ∧ x = i * 8 + j := ⟨x / 8, x % 8, Nat.mod_lt _ (by omega), by omega⟩
        have hil : i < xs.length := by omega
        rw [List.getElem?_take_of_lt hx, fk_cell hC' (List.range xs.length) i j i (by simp [hil]) hj]
        have e4 : (cur.toList.take (xs.length * 8))[i * 8 + j]? = (C i)[j]? := by rw [ht, fk_cell h1 (List.range xs.length) i j i (by simp [hil]) hj]
        rw [List.getElem?_take_of_lt hx] at e4
        by_cases e : i = k
        · subst e
          simp only [if_true]
          have hj' : j < cs.length := by omega
          rw [List.getElem?_eq_getElem hj']
          have := c4 j cs[j] (List.getElem?_eq_getElem hj') (by have := Nat.mul_le_mul_right 8 hc1; omega)
          simpa using this
        · simp only [e, if_false]
          rw [← e4]
          have := c3 (i * 8 + j) (by rw [hl]; omega)
          simpa using this
      · rw [List.getElem?_eq_none (by rw [List.length_take]; omega), List.getElem?_eq_none (by rw [fk_len hC', List.length_range]; omega)]
    · dsimp only
      by_cases e : i = k
      · subst e
        rw [hi] at hia
        cases hia
        rw [if_pos rfl]
        exact hm.tg t hg (by decide) (by decide)
      · rw [if_neg e]
        exact ((h3 i a hia).1 (by omega)).tg t hg (by decide) (by decide)
    · dsimp only
      rw [if_neg (by omega)]
      exact (h3 i a hia).2 (by omega)

end Go.Proofs.YthmepecmeambmaaGreat
namespace Go.Proofs.YthmepecmeambmaaGreat
open Go.RowKit
set_option linter.unusedVariables false

set_option maxHeartbeats 8000000 in
set_option maxRecDepth 100000 in
theorem ownLists_any (c : Cls) (vi vf vm : Value) (w : World) (h : ClsAt w c vi vf vm) (hT : clsT c ≤ 12000) :
    Calls Tryz.prog 93 #[.agg #[.string c.n, .string c.s, .bool c.it, .bool c.ab, vi, vf, vm]] w fun e w' =>
      ∃ vi' vf' vm', e = .returned (.agg #[.string c.n, .string c.s, .bool c.it, .bool c.ab, vi', vf', vm']) ∧ OwC w.heap.size w' c vi' vf' vm' ∧ Ch w w' := by
  obtain ⟨l1, l2, l3⟩ := lim_i hT
  have HM : Hid (∀ m ∈ c.me, mthT m ≤ 12000) := fun m hm => lim_m hT hm
  have HI : Hid (∀ w', Ch w w' → Calls Tryz.prog 169 #[vi] w' fun e w2 => ∃ v', e = .returned v' ∧ Ow 1 9 RS w'.heap.size w2 v' c.im ∧ Ch w' w2) := fun w' k => cloneS _ _ _ (h.1.keepS k) (by omega)
  have HF : Hid (∀ w', Ch w w' → Calls Tryz.prog 170 #[vf] w' fun e w2 => ∃ v', e = .returned v' ∧ Ow 3 103 RF w'.heap.size w2 v' c.fs ∧ Ch w' w2) := fun w' k => cloneF _ _ _ (h.2.1.keepF k) (by omega)
  have HMe : Hid (∀ w', Ch w w' → Calls Tryz.prog 171 #[vm] w' fun e w2 => ∃ v', e = .returned v' ∧ Ow 8 66 (RMc w) w'.heap.size w2 v' c.me ∧ Ch w' w2) := fun w' k => cloneM w _ _ _ (Sl.keep (R := RMc w) (slc h.2.2) (fun _ _ x => x) k) (by omega)
  obtain ⟨ai, ci, rfl, _, _⟩ := h.1.form
  obtain ⟨af, cf, rfl, _, _⟩ := h.2.1.form
  obtain ⟨am, cm, rfl, _, _⟩ := h.2.2.form
  clear h hT
  have B0 := Bo.new (Ch.refl w) #[.string c.n, .string c.s, .bool c.it, .bool c.ab, .slice ai c.im.length ci, .slice af c.fs.length cf, .slice am c.me.length cm] 41
  have R0 := Bo.new B0.ch #[.string ⟨#[]⟩, .string ⟨#[]⟩, .bool false, .bool false, .slice none 0 0, .slice none 0 0, .slice none 0 0] 41
  have B1 := B0.call ((Ch.refl _).alloc (.cells #[.string ⟨#[]⟩, .string ⟨#[]⟩, .bool false, .bool false, .slice none 0 0, .slice none 0 0, .slice none 0 0] 41))
  clear B0
  have hsz : (w.alloc (.cells #[.string c.n, .string c.s, .bool c.it, .bool c.ab, .slice ai c.im.length ci, .slice af c.fs.length cf, .slice am c.me.length cm] 41)).heap.size = w.heap.size + 1 := by simp
  rw [hsz] at R0
  go_enter Tryz.func93, Tryz.ntmps93
  go_wp2_with (first
    | (go_at_call 169; (with_reducible refine (HI.out _ B1.ch).mono ?_); rintro e w3 ⟨v3, rfl, o3, c3⟩; obtain ⟨a3, d3, rfl⟩ := o3.form; have B2 := B1.call c3; have R2 := R0.call c3; have f4 := B2.fz 4; have g4 := B2.c 4 rfl; have g5 := B2.c 5 rfl; have B3 := B2.set 4 (.slice a3 c.im.length d3); have R3 := R2.far 4 (.slice a3 c.im.length d3) (g' := w.heap.size) (by omega) (Nat.le_refl _); have o3' := (o3.farS 4 (.slice a3 c.im.length d3) B2.b (by decide)).base (B' := w.heap.size) B1.ch.size)
    | (go_at_call 170; (with_reducible refine (HF.out _ B3.ch).mono ?_); rintro e w4 ⟨v4, rfl, o4, c4⟩; obtain ⟨a4, d4, rfl⟩ := o4.form; have B4 := B3.call c4; have R4 := R3.call c4; have f5 := B4.fz 5; have h5 := B4.c 5 rfl; have h6 := B4.c 6 rfl; have B5 := B4.set 5 (.slice a4 c.fs.length d4); have R5 := R4.far 5 (.slice a4 c.fs.length d4) (g' := w.heap.size) (by omega) (Nat.le_refl _); have o3'' := (o3'.keepS c4).farS 5 (.slice a4 c.fs.length d4) B4.b (by decide); have o4' := (o4.farF 5 (.slice a4 c.fs.length d4) B4.b (by decide)).base (B' := w.heap.size) B3.ch.size)
    | (go_at_call 171; (with_reducible refine (HMe.out _ B5.ch).mono ?_); rintro e w5 ⟨v5, rfl, o5, c5⟩; obtain ⟨a5, d5, rfl⟩ := o5.form; have B6 := B5.call c5; have R6 := R5.call c5; have f6 := B6.fz 6; have i6 := B6.c 6 rfl; have o3a := o3''.keepS c5; have o4a := o4'.keepF c5)
    | fail)
  have B7 := B6.set 6 (.slice a5 c.me.length d5)
  have R7 := R6.far 6 (.slice a5 c.me.length d5) (g' := w.heap.size) (by omega) (Nat.le_refl _)
  have o3b := o3a.farS 6 (.slice a5 c.me.length d5) B6.b (by decide)
  have o4b := o4a.farF 6 (.slice a5 c.me.length d5) B6.b (by decide)
  have o5b := OwM.new ((o5.far (i := 6) (u := .slice a5 c.me.length d5) B6.b (by decide) (fun _ _ x => x)).base (B' := w.heap.size) B5.ch.size)
  go_loopw [20] (fun i wr => ∃ k : Nat, k ≤ c.me.length ∧ i = .int .i64 k ∧ Bo w w.heap.size 41 #[.string c.n, .string c.s, .bool c.it, .bool c.ab, .slice a3 c.im.length d3, .slice a4 c.fs.length d4, .slice a5 c.me.length d5] wr ∧
    Bo w (w.heap.size + 1) 41 #[.string ⟨#[]⟩, .string ⟨#[]⟩, .bool false, .bool false, .slice none 0 0, .slice none 0 0, .slice none 0 0] wr ∧ Ow 1 9 RS w.heap.size wr (.slice a3 c.im.length d3) c.im ∧ Ow 3 103 RF w.heap.size wr (.slice a4 c.fs.length d4) c.fs ∧ OwM w w.heap.size wr (.slice a5 c.me.length d5) c.me k) (fun i _ => c.me.length - (intOf i).toNat)
  case atStart => exact ⟨0, Nat.zero_le _, rfl, B7, R7, o3b, o4b, o5b⟩
  case round =>
    clear o3b o4b o5b B7 R7 o3a o4a o3'' o4' o5 o3 o4 B6 R6 B5 R5 B4 R4 B3 R3 B2 R2 o3' i6 f6 h5 h6 f5 g4 g5 f4 c3 c4 c5 B1 R0
    obtain ⟨k, hk, rfl, B, R, oi, of, om⟩ := hrel
    have b6 := B.c 6 rfl
    by_cases hlt : k < c.me.length
    · obtain ⟨m, hm⟩ : ∃ x, c.me[k]? = some x := ⟨_, List.getElem?_eq_getElem hlt⟩
      obtain ⟨g, cur, vc, vh, rfl, hgB, hcur, hsz, s1, s2, q0, q1, q2, q3, q4, q5, q6, q7⟩ := om.at hm
      have hmm := lim_mm (HM.out m (List.mem_of_getElem? hm))
      have HC : Hid (∀ w', Ch w w' → _) := fun w' kk => ownCode_any m vc vh w' (s1.keepI kk) (s2.keepH kk) hmm.2.2.1 hmm.2.2.2.1
      obtain ⟨ac, cc, rfl, _, _⟩ := s1.form
      obtain ⟨ah, chh, rfl, _, _⟩ := s2.form
      clear s1 s2 hmm HI HF HMe
      go_wp2_with (first
        | (refine wpList_store_row rfl 66 (.tmp 4) (.tmp 24) rfl wr.heap.size #[.string m.n, .string m.d, .bool m.st, .bool m.ab, .int .i64 m.sk, .int .i64 m.lo, .slice ac m.code.length cc, .slice ah m.hs.length chh] rfl rfl 66 _ (heap_alloc_new _ _) infoM rfl (one8 _ _ _ _ _ _ _ _ _ _ _ _) ?_; rw [setRow_alloc])
        | fail)
      have hcW := B.ch
      have HB : Hid (∀ w', Ch (wr.alloc (.cells #[.string m.n, .string m.d, .bool m.st, .bool m.ab, .int .i64 m.sk, .int .i64 m.lo, .slice ac m.code.length cc, .slice ah m.hs.length chh] 66)) w' → w'.cell? ⟨w.heap.size, 6, none⟩ = some (.slice (some ⟨g, 0, none⟩) c.me.length d5) ∧ w'.cell? ⟨wr.heap.size, 0, none⟩ = some (.string m.n) ∧ w'.cell? ⟨wr.heap.size, 1, none⟩ = some (.string m.d) ∧ w'.cell? ⟨wr.heap.size, 2, none⟩ = some (.bool m.st) ∧ w'.cell? ⟨wr.heap.size, 3, none⟩ = some (.bool m.ab) ∧ w'.cell? ⟨wr.heap.size, 4, none⟩ = some (.int .i64 m.sk) ∧ w'.cell? ⟨wr.heap.size, 5, none⟩ = some (.int .i64 m.lo) ∧ w'.cell? ⟨wr.heap.size, 6, none⟩ = some (.slice ac m.code.length cc) ∧ w'.cell? ⟨wr.heap.size, 7, none⟩ = some (.slice ah m.hs.length chh)) := fun w' kk =>
        ⟨(B.call (((Ch.refl wr).alloc _).trans kk)).c 6 rfl, mthC_at (m := m) (vc := .slice ac m.code.length cc) (vh := .slice ah m.hs.length chh) (t := 66) (kept_at kk (heap_alloc_new _ _))⟩
      have HG : Hid (∀ w', Ch wr w' → w'.heap[g]? = some (.cells cur 66)) := fun w' kk => kept_at kk hcur
      have N1 : w.heap.size ≠ g := fun e => by have h1 := B.b; rw [e, hcur] at h1; simp at h1
      have N2 : wr.heap.size ≠ g := fun e => by have := (Array.getElem?_eq_some_iff.1 hcur).1; omega
      clear b6 q0 q1 q2 q3 q4 q5 q6 q7 hcur
      go_region_held3 (fun w' => w'.cell? ⟨w.heap.size, 6, none⟩ = some (.slice (some ⟨g, 0, none⟩) c.me.length d5) ∧ w'.cell? ⟨wr.heap.size, 0, none⟩ = some (.string m.n) ∧ w'.cell? ⟨wr.heap.size, 1, none⟩ = some (.string m.d) ∧ w'.cell? ⟨wr.heap.size, 2, none⟩ = some (.bool m.st) ∧ w'.cell? ⟨wr.heap.size, 3, none⟩ = some (.bool m.ab) ∧ w'.cell? ⟨wr.heap.size, 4, none⟩ = some (.int .i64 m.sk) ∧ w'.cell? ⟨wr.heap.size, 5, none⟩ = some (.int .i64 m.lo) ∧ w'.cell? ⟨wr.heap.size, 6, none⟩ = some (.slice ac m.code.length cc) ∧ w'.cell? ⟨wr.heap.size, 7, none⟩ = some (.slice ah m.hs.length chh)) (first | (with_reducible exact hS) | (with_reducible (refine HB.out _ ?_; (repeat (first | exact Ch.refl _ | refine Ch.drew ?_ | refine Ch.alloc ?_ _ | refine Ch.trans ?_ (by assumption))); done)) | (with_reducible exact ⟨far8 N1 hS.1, far8 N2 hS.2.1, far8 N2 hS.2.2.1, far8 N2 hS.2.2.2.1, far8 N2 hS.2.2.2.2.1, far8 N2 hS.2.2.2.2.2.1, far8 N2 hS.2.2.2.2.2.2.1, far8 N2 hS.2.2.2.2.2.2.2.1, far8 N2 hS.2.2.2.2.2.2.2.2⟩) | fail) (first
        | (go_at_call 172; (with_reducible refine (HC.out _ (hcW.trans (Ch.trans ((Ch.refl wr).alloc _) (by repeat (first | exact Ch.refl _ | refine Ch.drew ?_ | refine Ch.alloc ?_ _ | refine Ch.trans ?_ (by assumption)))))).mono ?_); rintro e w3 ⟨vc', vh', rfl, n1, n2, c3⟩; have n1 := n1.base (B' := w.heap.size) (Ch.size (hcW.trans (Ch.trans ((Ch.refl wr).alloc _) (by repeat (first | exact Ch.refl _ | refine Ch.drew ?_ | refine Ch.alloc ?_ _ | refine Ch.trans ?_ (by assumption)))))); have n2 := n2.base (B' := w.heap.size) (Ch.size (hcW.trans (Ch.trans ((Ch.refl wr).alloc _) (by repeat (first | exact Ch.refl _ | refine Ch.drew ?_ | refine Ch.alloc ?_ _ | refine Ch.trans ?_ (by assumption)))))); obtain ⟨a7, d7, rfl⟩ := n1.form; obtain ⟨a8, d8, rfl⟩ := n2.form; have hc5 : Ch (wr.alloc (.cells #[.string m.n, .string m.d, .bool m.st, .bool m.ab, .int .i64 m.sk, .int .i64 m.lo, .slice ac m.code.length cc, .slice ah m.hs.length chh] 66)) w3 := (by repeat (first | exact Ch.refl _ | refine Ch.drew ?_ | refine Ch.alloc ?_ _ | refine Ch.trans ?_ (by assumption))); have hS := HB.out w3 hc5; have hc4 : Ch wr w3 := ((Ch.refl wr).alloc _).trans hc5; clear hc5; obtain ⟨u0, u1, u2, u3, u4, u5, u6, u7, r0, r1, r2, r3, r4, r5, r6, r7, z0, z1, z2, z3, z4, z5, z6, z7⟩ := row8 (HG.out w3 hc4) (k * 8) (by omega))
        | fail)
      obtain ⟨om', tg⟩ := (om.keep hc4).set hm (cs := [.string m.n, .string m.d, .bool m.st, .bool m.ab, .int .i64 m.sk, .int .i64 m.lo, .slice a7 m.code.length d7, .slice a8 m.hs.length d8]) rfl ⟨_, _, rfl, n1, n2⟩
      clear r0 r1 r2 r3 r4 r5 r6 r7 z0 z1 z2 z3 z4 z5 z6 z7 hS
      simp only [World.setCells, Nat.add_assoc, Nat.reduceAdd] at om' tg
      generalize ((((((((w3.setCell ⟨g, k * 8, none⟩ (.string m.n)).setCell ⟨g, k * 8 + 1, none⟩ (.string m.d)).setCell ⟨g, k * 8 + 2, none⟩ (.bool m.st)).setCell ⟨g, k * 8 + 3, none⟩ (.bool m.ab)).setCell ⟨g, k * 8 + 4, none⟩ (.int .i64 m.sk)).setCell ⟨g, k * 8 + 5, none⟩ (.int .i64 m.lo)).setCell ⟨g, k * 8 + 6, none⟩ (.slice a7 m.code.length d7)).setCell ⟨g, k * 8 + 7, none⟩ (.slice a8 m.hs.length d8)) = W4 at *
      have hcur := HG.out w3 hc4
      have B' := (B.call hc4).tg tg N1 hgB
      have R' := (R.call hc4).tg tg (fun e => by have h1 := (R.call hc4).b; rw [e, hcur] at h1; simp at h1) hgB
      have oi' : Ow 1 9 RS w.heap.size _ _ _ := (oi.keepS hc4).tg tg hcur (by decide) (fun _ _ x => x)
      have of' : Ow 3 103 RF w.heap.size _ _ _ := (of.keepF hc4).tg tg hcur (by decide) (fun _ _ x => x)
      go_wp2_with fail
      go_roundw
      case rel => exact ⟨k + 1, by omega, by go_num, B', R', oi', of', om'⟩
      case measure => simp [intOf]; omega
    · obtain rfl : k = c.me.length := by omega
      have b0 := B.c 0 rfl
      have b1 := B.c 1 rfl
      have b2 := B.c 2 rfl
      have b3 := B.c 3 rfl
      have b4 := B.c 4 rfl
      have b5 := B.c 5 rfl
      go_wp2_with (first
        | (refine wpList_store_row rfl 41 (.tmp 2) (.tmp 32) rfl (w.heap.size + 1) #[.string c.n, .string c.s, .bool c.it, .bool c.ab, .slice a3 c.im.length d3, .slice a4 c.fs.length d4, .slice a5 c.me.length d5] rfl rfl 41 _ R.b infoC rfl (one7 _ _ _ _ _ _ _ _ _ _ _ _ _) ?_))
      have R6 := R.setRow #[.string c.n, .string c.s, .bool c.it, .bool c.ab, .slice a3 c.im.length d3, .slice a4 c.fs.length d4, .slice a5 c.me.length d5]
      refine bodyPost_ret (results_cell_row rfl _ _ (w.heap.size + 1) 41 _ (0, 0) _ rfl R6.b Tryz.underlying41 rfl infoC) rfl ?_
      refine ⟨_, _, _, rfl, ⟨oi.rowS _ R.b (by decide), of.rowF _ R.b (by decide), om.all.rowM _ R.b (by decide) (by decide) (by decide)⟩, R6.ch⟩
end Go.Proofs.YthmepecmeambmaaGreat
