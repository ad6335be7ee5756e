/- The given classes. -/
/- Rows of classes of one's own; the given ones. -/
import Derived.Test.YthmepecmeambmaaGreatKLkG
import Derived.Test.YthmepecmeambmaaGreatKLkB
import Derived.Test.YthmepecmeambmaaGreatKMeth
namespace Go.Proofs.YthmepecmeambmaaGreat
open Go.RowKit
set_option linter.unusedVariables false

/-- A row that was written out. -/
theorem Ow.lit {α : Type} {k : Nat} {e : TypeId} {R : World → List Value → α → Prop} {B : Nat} {w : World} {g : Nat} {cs : Array Value} {xs : List α} (n : Nat) (hn : xs.length = n) (hg : w.heap[g]? = some (.cells cs e)) (hB : B ≤ g) (C : Nat → List Value) (hC : ∀ i, (C i).length = k)
    (hcs : cs.toList = (List.range n).flatMap C) (hm : n ≤ 1000) (hR : ∀ i a, xs[i]? = some a → R w (C i) a) : Ow k e R B w (.slice (some ⟨g, 0, none⟩) n n) xs := by
  subst hn
  have hl : cs.size = xs.length * k := by rw [← Array.length_toList, hcs, fk_len hC, List.length_range]
  exact ⟨C, hC, ⟨by rw [fk_len hC, List.length_range], Or.inr ⟨g, _, cs, rfl, hB, hg, Nat.le_refl _, by unfold maxLen; omega, hl, by rw [List.take_of_length_le (by rw [Array.length_toList]; omega), hcs]⟩⟩, hR⟩
theorem Ow.one {α : Type} {k : Nat} {e : TypeId} {R : World → List Value → α → Prop} {B : Nat} {w : World} {g : Nat} {cs : Array Value} {a : α} (hg : w.heap[g]? = some (.cells cs e)) (hB : B ≤ g) (hk : cs.size = k) (hR : R w cs.toList a) : Ow k e R B w (.slice (some ⟨g, 0, none⟩) 1 1) [a] :=
  Ow.lit 1 rfl hg hB (fun _ => cs.toList) (fun _ => by simpa using hk) (by simp) (by omega) (fun i b hi => by
    match i, hi with
    | 0, hi => cases hi; exact hR)

set_option maxHeartbeats 1000000 in
theorem onlyReturn_any (w : World) : Calls Tryz.prog 186 #[] w fun e w' => ∃ v, e = .returned v ∧ Ow 6 62 RI w.heap.size w' v [retI] ∧ Ch w w' := by
  go_enter Tryz.func186, Tryz.ntmps186
  go_wp2
  go_ret
  exact ⟨_, rfl, Ow.one (heap_alloc_new _ _) (Nat.le_refl _) rfl rfl, (Ch.refl w).alloc _⟩

set_option maxHeartbeats 4000000 in
theorem withInit_any (n s : ByteArray) (w : World) :
    Calls Tryz.prog 111 #[.string n, .string s] w fun e w' => ∃ vi vf vm, e = .returned (.agg #[.string n, .string s, .bool false, .bool false, vi, vf, vm]) ∧ OwC w.heap.size w' (initC n s) vi vf vm ∧ Ch w w' := by
  have R0 := Bo.new (Ch.refl w) #[.string ⟨#[]⟩, .string ⟨#[]⟩, .bool false, .bool false, .slice none 0 0, .slice none 0 0, .slice none 0 0] 41
  go_enter Tryz.func111, Tryz.ntmps111
  go_wp2_with (first
    | (go_at_call 186; (with_reducible refine (onlyReturn_any _).mono ?_); rintro e w3 ⟨v3, rfl, o3, c3⟩; obtain ⟨a3, d3, rfl⟩ := o3.form; have R1 := R0.call c3; have R2 := R1.call ((Ch.refl w3).alloc (.cells #[.string nInit, .string dV, .bool false, .bool false, .int .i64 0, .int .i64 1, .slice a3 1 d3, .slice none 0 0] 66)))
    | (refine wpList_store_row rfl 41 (.tmp 4) (.tmp 10) rfl w.heap.size #[.string n, .string s, .bool false, .bool false, .slice none 0 0, .slice none 0 0, .slice (some ⟨w3.heap.size, 0, none⟩) 1 1] rfl rfl 41 _ R2.b infoC rfl (one7 _ _ _ _ _ _ _ _ _ _ _ _ _) ?_)
    | fail)
  have R3 := R2.setRow #[.string n, .string s, .bool false, .bool false, .slice none 0 0, .slice none 0 0, .slice (some ⟨w3.heap.size, 0, none⟩) 1 1]
  refine bodyPost_ret (results_cell_row rfl _ _ w.heap.size 41 _ (0, 0) _ rfl R3.b Tryz.underlying41 rfl infoC) rfl ?_
  have o4 := ((o3.keepI ((Ch.refl w3).alloc _)).rowI #[.string n, .string s, .bool false, .bool false, .slice none 0 0, .slice none 0 0, .slice (some ⟨w3.heap.size, 0, none⟩) 1 1] R2.b (by decide)).base (B' := w.heap.size) (by simp)
  have hlt := R1.lt
  refine ⟨_, _, _, rfl, ⟨Ow.nil, Ow.nil, Ow.one ((setRow_other _ _ _ _ (by omega)).trans (heap_alloc_new _ _)) (by omega) rfl ⟨_, _, rfl, o4, Ow.nil⟩⟩, R3.ch⟩

set_option maxHeartbeats 4000000 in
theorem task_any (w : World) :
    Calls Tryz.prog 112 #[] w fun e w' => ∃ vi vf vm, e = .returned (.agg #[.string nTask, .string nObject, .bool true, .bool true, vi, vf, vm]) ∧ OwC w.heap.size w' taskC vi vf vm ∧ Ch w w' := by
  have R0 := Bo.new (Ch.refl w) #[.string ⟨#[]⟩, .string ⟨#[]⟩, .bool false, .bool false, .slice none 0 0, .slice none 0 0, .slice none 0 0] 41
  have R2 := R0.call ((Ch.refl _).alloc (.cells #[.string runM.n, .string dV, .bool false, .bool true, .int .i64 0, .int .i64 0, .slice none 0 0, .slice none 0 0] 66))
  have hsz : (w.alloc (.cells #[.string ⟨#[]⟩, .string ⟨#[]⟩, .bool false, .bool false, .slice none 0 0, .slice none 0 0, .slice none 0 0] 41)).heap.size = w.heap.size + 1 := by simp
  go_enter Tryz.func112, Tryz.ntmps112
  go_wp2_with (first
    | (refine wpList_store_row rfl 41 (.tmp 0) (.tmp 3) rfl w.heap.size #[.string nTask, .string nObject, .bool true, .bool true, .slice none 0 0, .slice none 0 0, .slice (some ⟨w.heap.size + 1, 0, none⟩) 1 1] rfl rfl 41 _ R2.b infoC rfl (one7 _ _ _ _ _ _ _ _ _ _ _ _ _) ?_)
    | fail)
  have R3 := R2.setRow #[.string nTask, .string nObject, .bool true, .bool true, .slice none 0 0, .slice none 0 0, .slice (some ⟨w.heap.size + 1, 0, none⟩) 1 1]
  refine bodyPost_ret (results_cell_row rfl _ _ w.heap.size 41 _ (0, 0) _ rfl R3.b Tryz.underlying41 rfl infoC) rfl ?_
  refine ⟨_, _, _, rfl, ⟨Ow.nil, Ow.nil, Ow.one (cs := #[.string runM.n, .string dV, .bool false, .bool true, .int .i64 0, .int .i64 0, .slice none 0 0, .slice none 0 0]) ((setRow_other _ _ _ _ (by omega)).trans (by rw [← hsz]; exact heap_alloc_new _ _)) (by omega) rfl ⟨_, _, rfl, Ow.nil, Ow.nil⟩⟩, R3.ch⟩

set_option maxHeartbeats 4000000 in
theorem native_any (n d : ByteArray) (ps : List (List UInt8)) (r : List UInt8) (hm : meth (bl d) = some (ps, r)) (hdz : d.size ≤ 1000) (w : World) :
    Calls Tryz.prog 187 #[.string n, .string d] w fun e w' => ∃ vc, e = .returned (.agg #[.string n, .string d, .bool true, .bool false, .int .i64 0, .int .i64 (ps.length : Int), vc, .slice none 0 0]) ∧ Ow 6 62 RI w.heap.size w' vc [retI] ∧ Ch w w' := by
  have hme : ∀ W, Calls Tryz.prog 207 #[.string d] W fun e w' => ∃ v, e = .returned (.tuple #[v, .string (ms r), .int .i64 0]) ∧ w'.ownsRow W.heap.size 9 1 v ps.length (ps.map strV) ∧ Ch W w' := fun W => by
    have := method_any d W (by omega)
    rw [hm] at this
    refine this.mono fun e w' h => ?_
    obtain ⟨h1, ⟨h2, _⟩ | ⟨q, v, h2, h3, h4⟩⟩ := h
    · cases h2
    · cases h2; exact ⟨v, h3, h4, h1⟩
  have R0 := Bo.new (Ch.refl w) #[.string ⟨#[]⟩, .string ⟨#[]⟩, .bool false, .bool false, .int .i64 0, .int .i64 0, .slice none 0 0, .slice none 0 0] 66
  clear hm
  go_enter Tryz.func187, Tryz.ntmps187
  go_wp2_with (first
    | (go_at_call 207; (with_reducible refine (hme _).mono ?_); rintro e w2 ⟨v2, rfl, ho2, hc2⟩; obtain ⟨a2, d2, rfl⟩ := own_form ho2; have R1 := R0.call hc2)
    | (go_at_call 261; (with_reducible refine (words_any _ ps _ _ ho2).mono ?_); rintro e w' ⟨rfl, hw⟩; have hw := hw.symm; subst hw)
    | (go_at_call 186; (with_reducible refine (onlyReturn_any _).mono ?_); rintro e w3 ⟨v3, rfl, o3, c3⟩; obtain ⟨a3, d3, rfl⟩ := o3.form; have R2 := R1.call c3)
    | (refine wpList_store_row rfl 66 (.tmp 4) (.tmp 19) rfl w.heap.size #[.string n, .string d, .bool true, .bool false, .int .i64 0, .int .i64 (ps.length : Int), .slice a3 1 d3, .slice none 0 0] rfl rfl 66 _ R2.b infoM rfl (one8 _ _ _ _ _ _ _ _ _ _ _ _) ?_)
    | fail)
  have R3 := R2.setRow #[.string n, .string d, .bool true, .bool false, .int .i64 0, .int .i64 (ps.length : Int), .slice a3 1 d3, .slice none 0 0]
  refine bodyPost_ret (results_cell_row rfl _ _ w.heap.size 66 _ (0, 0) _ rfl R3.b Tryz.underlying66 rfl infoM) rfl ?_
  exact ⟨_, rfl, (o3.rowI _ R2.b (by decide)).base R1.ch.size, R3.ch⟩

theorem m_pick : meth (bl ⟨#[40, 41, 73]⟩) = some ([], [73]) := by decide +kernel
theorem m_echo : meth (bl ⟨#[40, 76, 79, 98, 106, 101, 99, 116, 59, 41, 76, 79, 98, 106, 101, 99, 116, 59]⟩) = some ([[76, 79, 98, 106, 101, 99, 116, 59]], [76, 79, 98, 106, 101, 99, 116, 59]) := by decide +kernel
theorem m_fresh : meth (bl ⟨#[40, 41, 76, 79, 98, 106, 101, 99, 116, 59]⟩) = some ([], [76, 79, 98, 106, 101, 99, 116, 59]) := by decide +kernel
theorem m_call : meth (bl ⟨#[40, 76, 84, 97, 115, 107, 59, 41, 86]⟩) = some ([[76, 84, 97, 115, 107, 59]], [86]) := by decide +kernel
set_option maxHeartbeats 8000000 in
set_option maxRecDepth 100000 in
theorem sys_any (w : World) :
    Calls Tryz.prog 113 #[] w fun e w' => ∃ vi vf vm, e = .returned (.agg #[.string nSys, .string nObject, .bool false, .bool true, vi, vf, vm]) ∧ OwC w.heap.size w' sysC vi vf vm ∧ Ch w w' := by
  have R0 := Bo.new (Ch.refl w) #[.string ⟨#[]⟩, .string ⟨#[]⟩, .bool false, .bool false, .slice none 0 0, .slice none 0 0, .slice none 0 0] 41
  go_enter Tryz.func113, Tryz.ntmps113
  go_wp2_with (first
    | (go_at_call 187; (with_reducible refine (native_any ⟨#[112, 105, 99, 107]⟩ ⟨#[40, 41, 73]⟩ _ _ m_pick (by decide) _).mono ?_); rintro e w1 ⟨v1, rfl, o1, c1⟩; obtain ⟨a1, d1, rfl⟩ := o1.form; have R1 := R0.call c1)
    | (go_at_call 187; (with_reducible refine (native_any ⟨#[101, 99, 104, 111]⟩ ⟨#[40, 76, 79, 98, 106, 101, 99, 116, 59, 41, 76, 79, 98, 106, 101, 99, 116, 59]⟩ _ _ m_echo (by decide) _).mono ?_); rintro e w2 ⟨v2, rfl, o2, c2⟩; obtain ⟨a2, d2, rfl⟩ := o2.form; have R2 := R1.call c2)
    | (go_at_call 187; (with_reducible refine (native_any ⟨#[102, 114, 101, 115, 104]⟩ ⟨#[40, 41, 76, 79, 98, 106, 101, 99, 116, 59]⟩ _ _ m_fresh (by decide) _).mono ?_); rintro e w3 ⟨v3, rfl, o3, c3⟩; obtain ⟨a3, d3, rfl⟩ := o3.form; have R3 := R2.call c3)
    | (go_at_call 187; (with_reducible refine (native_any ⟨#[99, 97, 108, 108]⟩ ⟨#[40, 76, 84, 97, 115, 107, 59, 41, 86]⟩ _ _ m_call (by decide) _).mono ?_); rintro e w4 ⟨v4, rfl, o4, c4⟩; obtain ⟨a4, d4, rfl⟩ := o4.form; have R4 := R3.call c4)
    | (refine wpList_store_row rfl 41 (.tmp 0) (.tmp 6) rfl w.heap.size #[.string nSys, .string nObject, .bool false, .bool true, .slice none 0 0, .slice none 0 0, .slice (some ⟨w4.heap.size, 0, none⟩) 4 4] rfl rfl 41 _ (R4.call ((Ch.refl w4).alloc _)).b infoC rfl (one7 _ _ _ _ _ _ _ _ _ _ _ _ _) ?_)
    | fail)
  have k1 := ((c2.trans c3).trans c4)
  have k2 := c3.trans c4
  have q1 := fun O : Obj => (((o1.keepI k1).keepI ((Ch.refl w4).alloc O)).rowI #[.string nSys, .string nObject, .bool false, .bool true, .slice none 0 0, .slice none 0 0, .slice (some ⟨w4.heap.size, 0, none⟩) 4 4] (R4.call ((Ch.refl w4).alloc O)).b (by decide)).base (B' := w.heap.size) R0.ch.size
  have q2 := fun O : Obj => (((o2.keepI k2).keepI ((Ch.refl w4).alloc O)).rowI #[.string nSys, .string nObject, .bool false, .bool true, .slice none 0 0, .slice none 0 0, .slice (some ⟨w4.heap.size, 0, none⟩) 4 4] (R4.call ((Ch.refl w4).alloc O)).b (by decide)).base (B' := w.heap.size) R1.ch.size
  have q3 := fun O : Obj => (((o3.keepI c4).keepI ((Ch.refl w4).alloc O)).rowI #[.string nSys, .string nObject, .bool false, .bool true, .slice none 0 0, .slice none 0 0, .slice (some ⟨w4.heap.size, 0, none⟩) 4 4] (R4.call ((Ch.refl w4).alloc O)).b (by decide)).base (B' := w.heap.size) R2.ch.size
  have q4 := fun O : Obj => ((o4.keepI ((Ch.refl w4).alloc O)).rowI #[.string nSys, .string nObject, .bool false, .bool true, .slice none 0 0, .slice none 0 0, .slice (some ⟨w4.heap.size, 0, none⟩) 4 4] (R4.call ((Ch.refl w4).alloc O)).b (by decide)).base (B' := w.heap.size) R3.ch.size
  have R5 := fun O : Obj => (R4.call ((Ch.refl w4).alloc O)).setRow #[.string nSys, .string nObject, .bool false, .bool true, .slice none 0 0, .slice none 0 0, .slice (some ⟨w4.heap.size, 0, none⟩) 4 4]
  have hlt := R4.lt
  have hle := R4.ch.size
  refine bodyPost_ret (results_cell_row rfl _ _ w.heap.size 41 _ (0, 0) _ rfl (R5 _).b Tryz.underlying41 rfl infoC) rfl ?_
  refine ⟨_, _, _, rfl, ⟨Ow.nil, Ow.nil, Ow.lit 4 rfl ((setRow_other _ _ _ _ (by omega)).trans (heap_alloc_new _ _)) (by omega) (fun i => match i with
    | 0 => [.string ⟨#[112, 105, 99, 107]⟩, .string ⟨#[40, 41, 73]⟩, .bool true, .bool false, .int .i64 0, .int .i64 0, .slice a1 1 d1, .slice none 0 0]
    | 1 => [.string ⟨#[101, 99, 104, 111]⟩, .string ⟨#[40, 76, 79, 98, 106, 101, 99, 116, 59, 41, 76, 79, 98, 106, 101, 99, 116, 59]⟩, .bool true, .bool false, .int .i64 0, .int .i64 1, .slice a2 1 d2, .slice none 0 0]
    | 2 => [.string ⟨#[102, 114, 101, 115, 104]⟩, .string ⟨#[40, 41, 76, 79, 98, 106, 101, 99, 116, 59]⟩, .bool true, .bool false, .int .i64 0, .int .i64 0, .slice a3 1 d3, .slice none 0 0]
    | _ => [.string ⟨#[99, 97, 108, 108]⟩, .string ⟨#[40, 76, 84, 97, 115, 107, 59, 41, 86]⟩, .bool true, .bool false, .int .i64 0, .int .i64 1, .slice a4 1 d4, .slice none 0 0]) (fun i => by
      match i with
      | 0 => rfl
      | 1 => rfl
      | 2 => rfl
      | _ + 3 => rfl) rfl (by omega) (fun i m hi => by
      match i, hi with
      | 0, hi => cases hi; exact ⟨_, _, rfl, q1 _, Ow.nil⟩
      | 1, hi => cases hi; exact ⟨_, _, rfl, q2 _, Ow.nil⟩
      | 2, hi => cases hi; exact ⟨_, _, rfl, q3 _, Ow.nil⟩
      | 3, hi => cases hi; exact ⟨_, _, rfl, q4 _, Ow.nil⟩)⟩, (R5 _).ch⟩
end Go.Proofs.YthmepecmeambmaaGreat
namespace Go.Proofs.YthmepecmeambmaaGreat
open Go.RowKit
set_option linter.unusedVariables false

def RCo (B : Nat) (w : World) (cs : List Value) (c : Cls) : Prop := ∃ vi vf vm, cs = [.string c.n, .string c.s, .bool c.it, .bool c.ab, vi, vf, vm] ∧ OwC B w c vi vf vm
theorem RCo.keep {B : Nat} {w w' : World} {cs : List Value} {c : Cls} (h : RCo B w cs c) (k : Ch w w') : RCo B w' cs c := by
  obtain ⟨vi, vf, vm, h1, h2⟩ := h
  exact ⟨vi, vf, vm, h1, h2.keep k⟩
theorem OwC.base {B B' : Nat} {w : World} {c : Cls} {vi vf vm : Value} (h : OwC B w c vi vf vm) (hb : B' ≤ B) : OwC B' w c vi vf vm :=
  ⟨h.i.base hb, h.f.base hb, (h.m.imp fun _ _ x => x.base hb).base hb⟩
theorem RCo.base {B B' : Nat} {w : World} {cs : List Value} {c : Cls} (h : RCo B w cs c) (hb : B' ≤ B) : RCo B' w cs c := by
  obtain ⟨vi, vf, vm, h1, h2⟩ := h
  exact ⟨vi, vf, vm, h1, h2.base hb⟩
theorem RCo.k {B : Nat} {w : World} {cs : List Value} {c : Cls} (h : RCo B w cs c) : cs.length = 7 ∧ ∀ u ∈ cs, u.oneCell' = true := by
  obtain ⟨vi, vf, vm, rfl, h1⟩ := h
  obtain ⟨a1, c1, rfl⟩ := h1.i.form
  obtain ⟨a2, c2, rfl⟩ := h1.f.form
  obtain ⟨a3, c3, rfl⟩ := h1.m.form
  exact ⟨rfl, by simp [Value.oneCell']⟩
/-- A row of another type has grown. -/
theorem Ow.grown {α : Type} {k : Nat} {e : TypeId} {R R' : World → List Value → α → Prop} {B : Nat} {w w' : World} {v : Value} {xs : List α} (h : Ow k e R B w v xs) {row : Option Nat} {T : TypeId} (hg : w.grownBy w' row) (hr : ∀ g, row = some g → ∃ cs, w.heap[g]? = some (.cells cs T)) (hT : T ≠ e) (hR : ∀ cs a, R w cs a → R' w' cs a) : Ow k e R' B w' v xs := by
  obtain ⟨C, h1, h2, h3⟩ := h
  refine ⟨C, h1, ownsRow_same h2 (fun g' hg' => hg.block g' (h2.lt g' hg').2 (fun q => ?_)), fun i a hi => hR _ _ (h3 i a hi)⟩
  obtain ⟨_, cur, hc⟩ := own_objG h2 hg'
  obtain ⟨cs, hcs⟩ := hr g' q.symm
  rw [hcs] at hc
  exact hT (by simpa using (by simpa using hc : _ ∧ _).2)
theorem RMo.grown {B : Nat} {w w' : World} {cs : List Value} {m : Mth} (h : RMo B w cs m) {row : Option Nat} {T : TypeId} (hg : w.grownBy w' row) (hr : ∀ g, row = some g → ∃ cs, w.heap[g]? = some (.cells cs T)) (h1 : T ≠ 62) (h2 : T ≠ 124) : RMo B w' cs m := by
  obtain ⟨vc, vh, e, q1, q2⟩ := h
  exact ⟨vc, vh, e, q1.grown hg hr h1 (fun _ _ x => x), q2.grown hg hr h2 (fun _ _ x => x)⟩
theorem RCo.grown {B : Nat} {w w' : World} {cs : List Value} {c : Cls} (h : RCo B w cs c) {row : Option Nat} (hg : w.grownBy w' row) (hr : ∀ g, row = some g → ∃ cs, w.heap[g]? = some (.cells cs 41)) : RCo B w' cs c := by
  obtain ⟨vi, vf, vm, e, q⟩ := h
  exact ⟨vi, vf, vm, e, q.i.grown hg hr (by decide) (fun _ _ x => x), q.f.grown hg hr (by decide) (fun _ _ x => x), q.m.grown hg hr (by decide) (fun _ _ x => x.grown hg hr (by decide) (by decide))⟩
/-- A row of classes of one's own. -/
def Oc (B : Nat) (w : World) (v : Value) (L : List Cls) : Prop := Ow 7 41 (RCo B) B w v L
theorem Oc.keep {B : Nat} {w w' : World} {v : Value} {L : List Cls} (h : Oc B w v L) (k : Ch w w') : Oc B w' v L := Ow.keep h (fun _ _ x => x.keep k) k
theorem fm_congr {f g : Nat → List Value} : ∀ {l : List Nat}, (∀ x ∈ l, f x = g x) → l.flatMap f = l.flatMap g
  | [], _ => rfl
  | x :: l, h => by rw [List.flatMap_cons, List.flatMap_cons, h x (by simp), fm_congr fun y hy => h y (List.mem_cons_of_mem _ hy)]
theorem flat_app (C D : Nat → List Value) (n m : Nat) : (List.range n).flatMap C ++ (List.range m).flatMap D = (List.range (n + m)).flatMap (fun i => if i < n then C i else D (i - n)) := by
  rw [List.range_add, List.flatMap_append, List.flatMap_map]
  congr 1
  · refine fm_congr fun i hi => ?_
    rw [if_pos (by simpa using hi)]
  · refine fm_congr fun i hi => ?_
    rw [if_neg (by omega), show n + i - n = i from by omega]
theorem infC : (Tryz.prog.info? 41).map (fun i => (i.zero, i.size, i.bytes)) = some (some (.agg #[.string ⟨#[]⟩, .string ⟨#[]⟩, .bool false, .bool false, .slice none 0 0, .slice none 0 0, .slice none 0 0]), 7, 112) := by kernel_rfl
theorem Oc.append {B : Nat} {w : World} {v : Value} {L NL : List Cls} (h : Oc B w v L) {ops : Array Oper} {rest : List Oper} {o : Oper} {a : Act} {Q : Exit → Act → World → Prop} (hgd : o.guard = none) (s x : Operand)
    (ho : o.op = .call { callee := .builtin .append, args := #[s, x], argTypes := #[22, 22] }) (hs : a.eval s = v) (D : Nat → List Value) (hD : ∀ i c, NL[i]? = some c → RCo B w (D i) c) (hD7 : ∀ i, (D i).length = 7)
    (g m c : Nat) (hx : a.eval x = .slice (some ⟨g, 0, none⟩) m c) (hm : NL.length = m) (hg : w.heap[g]? = some (.cells ((List.range m).flatMap D).toArray 41)) (hL : L.length + m ≤ 1000) (hB : B ≤ w.heap.size) {w0 : World} (hB0 : w0.heap.size ≤ B) (hc : Ch w0 w)
    (K : ∀ v' w', Oc B w' v' (L ++ NL) → Ch w0 w' → (∀ (g : Nat) (cs : Array Value) (T : TypeId), w.heap[g]? = some (Obj.cells cs T) → T ≠ 41 → w'.heap[g]? = some (Obj.cells cs T)) → wpList Tryz.prog ops Q rest (a.put o.dst v') w') : wpList Tryz.prog ops Q (o :: rest) a w := by
  obtain ⟨i0, hi, hz0, hz1, hz2⟩ := info_parts infC
  obtain ⟨C, h1, h2, h3⟩ := h
  subst hm
  have hnl : ((List.range NL.length).flatMap D).length = NL.length * 7 := by rw [fk_len hD7, List.length_range]
  refine wpList_append_own_at _ hgd s x 22 ho B 41 i0 (.agg #[.string ⟨#[]⟩, .string ⟨#[]⟩, .bool false, .bool false, .slice none 0 0, .slice none 0 0, .slice none 0 0]) 7 112 Tryz.underlying22 hi hz0 hz1 hz2 rfl (by decide) v L.length _ hs h2 ⟨g, 0, none⟩ NL.length c ((List.range NL.length).flatMap D) hx hnl (fun j u hj => ?_) (fun u hu => ?_) (by unfold maxLen; omega) (by omega) hB ?_
  · have ea : (⟨g, 0, none⟩ : Addr).add j = ⟨g, j, none⟩ := by unfold Addr.add; split <;> simp_all
    rw [ea]
    simp only [World.cell?, hg]
    simpa using hj
  · obtain ⟨i, a, e1, e2⟩ := fk_mem hu
    obtain ⟨rfl, hlt⟩ := range_at e1
    exact (hD a _ (List.getElem?_eq_getElem hlt)).k.2 u e2
  · intro v' w' g1 g2 _ _
    have hrow : ∀ g, v.ownBlock = some g → ∃ cs, w.heap[g]? = some (.cells cs 41) := fun g hg => (own_objG h2 hg).2
    refine K v' w' ⟨fun i => if i < L.length then C i else D (i - L.length), fun i => by dsimp only; split; exact h1 i; exact hD7 _, ?_, fun i c hic => ?_⟩ (hc.grown g2 (fun k hk => Nat.le_trans hB0 (h2.lt k hk).1)) (fun b cs T hb hT => (g2.block b (Array.getElem?_eq_some_iff.1 hb).1 (fun q => by
      obtain ⟨cs', e⟩ := hrow b q.symm
      rw [hb] at e
      exact hT (by simpa using (by simpa using e : _ ∧ _).2))).trans hb)
    · rw [List.length_append, ← flat_app]
      exact g1
    · dsimp only
      by_cases hlt : i < L.length
      · rw [if_pos hlt]
        rw [List.getElem?_append_left hlt] at hic
        exact (h3 i c hic).grown g2 hrow
      · rw [if_neg hlt]
        rw [List.getElem?_append_right (by omega)] at hic
        exact (hD _ c hic).grown g2 hrow

theorem Oc.lit1 {B : Nat} {w : World} {g : Nat} {vi vf vm : Value} {c : Cls} (hg : w.heap[g]? = some (.cells #[.string c.n, .string c.s, .bool c.it, .bool c.ab, vi, vf, vm] 41)) (hB : B ≤ g) (h : OwC B w c vi vf vm) : Oc B w (.slice (some ⟨g, 0, none⟩) 1 1) [c] :=
  Ow.one hg hB rfl ⟨_, _, _, rfl, h⟩
/-- Two of them. -/
def two (a b : List Value) : Nat → List Value
  | 0 => a
  | _ => b
theorem Oc.lit2 {B : Nat} {w : World} {g : Nat} {cs : Array Value} {c d : Cls} {a b : List Value} (hg : w.heap[g]? = some (.cells cs 41)) (hcs : cs.toList = a ++ b) (hB : B ≤ g) (h1 : RCo B w a c) (h2 : RCo B w b d) : Oc B w (.slice (some ⟨g, 0, none⟩) 2 2) [c, d] :=
  Ow.lit 2 rfl hg hB (two a b) (fun i => by
    match i with
    | 0 => exact h1.k.1
    | _ + 1 => exact h2.k.1) (by rw [hcs]; simp [List.range_succ, two]) (by omega) (fun i x hi => by
    match i, hi with
    | 0, hi => cases hi; exact h1
    | 1, hi => cases hi; exact h2)
def gv (k : Nat) : List Cls := [initC nObject nNone, initC nThrow nObject] ++ (exN.take k).map (fun n => initC n nThrow)
theorem gv_succ {k : Nat} {n : ByteArray} (h : exN[k]? = some n) : gv (k + 1) = gv k ++ [initC n nThrow] := by
  unfold gv
  obtain ⟨hlt, hn⟩ := List.getElem?_eq_some_iff.1 h
  rw [List.take_succ_eq_append_getElem hlt, hn, List.map_append, List.append_assoc]
  rfl
theorem gv_all : gv 8 ++ [taskC, sysC] = given := rfl
theorem gv_len (k : Nat) (h : k ≤ 8) : (gv k).length = 2 + k := by
  unfold gv
  have : exN.length = 8 := rfl
  simp
  omega

set_option maxHeartbeats 16000000 in
set_option maxRecDepth 100000 in
theorem builtin_any (w : World) : Calls Tryz.prog 41 #[] w fun e w' => ∃ v, e = .returned v ∧ Oc w.heap.size w' v given ∧ Ch w w' := by
  go_enter Tryz.func41, Tryz.ntmps41
  go_wp2_with (first
    | (go_at_call 111; (with_reducible refine (withInit_any nObject nNone w).mono ?_); rintro e w1 ⟨i1, f1, m1, rfl, o1, c1⟩)
    | (go_at_call 111; (with_reducible refine (withInit_any nThrow nObject w1).mono ?_); rintro e w2 ⟨i2, f2, m2, rfl, o2, c2⟩; obtain ⟨x1, y1, rfl⟩ := o1.i.form; obtain ⟨x2, y2, rfl⟩ := o1.f.form; obtain ⟨x3, y3, rfl⟩ := o1.m.form; obtain ⟨x4, y4, rfl⟩ := o2.i.form; obtain ⟨x5, y5, rfl⟩ := o2.f.form; obtain ⟨x6, y6, rfl⟩ := o2.m.form)
    | fail)
  have q1 : ∀ O, RCo w.heap.size (w2.alloc O) [.string nObject, .string nNone, .bool false, .bool false, .slice x1 0 y1, .slice x2 0 y2, .slice x3 1 y3] (initC nObject nNone) := fun O => ⟨_, _, _, rfl, (o1.keep c2).keep ((Ch.refl w2).alloc O)⟩
  have q2 : ∀ O, RCo w.heap.size (w2.alloc O) [.string nThrow, .string nObject, .bool false, .bool false, .slice x4 0 y4, .slice x5 0 y5, .slice x6 1 y6] (initC nThrow nObject) := fun O => ⟨_, _, _, rfl, (o2.base c1.size).keep ((Ch.refl w2).alloc O)⟩
  have hO := Oc.lit2 (heap_alloc_new w2 (.cells #[.string nObject, .string nNone, .bool false, .bool false, .slice x1 0 y1, .slice x2 0 y2, .slice x3 1 y3, .string nThrow, .string nObject, .bool false, .bool false, .slice x4 0 y4, .slice x5 0 y5, .slice x6 1 y6] 41)) rfl (Nat.le_trans c1.size c2.size) (q1 _) (q2 _)
  clear q1 q2 o1 o2
  have hN : ((w2.alloc (.cells #[.string nObject, .string nNone, .bool false, .bool false, .slice x1 0 y1, .slice x2 0 y2, .slice x3 1 y3, .string nThrow, .string nObject, .bool false, .bool false, .slice x4 0 y4, .slice x5 0 y5, .slice x6 1 y6] 41)).alloc (.cells (exN.map Value.string).toArray 9)).heap[w2.heap.size + 1]? = some (.cells (exN.map Value.string).toArray 9) := by
    have := heap_alloc_new (w2.alloc (.cells #[.string nObject, .string nNone, .bool false, .bool false, .slice x1 0 y1, .slice x2 0 y2, .slice x3 1 y3, .string nThrow, .string nObject, .bool false, .bool false, .slice x4 0 y4, .slice x5 0 y5, .slice x6 1 y6] 41)) (.cells (exN.map Value.string).toArray 9)
    simpa using this
  have hcW : Ch w ((w2.alloc (.cells #[.string nObject, .string nNone, .bool false, .bool false, .slice x1 0 y1, .slice x2 0 y2, .slice x3 1 y3, .string nThrow, .string nObject, .bool false, .bool false, .slice x4 0 y4, .slice x5 0 y5, .slice x6 1 y6] 41)).alloc (.cells (exN.map Value.string).toArray 9)) := ((c1.trans c2).alloc _).alloc _
  go_loopw [1, 9] (fun v i wr => ∃ k : Nat, k ≤ 8 ∧ i = .int .i64 k ∧ Oc w.heap.size wr v (gv k) ∧ Ch w wr ∧ wr.heap[w2.heap.size + 1]? = some (.cells (exN.map Value.string).toArray 9)) (fun _ i _ => 8 - (intOf i).toNat)
  case atStart => exact ⟨0, by omega, rfl, hO.keep ((Ch.refl _).alloc _), hcW, hN⟩
  case round =>
    clear hN hcW hO c1 c2
    obtain ⟨k, hk, rfl, hO, hcr, hN⟩ := hrel
    by_cases hlt : k < 8
    · obtain ⟨n, hn⟩ : ∃ n, exN[k]? = some n := ⟨_, List.getElem?_eq_getElem (show k < exN.length from hlt)⟩
      have hcell : wr.cell? ⟨w2.heap.size + 1, k, none⟩ = some (.string n) := by
        simp only [World.cell?, hN]
        simp [hn]
      have hgv := gv_succ hn
      have hgl : Hid ((gv k).length = 2 + k) := gv_len k hk
      have ad : (⟨w2.heap.size + 1, 0, none⟩ : Addr).add k = ⟨w2.heap.size + 1, k, none⟩ := by unfold Addr.add; split <;> simp_all
      have HG : Hid (gv (k + 1) = gv k ++ [initC n nThrow]) := hgv
      have HN : Hid (wr.heap[w2.heap.size + 1]? = some (.cells (exN.map Value.string).toArray 9)) := hN
      clear hn hgv hN
      obtain ⟨ao, cc, rfl⟩ := hO.form
      go_wp2_with (first
        | (go_at_call 111; (with_reducible refine (withInit_any n nThrow wr).mono ?_); rintro e w3 ⟨i3, f3, m3, rfl, o3, c3⟩; obtain ⟨x7, y7, rfl⟩ := o3.i.form; obtain ⟨x8, y8, rfl⟩ := o3.f.form; obtain ⟨x9, y9, rfl⟩ := o3.m.form)
        | (at_builtin; refine ((hO.keep c3).keep ((Ch.refl w3).alloc _)).append (NL := [initC n nThrow]) rfl (.tmp 13) (.tmp 16) rfl rfl (fun _ => [.string n, .string nThrow, .bool false, .bool false, .slice x7 0 y7, .slice x8 0 y8, .slice x9 1 y9]) (fun i c hi => ?_) (fun _ => rfl) w3.heap.size 1 1 rfl rfl (heap_alloc_new _ _) (by have := hgl.out; omega) (by have := hcr.size; have := c3.size; simp; omega) (Nat.le_refl _) ((hcr.trans c3).alloc _) ?_; (match i, hi with | 0, hi => cases hi; exact ⟨_, _, _, rfl, (o3.base hcr.size).keep ((Ch.refl w3).alloc _)⟩); intro v4 w4 o4 c4 b4)
        | fail)
      go_roundw
      case rel => exact ⟨k + 1, by omega, by go_num, by rw [HG.out]; exact o4, c4, b4 _ _ _ (kept_at (c3.alloc _) HN.out) (by decide)⟩
      case measure => simp [intOf]; omega
    · obtain rfl : k = 8 := by omega
      have hgl : Hid ((gv 8).length = 10) := rfl
      obtain ⟨ao, cc, rfl⟩ := hO.form
      clear hN hlt hk
      go_wp2_with (first
        | (go_at_call 112; (with_reducible refine (task_any wr).mono ?_); rintro e w3 ⟨i3, f3, m3, rfl, o3, c3⟩; obtain ⟨x7, y7, rfl⟩ := o3.i.form; obtain ⟨x8, y8, rfl⟩ := o3.f.form; obtain ⟨x9, y9, rfl⟩ := o3.m.form)
        | (go_at_call 113; (with_reducible refine (sys_any w3).mono ?_); rintro e w4 ⟨i4, f4, m4, rfl, o4, c4⟩; obtain ⟨x10, y10, rfl⟩ := o4.i.form; obtain ⟨x11, y11, rfl⟩ := o4.f.form; obtain ⟨x12, y12, rfl⟩ := o4.m.form)
        | (at_builtin; refine ((hO.keep (c3.trans c4)).keep ((Ch.refl w4).alloc _)).append (NL := [taskC, sysC]) rfl (.tmp 19) (.tmp 22) rfl rfl (two [.string nTask, .string nObject, .bool true, .bool true, .slice x7 0 y7, .slice x8 0 y8, .slice x9 1 y9] [.string nSys, .string nObject, .bool false, .bool true, .slice x10 0 y10, .slice x11 0 y11, .slice x12 4 y12]) (fun i c hi => ?_) (fun i => ?_) w4.heap.size 2 2 rfl rfl (heap_alloc_new _ _) (by have := hgl.out; omega) (by have := hcr.size; have := c3.size; have := c4.size; simp; omega) (Nat.le_refl _) (((hcr.trans c3).trans c4).alloc _) ?_; (match i, hi with | 0, hi => cases hi; exact ⟨_, _, _, rfl, ((o3.base hcr.size).keep c4).keep ((Ch.refl w4).alloc _)⟩ | 1, hi => cases hi; exact ⟨_, _, _, rfl, (o4.base (hcr.trans c3).size).keep ((Ch.refl w4).alloc _)⟩); (match i with | 0 => rfl | _ + 1 => rfl); intro v5 w5 o5 c5 b5)
        | fail)
      go_ret
      exact ⟨_, rfl, o5, c5⟩
end Go.Proofs.YthmepecmeambmaaGreat
