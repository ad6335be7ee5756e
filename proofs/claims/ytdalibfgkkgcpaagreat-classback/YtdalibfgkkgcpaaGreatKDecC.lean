/- The reader in memory, and the contracts of its functions. -/
/- The decoder in memory; what its smallest functions do. -/
/- What the decoder's small functions do, as functions over lists. -/
/- A struct that the decoder fills; a field. -/
import Derived.Test.YtdalibfgkkgcpaaGreatKRefR
import Derived.Test.YtdalibfgkkgcpaaGreatKAwB
import Derived.Deep.Draws
import Derived.Deep.QuietTactic
import Derived.BigQuiet
import Derived.RegionTactic
import Derived.WalkMore
import Derived.ScopeJumps
namespace Go.Proofs.YtdalibfgkkgcpaaGreat
open Go.RowKit
set_option linter.unusedVariables false

/-- Outside the blocks of S nothing that was there has turned. -/
structure Cs (S : Nat → Prop) (w w' : World) : Prop where
  os : w'.os = w.os
  tape : w'.tape = w.tape
  output : w'.output = w.output
  size : w.heap.size ≤ w'.heap.size
  block : ∀ k, k < w.heap.size → ¬ S k → w'.heap[k]? = w.heap[k]?

theorem Cs.refl (S : Nat → Prop) (w : World) : Cs S w w := ⟨rfl, rfl, rfl, Nat.le_refl _, fun _ _ _ => rfl⟩
theorem Cs.trans {S : Nat → Prop} {a b c : World} (h : Cs S a b) (k : Cs S b c) : Cs S a c :=
  ⟨k.os.trans h.os, k.tape.trans h.tape, k.output.trans h.output, Nat.le_trans h.size k.size, fun i hi hs => (k.block i (Nat.lt_of_lt_of_le hi h.size) hs).trans (h.block i hi hs)⟩
theorem Cs.mono {S T : Nat → Prop} {a b : World} (h : Cs S a b) (hst : ∀ k, k < a.heap.size → S k → T k) : Cs T a b :=
  ⟨h.os, h.tape, h.output, h.size, fun k hk hs => h.block k hk (fun x => hs (hst k hk x))⟩
theorem Cs.drewN {S : Nat → Prop} {a b : World} (h : Cs S a b) (n : Nat) : Cs S a (b.drewN n) := ⟨h.os, h.tape, h.output, h.size, h.block⟩
theorem Cs.drew {S : Nat → Prop} {a b : World} (h : Cs S a b) : Cs S a b.drew := ⟨h.os, h.tape, h.output, h.size, h.block⟩
theorem Cs.setCell {S : Nat → Prop} {a b : World} (h : Cs S a b) {p : Addr} (hp : S p.block ∨ a.heap.size ≤ p.block) (u : Value) : Cs S a (b.setCell p u) := by
  refine ⟨h.os, h.tape, h.output, ?_, fun k hk hs => ?_⟩
  · simpa [World.setCell] using h.size
  · rw [Below.heap_setCell _ _ _ _ (by rintro rfl; rcases hp with hp | hp; exact hs hp; omega)]
    exact h.block k hk hs
theorem Cs.alloc {S : Nat → Prop} {a b : World} (h : Cs S a b) (o : Obj) : Cs S a (b.alloc o) := by
  refine ⟨h.os, h.tape, h.output, ?_, fun k hk hs => ?_⟩
  · have := h.size; simp; omega
  · rw [Below.heap_alloc _ _ _ (Nat.lt_of_lt_of_le hk h.size)]
    exact h.block k hk hs
theorem Cs.grown {S : Nat → Prop} {a b c : World} {row : Option Nat} (h : Cs S a b) (hg : b.grownBy c row) (hr : ∀ k, row = some k → S k ∨ a.heap.size ≤ k) : Cs S a c :=
  ⟨hg.os.trans h.os, hg.tape.trans h.tape, hg.output.trans h.output, Nat.le_trans h.size hg.size, fun k hk hs => (hg.block k (Nat.lt_of_lt_of_le hk h.size) (fun e => by rcases hr k e.symm with x | x; exact hs x; omega)).trans (h.block k hk hs)⟩
theorem Cs.below {S : Nat → Prop} {a b : World} {B : Nat} (h : Cs S a b) (hB : B ≤ a.heap.size) (hs : ∀ k, S k → B ≤ k) : Below B a b :=
  ⟨h.os, h.tape, h.output, h.size, fun k hk => h.block k (by omega) (fun x => by have := hs k x; omega)⟩

/-- The reader at block r: its bytes, its place, whether it failed. -/
structure Rd (w : World) (r : Nat) (v : Value) (bs : List Int) (at_ : Nat) (f : Bool) : Prop where
  blk : w.heap[r]? = some (.cells #[v, .int .i64 at_, .bool f] 122 (0, 0))
  own : w.ownsRow 0 5 1 v bs.length (bs.map (Value.int .u8))
  small : ∀ x ∈ bs, 0 ≤ x ∧ x < 256
  le : at_ ≤ bs.length
  len : bs.length ≤ 140737488355328

theorem Rd.lt {w : World} {r : Nat} {v : Value} {bs : List Int} {at_ : Nat} {f : Bool} (h : Rd w r v bs at_ f) : r < w.heap.size := by
  rcases Nat.lt_or_ge r w.heap.size with hlt | hge
  · exact hlt
  · have := h.blk; rw [Array.getElem?_eq_none hge] at this; cases this

theorem Rd.ne {w : World} {r : Nat} {v : Value} {bs : List Int} {at_ : Nat} {f : Bool} (h : Rd w r v bs at_ f) : v.ownBlock ≠ some r := by
  intro e
  rcases h.own.2 with ⟨hv, _⟩ | ⟨g, cap, cur, hv, hg, hh, _⟩
  · rw [hv] at e; cases e
  · rw [hv] at e
    have : g = r := by simpa [Value.ownBlock] using e
    subst this
    rw [h.blk] at hh
    simp at hh

theorem Rd.ownlt {w : World} {r : Nat} {v : Value} {bs : List Int} {at_ : Nat} {f : Bool} (h : Rd w r v bs at_ f) {g : Nat} (hg : v.ownBlock = some g) : g < w.heap.size := (h.own.lt g hg).2

theorem Rd.keep {w w' : World} {S : Nat → Prop} {r : Nat} {v : Value} {bs : List Int} {at_ : Nat} {f : Bool} (h : Rd w r v bs at_ f) (c : Cs S w w') (hr : ¬ S r) (hv : ∀ g, v.ownBlock = some g → ¬ S g) : Rd w' r v bs at_ f :=
  ⟨(c.block r h.lt hr).trans h.blk, ownsRow_same h.own (fun g hg => c.block g (h.ownlt hg) (hv g hg)), h.small, h.le, h.len⟩

theorem Rd.c0 {w : World} {r : Nat} {v : Value} {bs : List Int} {at_ : Nat} {f : Bool} (h : Rd w r v bs at_ f) : w.cell? ⟨r, 0, none⟩ = some v := by simp [World.cell?, h.blk]
theorem Rd.c1 {w : World} {r : Nat} {v : Value} {bs : List Int} {at_ : Nat} {f : Bool} (h : Rd w r v bs at_ f) : w.cell? ⟨r, 1, none⟩ = some (.int .i64 at_) := by simp [World.cell?, h.blk]
theorem Rd.c2 {w : World} {r : Nat} {v : Value} {bs : List Int} {at_ : Nat} {f : Bool} (h : Rd w r v bs at_ f) : w.cell? ⟨r, 2, none⟩ = some (.bool f) := by simp [World.cell?, h.blk]
theorem Rd.fz {w : World} {r : Nat} {v : Value} {bs : List Int} {at_ : Nat} {f : Bool} (h : Rd w r v bs at_ f) (o : Nat) : w.frozen? ⟨r, o, none⟩ = false := by simp [World.frozen?, h.blk]

theorem Rd.set1 {w : World} {r : Nat} {v : Value} {bs : List Int} {at_ : Nat} {f : Bool} (h : Rd w r v bs at_ f) (n : Nat) (hn : n ≤ bs.length) : Rd (w.setCell ⟨r, 1, none⟩ (.int .i64 n)) r v bs n f := by
  refine ⟨?_, ownsRow_same h.own (fun g hg => ?_), h.small, hn, h.len⟩
  · simp [World.setCell, Array.getElem?_modify, h.blk]
  · exact Below.heap_setCell _ _ _ _ (fun e => h.ne (by rw [hg, e]))
theorem Rd.set2 {w : World} {r : Nat} {v : Value} {bs : List Int} {at_ : Nat} {f : Bool} (h : Rd w r v bs at_ f) (b : Bool) : Rd (w.setCell ⟨r, 2, none⟩ (.bool b)) r v bs at_ b := by
  refine ⟨?_, ownsRow_same h.own (fun g hg => ?_), h.small, h.le, h.len⟩
  · simp [World.setCell, Array.getElem?_modify, h.blk]
  · exact Below.heap_setCell _ _ _ _ (fun e => h.ne (by rw [hg, e]))
theorem Rd.drewN {w : World} {r : Nat} {v : Value} {bs : List Int} {at_ : Nat} {f : Bool} (h : Rd w r v bs at_ f) (n : Nat) : Rd (w.drewN n) r v bs at_ f := ⟨h.blk, h.own, h.small, h.le, h.len⟩

/-- Its bytes' cells. -/
theorem Rd.form {w : World} {r : Nat} {v : Value} {bs : List Int} {at_ : Nat} {f : Bool} (h : Rd w r v bs at_ f) (hn : 0 < bs.length) :
    ∃ g cap, v = .slice (some ⟨g, 0, none⟩) bs.length cap ∧ bs.length ≤ cap ∧ cap ≤ maxLen ∧ g < w.heap.size ∧ ∀ k, k < bs.length → w.cell? ⟨g, k, none⟩ = some (.int .u8 (bs.getD k 0)) := by
  rcases h.own.2 with ⟨_, h0⟩ | ⟨g, cap, cur, hv, hb, hg, hc1, hc2, hc3, ht⟩
  · omega
  · refine ⟨g, cap, hv, hc1, hc2, h.ownlt (by rw [hv]; rfl), fun k hk => ?_⟩
    simp only [World.cell?, hg]
    have e1 : (cur.toList.take (bs.length * 1))[k]? = (bs.map (Value.int .u8))[k]? := by rw [ht]
    rw [List.getElem?_take_of_lt (by omega)] at e1
    simp at e1
    simp [e1, List.getElem?_eq_getElem hk]

/-- The number of a row of bytes, the greatest first. -/
def num (l : List Int) : Int := l.foldl (fun n b => n * 256 + b) 0
theorem num_snoc (l : List Int) (b : Int) : num (l ++ [b]) = num l * 256 + b := by simp [num]
def pw : Nat → Int
  | 0 => 1
  | n + 1 => pw n * 256
theorem num_bdA (l : List Int) : ∀ (acc c : Int), (∀ x ∈ l, 0 ≤ x ∧ x < 256) → 0 ≤ acc → acc < c → 0 ≤ l.foldl (fun n b => n * 256 + b) acc ∧ l.foldl (fun n b => n * 256 + b) acc < c * pw l.length := by
  induction l with
  | nil => intro acc c _ h0 h1; simp only [List.foldl_nil, List.length_nil, pw]; omega
  | cons b l ih =>
    intro acc c h h0 h1
    have h2 := h b (by simp)
    have h3 := ih (acc * 256 + b) (c * 256) (fun x hx => h x (by simp [hx])) (by omega) (by omega)
    simp only [List.foldl_cons, List.length_cons, pw]
    rw [Int.mul_comm (pw l.length) 256, ← Int.mul_assoc]
    exact h3
theorem num_bd (l : List Int) (h : ∀ x ∈ l, 0 ≤ x ∧ x < 256) : 0 ≤ num l ∧ num l < pw l.length := by
  have := num_bdA l 0 1 h (by omega) (by omega)
  rwa [Int.one_mul] at this
theorem take_one {l : List Int} {k : Nat} (h : k < l.length) : l.take (k + 1) = l.take k ++ [l.getD k 0] := by
  rw [List.take_succ_eq_append_getElem h]; simp [h]
theorem num_step (bs : List Int) (a k : Nat) (h : a + k < bs.length) : num ((bs.drop a).take (k + 1)) = num ((bs.drop a).take k) * 256 + bs.getD (a + k) 0 := by
  rw [take_one (by simp; omega), num_snoc]
  congr 1
  simp [List.getD]
theorem num_take_bd (bs : List Int) (a k : Nat) (h : ∀ x ∈ bs, 0 ≤ x ∧ x < 256) (hk : a + k ≤ bs.length) : 0 ≤ num ((bs.drop a).take k) ∧ num ((bs.drop a).take k) < pw k := by
  have := num_bd ((bs.drop a).take k) (fun x hx => h x (List.mem_of_mem_drop (List.mem_of_mem_take hx)))
  rwa [List.length_take, List.length_drop, Nat.min_eq_left (by omega)] at this
theorem getD_bd (bs : List Int) (h : ∀ x ∈ bs, 0 ≤ x ∧ x < 256) (k : Nat) : 0 ≤ bs.getD k 0 ∧ bs.getD k 0 < 256 := by
  by_cases hk : k < bs.length
  · have := h bs[k] (List.getElem_mem hk)
    simpa [List.getD, hk] using this
  · simp [List.getD, List.getElem?_eq_none (Nat.le_of_not_lt hk)]

theorem or_u32 (n b : Int) (h0 : 0 ≤ n) (h1 : n < 16777216) (h2 : 0 ≤ b) (h3 : b < 256) : bits .or .u32 (n * 256 % 4294967296) (b % 4294967296) = n * 256 + b := by
  have e1 : n * 256 % 4294967296 = n * 256 := by omega
  have e2 : b % 4294967296 = b := by omega
  rw [e1, e2]
  exact bits_join .u32 32 (by decide) (fun m h₀ h₁ => by rw [IntKind.wrap_u32]; omega) 8 _ _ (by omega) (by omega) (by omega) (by omega) (by omega) (by omega)
theorem pw_le (k : Nat) (h : k < 4) : pw k ≤ 16777216 := by
  match k, h with
  | 0, _ => decide
  | 1, _ => decide
  | 2, _ => decide
  | 3, _ => decide
/-- A round of a reader's loop. -/
theorem num_round (bs : List Int) (a k : Nat) (h : ∀ x ∈ bs, 0 ≤ x ∧ x < 256) (hk : a + k < bs.length) (h4 : k < 4) :
    bits .or .u32 (num ((bs.drop a).take k) * 256 % 4294967296) (bs[a + k]?.getD 0 % 4294967296) = num ((bs.drop a).take (k + 1)) := by
  have h1 := num_take_bd bs a k h (by omega)
  have h2 := getD_bd bs h (a + k)
  have h3 := pw_le k h4
  rw [num_step bs a k hk]
  exact or_u32 _ _ h1.1 (by omega) h2.1 h2.2

set_option maxHeartbeats 400000 in
theorem at_any (r : Nat) (v : Value) (bs : List Int) (a : Nat) (f : Bool) (w : World) (h : Rd w r v bs a f) :
    Calls Tryz.prog 87 #[.pointer (some ⟨r, 0, none⟩)] w fun e w' => e = .returned (.int .i64 a) ∧ w' = w := by
  have h1 := h.c1
  go_enter Tryz.func87, Tryz.ntmps87
  go_wp2
  go_ret
  exact ⟨rfl, rfl⟩

set_option maxHeartbeats 400000 in
theorem left_failed (r : Nat) (v : Value) (bs : List Int) (a : Nat) (w : World) (h : Rd w r v bs a true) :
    Calls Tryz.prog 85 #[.pointer (some ⟨r, 0, none⟩)] w fun e w' => e = .returned (.int .i64 0) ∧ w' = w := by
  have h2 := h.c2
  go_enter Tryz.func85, Tryz.ntmps85
  go_wp2
  go_ret
  exact ⟨rfl, rfl⟩

set_option maxHeartbeats 400000 in
theorem left_core (r : Nat) (ao : Option Addr) (n cap a : Nat) (w : World) (h0 : w.cell? ⟨r, 0, none⟩ = some (.slice ao n cap)) (h1 : w.cell? ⟨r, 1, none⟩ = some (.int .i64 a)) (h2 : w.cell? ⟨r, 2, none⟩ = some (.bool false)) (hn : n ≤ 140737488355328) (ha : a ≤ n) :
    Calls Tryz.prog 85 #[.pointer (some ⟨r, 0, none⟩)] w fun e w' => e = .returned (.int .i64 ((n : Int) - a)) ∧ ∃ nq, w' = w.drewN nq := by
  go_enter Tryz.func85, Tryz.ntmps85
  go_wp2
  go_quiet (fail)
  go_wp2
  go_ret
  exact ⟨rfl, _, rfl⟩

theorem left_any (r : Nat) (v : Value) (bs : List Int) (a : Nat) (f : Bool) (w : World) (h : Rd w r v bs a f) :
    Calls Tryz.prog 85 #[.pointer (some ⟨r, 0, none⟩)] w fun e w' => e = .returned (.int .i64 (if f then 0 else (bs.length : Int) - a)) ∧ ∃ nq, w' = w.drewN nq := by
  cases f with
  | true => exact (left_failed r v bs a w h).mono fun e w' ⟨h1, h2⟩ => ⟨h1, 0, h2⟩
  | false =>
    rcases h.own.2 with ⟨hv, h0⟩ | ⟨g, cap, cur, hv, _⟩
    · subst hv
      have := left_core r none 0 0 a w h.c0 h.c1 h.c2 (by omega) (by have := h.le; omega)
      rw [h0]; exact this
    · subst hv
      exact left_core r _ bs.length cap a w h.c0 h.c1 h.c2 h.len h.le

theorem noGoto_jump {l : Nat} {J : Act → World → Prop} {Q : Exit → Act → World → Prop} (e : Exit) (a : Act) (w : World) (h : Exit.noGoto Q e a w) : Exit.jump l J Q e a w := by
  cases e <;> first | exact h | exact h.elim

/-- A scope in which the run may jump forward to one label, once. -/
theorem wp_scope_once {P : Program} {a : Act} {w : World} {Q : Exit → Act → World → Prop} {c rest : Code} (l : Nat) (hf : findLabel c l = some rest)
    (h : c.wp P (Exit.jump l (fun a' w' => rest.wp P (Exit.noGoto Q) a' w') Q) a w) : (Code.scope c).wp P Q a w := by
  refine wp_scope_jumps l (fun a' w' => rest.wp P (Exit.noGoto Q) a' w') (fun _ _ => 0) hf h ?_
  intro a' w' hJ b k cs
  obtain ⟨e, a₁, w₁, hq, harr⟩ := hJ b k cs
  exact ⟨e, a₁, w₁, noGoto_jump e a₁ w₁ hq, harr⟩

theorem left_any' (r : Nat) (v : Value) (bs : List Int) (a : Nat) (f : Bool) (w : World) (h : Rd w r v bs a f) (l : Int) (hl : (if f then 0 else (bs.length : Int) - a) = l) :
    Calls Tryz.prog 85 #[.pointer (some ⟨r, 0, none⟩)] w fun e w' => e = .returned (.int .i64 l) ∧ ∃ nq, w' = w.drewN nq := by
  subst hl; exact left_any r v bs a f w h

set_option maxHeartbeats 400000 in
theorem number_fail_core (r : Nat) (v : Value) (bs : List Int) (a : Nat) (f : Bool) (size : Int) (w : World) (h : Rd w r v bs a f) (l : Int) (hl : Hid ((if f then 0 else (bs.length : Int) - a) = l)) (hs : l < size) :
    Calls Tryz.prog 82 #[.pointer (some ⟨r, 0, none⟩), .int .i64 size] w fun e w' => e = .returned (.int .u32 0) ∧ Rd w' r v bs a true ∧ Cs (· = r) w w' := by
  go_enter Tryz.func82, Tryz.ntmps82
  go_wp2_with fail
  refine wp_scope_once 0 (by rfl) ?_
  go_wp2_with fail
  refine (left_any' r v bs a f _ h l hl.out).mono ?_
  rintro e w' ⟨rfl, nq, rfl⟩
  have c2 := (h.drewN nq).c2
  have cf := (h.drewN nq).fz 2
  go_wp2
  go_step3
  refine And.intro rfl ?_
  change Code.wp Tryz.prog _ _ _ _
  go_wp2
  rw [Exit.noGoto_ret]
  go_ret
  exact ⟨rfl, (h.drewN nq).set2 true, Cs.setCell (S := (· = r)) ((Cs.refl _ _).drewN nq) (Or.inl rfl) _⟩

theorem number_fail (r : Nat) (v : Value) (bs : List Int) (a : Nat) (f : Bool) (size : Int) (w : World) (h : Rd w r v bs a f) (hs : (if f then 0 else (bs.length : Int) - a) < size) :
    Calls Tryz.prog 82 #[.pointer (some ⟨r, 0, none⟩), .int .i64 size] w fun e w' => e = .returned (.int .u32 0) ∧ Rd w' r v bs a true ∧ Cs (· = r) w w' :=
  number_fail_core r v bs a f size w h _ rfl hs

set_option maxHeartbeats 400000 in
theorem number_ok_core (r g cap : Nat) (bs : List Int) (a size : Nat) (w : World) (h : Rd w r (.slice (some ⟨g, 0, none⟩) bs.length cap) bs a false) (hcap : bs.length ≤ cap)
    (hcell : ∀ k, k < bs.length → w.cell? ⟨g, k, none⟩ = some (.int .u8 (bs.getD k 0))) (h1 : 1 ≤ size) (h4 : size ≤ 4) (hle : a + size ≤ bs.length) :
    Calls Tryz.prog 82 #[.pointer (some ⟨r, 0, none⟩), .int .i64 size] w fun e w' => e = .returned (.int .u32 (num ((bs.drop a).take size))) ∧ Rd w' r (.slice (some ⟨g, 0, none⟩) bs.length cap) bs (a + size) false ∧ Cs (· = r) w w' := by
  have hlen := h.len
  obtain ⟨l, hl⟩ : ∃ l : Int, l = (bs.length : Int) - a := ⟨_, rfl⟩
  have hls : decide (l < (size : Int)) = false := by simp; omega
  have HL : Hid (l = (bs.length : Int) - a) := hl
  clear hl
  have c0 := h.c0
  have c1 := h.c1
  have cf := h.fz 1
  go_enter Tryz.func82, Tryz.ntmps82
  go_wp2_with fail
  go_step3
  go_wp2_with fail
  refine (left_any' r _ bs a false _ h l (by simp; exact HL.out.symm)).mono ?_
  rintro e w' ⟨rfl, nq, rfl⟩
  go_wp2
  go_quiet (fail)
  go_wp2
  go_loop [5, 30] (fun n i => ∃ k : Nat, k ≤ size ∧ i = .int .i64 k ∧ n = .int .u32 (num ((bs.drop a).take k))) (fun _ i => size - (intOf i).toNat)
  case atStart => exact ⟨0, Nat.zero_le _, rfl, rfl⟩
  case round =>
    obtain ⟨k, hk, rfl, rfl⟩ := hrel
    by_cases hlt : k < size
    · have hc := hcell (a + k) (by omega)
      go_wp2
      refine ⟨⟨_, _, _, ⟨k + 1, by omega, ?_, ?_⟩, rfl, rfl, rfl⟩, ?_⟩
      · go_num
      · exact congrArg (Value.int .u32) (num_round bs a k h.small (by omega) (by omega))
      · simp [intOf]; omega
    · have hks : k = size := by omega
      subst hks
      go_wp2
      go_ret
      exact ⟨rfl, (h.drewN _).set1 (a + k) hle, Cs.setCell (S := (· = r)) ((Cs.refl _ _).drewN _) (Or.inl rfl) _⟩

theorem number_ok (r : Nat) (v : Value) (bs : List Int) (a size : Nat) (w : World) (h : Rd w r v bs a false) (h1 : 1 ≤ size) (h4 : size ≤ 4) (hle : a + size ≤ bs.length) :
    Calls Tryz.prog 82 #[.pointer (some ⟨r, 0, none⟩), .int .i64 size] w fun e w' => e = .returned (.int .u32 (num ((bs.drop a).take size))) ∧ Rd w' r v bs (a + size) false ∧ Cs (· = r) w w' := by
  obtain ⟨g, cap, rfl, hc1, _, _, hcell⟩ := h.form (by omega)
  exact number_ok_core r g cap bs a size w h hc1 hcell h1 h4 hle

theorem u1_ok (r : Nat) (v : Value) (bs : List Int) (a : Nat) (w : World) (h : Rd w r v bs a false) (hle : a + 1 ≤ bs.length) :
    Calls Tryz.prog 122 #[.pointer (some ⟨r, 0, none⟩)] w fun e w' => e = .returned (.int .i64 (num ((bs.drop a).take 1))) ∧ Rd w' r v bs (a + 1) false ∧ Cs (· = r) w w' := by
  have hn := number_ok r v bs a 1 w h (by omega) (by omega) hle
  have hb := num_take_bd bs a 1 h.small hle
  have hp : pw 1 = 256 := by decide
  rw [hp] at hb
  clear hp
  generalize num ((bs.drop a).take 1) = n at hn hb ⊢
  obtain ⟨hb0, hb1⟩ := hb
  go_enter Tryz.func122, Tryz.ntmps122
  go_wp2_with fail
  refine hn.mono ?_
  rintro e w' ⟨rfl, h1, h2⟩
  go_wp2
  go_ret
  exact ⟨rfl, h1, h2⟩

theorem u1_fail (r : Nat) (v : Value) (bs : List Int) (a : Nat) (f : Bool) (w : World) (h : Rd w r v bs a f) (hs : (if f then 0 else (bs.length : Int) - a) < 1) :
    Calls Tryz.prog 122 #[.pointer (some ⟨r, 0, none⟩)] w fun e w' => e = .returned (.int .i64 0) ∧ Rd w' r v bs a true ∧ Cs (· = r) w w' := by
  have hn := number_fail r v bs a f 1 w h hs
  clear hs
  go_enter Tryz.func122, Tryz.ntmps122
  go_wp2_with fail
  refine hn.mono ?_
  rintro e w' ⟨rfl, h1, h2⟩
  go_wp2
  go_ret
  exact ⟨rfl, h1, h2⟩

theorem u2_ok (r : Nat) (v : Value) (bs : List Int) (a : Nat) (w : World) (h : Rd w r v bs a false) (hle : a + 2 ≤ bs.length) :
    Calls Tryz.prog 84 #[.pointer (some ⟨r, 0, none⟩)] w fun e w' => e = .returned (.int .i64 (num ((bs.drop a).take 2))) ∧ Rd w' r v bs (a + 2) false ∧ Cs (· = r) w w' := by
  have hn := number_ok r v bs a 2 w h (by omega) (by omega) hle
  have hb := num_take_bd bs a 2 h.small hle
  have hp : pw 2 = 65536 := by decide
  rw [hp] at hb
  clear hp
  generalize num ((bs.drop a).take 2) = n at hn hb ⊢
  obtain ⟨hb0, hb1⟩ := hb
  go_enter Tryz.func84, Tryz.ntmps84
  go_wp2_with fail
  refine hn.mono ?_
  rintro e w' ⟨rfl, h1, h2⟩
  go_wp2
  go_ret
  exact ⟨rfl, h1, h2⟩

theorem u2_fail (r : Nat) (v : Value) (bs : List Int) (a : Nat) (f : Bool) (w : World) (h : Rd w r v bs a f) (hs : (if f then 0 else (bs.length : Int) - a) < 2) :
    Calls Tryz.prog 84 #[.pointer (some ⟨r, 0, none⟩)] w fun e w' => e = .returned (.int .i64 0) ∧ Rd w' r v bs a true ∧ Cs (· = r) w w' := by
  have hn := number_fail r v bs a f 2 w h hs
  clear hs
  go_enter Tryz.func84, Tryz.ntmps84
  go_wp2_with fail
  refine hn.mono ?_
  rintro e w' ⟨rfl, h1, h2⟩
  go_wp2
  go_ret
  exact ⟨rfl, h1, h2⟩

def sgn (n : Int) : Int := if n < 2147483648 then n else n - 4294967296
theorem wrap_sgn (n : Int) (h0 : 0 ≤ n) (h1 : n < 4294967296) : wrap64 (wrap32 n) = sgn n := by
  unfold wrap64 wrap32 sgn; split <;> omega
theorem i4_ok (r : Nat) (v : Value) (bs : List Int) (a : Nat) (w : World) (h : Rd w r v bs a false) (hle : a + 4 ≤ bs.length) :
    Calls Tryz.prog 47 #[.pointer (some ⟨r, 0, none⟩)] w fun e w' => e = .returned (.int .i64 (sgn (num ((bs.drop a).take 4)))) ∧ Rd w' r v bs (a + 4) false ∧ Cs (· = r) w w' := by
  have hn := number_ok r v bs a 4 w h (by omega) (by omega) hle
  have hb := num_take_bd bs a 4 h.small hle
  have hp : pw 4 = 4294967296 := by decide
  rw [hp] at hb
  clear hp
  generalize num ((bs.drop a).take 4) = n at hn hb ⊢
  obtain ⟨hb0, hb1⟩ := hb
  go_enter Tryz.func47, Tryz.ntmps47
  go_wp2_with fail
  refine hn.mono ?_
  rintro e w' ⟨rfl, h1, h2⟩
  go_wp2
  go_ret
  exact ⟨congrArg (fun x => Ending.returned (.int .i64 x)) (wrap_sgn n hb0 hb1), h1, h2⟩

theorem i4_fail (r : Nat) (v : Value) (bs : List Int) (a : Nat) (f : Bool) (w : World) (h : Rd w r v bs a f) (hs : (if f then 0 else (bs.length : Int) - a) < 4) :
    Calls Tryz.prog 47 #[.pointer (some ⟨r, 0, none⟩)] w fun e w' => e = .returned (.int .i64 0) ∧ Rd w' r v bs a true ∧ Cs (· = r) w w' := by
  have hn := number_fail r v bs a f 4 w h hs
  clear hs
  go_enter Tryz.func47, Tryz.ntmps47
  go_wp2_with fail
  refine hn.mono ?_
  rintro e w' ⟨rfl, h1, h2⟩
  go_wp2
  go_ret
  exact ⟨rfl, h1, h2⟩

set_option maxHeartbeats 400000 in
theorem err_ok (r : Nat) (v : Value) (bs : List Int) (a : Nat) (w : World) (h : Rd w r v bs a false) :
    Calls Tryz.prog 86 #[.pointer (some ⟨r, 0, none⟩)] w fun e w' => e = .returned (.tuple #[.int .i64 0, .int .i64 0]) ∧ ∃ nq, w' = w.drewN nq := by
  have h2 := h.c2
  go_enter Tryz.func86, Tryz.ntmps86
  go_wp2
  go_ret2
  exact ⟨rfl, 0, rfl⟩

set_option maxHeartbeats 400000 in
theorem err_failed (r : Nat) (v : Value) (bs : List Int) (a : Nat) (w : World) (h : Rd w r v bs a true) :
    Calls Tryz.prog 86 #[.pointer (some ⟨r, 0, none⟩)] w fun e w' => e = .returned (.tuple #[.int .i64 2, .int .i64 a]) ∧ ∃ nq, w' = w.drewN nq := by
  have h1 := h.c1
  have h2 := h.c2
  go_enter Tryz.func86, Tryz.ntmps86
  go_wp2
  go_quiet (fail)
  go_wp2
  go_ret2
  exact ⟨rfl, _, rfl⟩

theorem Rd.back {w : World} {r : Nat} {v : Value} {bs : List Int} {a : Nat} {f : Bool} (h : Rd w r v bs a f) (b : Nat) (hb : b ≤ bs.length) :
    Rd ((w.setCell ⟨r, 1, none⟩ (.int .i64 b)).setCell ⟨r, 2, none⟩ (.bool true)) r v bs b true := (h.set1 b hb).set2 true

set_option maxHeartbeats 1000000 in
/-- No length can be read. -/
theorem text_fail1 (r : Nat) (v : Value) (bs : List Int) (a : Nat) (f : Bool) (w : World) (h : Rd w r v bs a f) (hs : (if f then 0 else (bs.length : Int) - a) < 2) :
    Calls Tryz.prog 49 #[.pointer (some ⟨r, 0, none⟩)] w fun e w' => e = .returned (.string ⟨#[]⟩) ∧ Rd w' r v bs a true ∧ Cs (· = r) w w' := by
  have c1 := h.c1
  have hn := u2_fail r v bs a f w h hs
  clear hs
  go_enter Tryz.func49, Tryz.ntmps49
  go_wp2_with fail
  refine wp_scope_once 0 (by rfl) ?_
  go_wp2_with fail
  refine hn.mono ?_
  rintro e w1 ⟨rfl, h1, hc⟩
  have d1 := h1.c1
  have d2 := h1.c2
  have f1 := h1.fz 1
  have f2 := h1.fz 2
  go_wp2_with fail
  go_step3
  refine And.intro rfl ?_
  change Code.wp Tryz.prog _ _ _ _
  go_wp2
  rw [Exit.noGoto_ret]
  go_ret
  exact ⟨rfl, h1.back a h.le, Cs.setCell (S := (· = r)) (Cs.setCell (S := (· = r)) hc (Or.inl rfl) _) (Or.inl rfl) _⟩

set_option maxHeartbeats 1000000 in
/-- A length is read, and the bytes end ahead of the text's end. -/
theorem text_fail2 (r : Nat) (v : Value) (bs : List Int) (a : Nat) (w : World) (h : Rd w r v bs a false) (hle : a + 2 ≤ bs.length) (hs : (bs.length : Int) - (a + 2) < num ((bs.drop a).take 2)) :
    Calls Tryz.prog 49 #[.pointer (some ⟨r, 0, none⟩)] w fun e w' => e = .returned (.string ⟨#[]⟩) ∧ Rd w' r v bs a true ∧ Cs (· = r) w w' := by
  have c1 := h.c1
  have hn := u2_ok r v bs a w h hle
  generalize num ((bs.drop a).take 2) = n at hn hs
  obtain ⟨l, hl⟩ : ∃ l : Int, (if false = true then 0 else (bs.length : Int) - ((a + 2 : Nat) : Int)) = l := ⟨_, rfl⟩
  have hs2 : l < n := by rw [← hl]; simp; omega
  have HL : Hid ((if false = true then 0 else (bs.length : Int) - ((a + 2 : Nat) : Int)) = l) := hl
  clear hl hs
  go_enter Tryz.func49, Tryz.ntmps49
  go_wp2_with fail
  refine wp_scope_once 0 (by rfl) ?_
  go_wp2_with fail
  refine hn.mono ?_
  rintro e w1 ⟨rfl, h1, hc⟩
  have d1 := h1.c1
  have d2 := h1.c2
  go_wp2_with fail
  refine (left_any' r v bs (a + 2) false _ h1 l HL.out).mono ?_
  rintro e w2 ⟨rfl, nq, rfl⟩
  have f1 := (h1.drewN nq).fz 1
  have f2 := (h1.drewN nq).fz 2
  go_wp2_with fail
  go_step3
  refine And.intro rfl ?_
  change Code.wp Tryz.prog _ _ _ _
  go_wp2
  rw [Exit.noGoto_ret]
  go_ret
  exact ⟨rfl, (h1.drewN nq).back a h.le, Cs.setCell (S := (· = r)) (Cs.setCell (S := (· = r)) (hc.drewN nq) (Or.inl rfl) _) (Or.inl rfl) _⟩

theorem row_sub {w : World} {g cap : Nat} {bs : List Int} {lo n c : Nat} (hlo : lo + n ≤ bs.length) (h : ∀ k, k < bs.length → w.cell? ⟨g, k, none⟩ = some (.int .u8 (bs.getD k 0))) :
    Row w (.slice (some ⟨g, lo, none⟩) n c) ((bs.drop lo).take n) := by
  have hl : ((bs.drop lo).take n).length = n := by rw [List.length_take, List.length_drop]; omega
  refine Or.inr ⟨⟨g, lo, none⟩, c, by rw [hl], fun j u hj => ?_⟩
  have hadd : (⟨g, lo, none⟩ : Addr).add j = ⟨g, lo + j, none⟩ := by unfold Addr.add; split <;> simp_all
  have hjl : j < n := by
    rcases Nat.lt_or_ge j n with hlt | hge
    · exact hlt
    · rw [List.getElem?_eq_none (by rw [List.length_map, hl]; exact hge)] at hj; cases hj
  rw [hadd, h (lo + j) (by omega)]
  rw [List.getElem?_map, List.getElem?_take_of_lt hjl, List.getElem?_drop] at hj
  rw [List.getElem?_eq_getElem (by omega)] at hj
  simp at hj
  rw [← hj]
  simp [List.getD, List.getElem?_eq_getElem (show lo + j < bs.length by omega)]

theorem row_cut {w : World} {g cap : Nat} {bs : List Int} {lo n c : Nat} (hlo : lo + n ≤ bs.length) (hcap : bs.length ≤ cap) (h : ∀ k, k < bs.length → w.cell? ⟨g, k, none⟩ = some (.int .u8 (bs.getD k 0))) :
    Row w (.slice (if cap = lo then some ⟨g, 0, none⟩ else some ⟨g, lo, none⟩) n c) ((bs.drop lo).take n) := by
  split
  · have hn : n = 0 := by omega
    subst hn
    exact Or.inr ⟨⟨g, 0, none⟩, c, by simp, fun j u hj => by simp at hj⟩
  · exact row_sub (cap := cap) hlo h

set_option maxHeartbeats 1000000 in
theorem text_ok (r : Nat) (v : Value) (bs : List Int) (a n : Nat) (w : World) (h : Rd w r v bs a false) (hle : a + 2 ≤ bs.length) (hN : num ((bs.drop a).take 2) = (n : Int)) (hs : a + 2 + n ≤ bs.length) :
    Calls Tryz.prog 49 #[.pointer (some ⟨r, 0, none⟩)] w fun e w' => e = .returned (.string (strOfNums ((bs.drop (a + 2)).take n))) ∧ Rd w' r v bs (a + 2 + n) false ∧ Cs (· = r) w w' := by
  have c1 := h.c1
  have hlen := h.len
  have hn := u2_ok r v bs a w h hle
  rw [hN] at hn
  clear hN
  obtain ⟨g, cap, rfl, hc1, hc2, _, hcell⟩ := h.form (by omega)
  obtain ⟨l, hl⟩ : ∃ l : Int, (if false = true then 0 else (bs.length : Int) - ((a + 2 : Nat) : Int)) = l := ⟨_, rfl⟩
  have hs2 : decide (l < (n : Int)) = false := by rw [← hl]; simp; omega
  have HL : Hid ((if false = true then 0 else (bs.length : Int) - ((a + 2 : Nat) : Int)) = l) := hl
  clear hl
  go_enter Tryz.func49, Tryz.ntmps49
  go_wp2_with fail
  go_step3
  go_wp2_with fail
  refine hn.mono ?_
  rintro e w1 ⟨rfl, h1, hc⟩
  have d0 := h1.c0
  have d1 := h1.c1
  have d2 := h1.c2
  go_wp2_with fail
  refine (left_any' r _ bs (a + 2) false _ h1 l HL.out).mono ?_
  rintro e w2 ⟨rfl, nq, rfl⟩
  have f1 := (h1.drewN nq).fz 1
  go_wp2
  have h3 : Rd ((w1.drewN nq).setCell ⟨r, 1, none⟩ (.int .i64 ((a : Int) + 2 + n))) r (.slice (some ⟨g, 0, none⟩) bs.length cap) bs (a + 2 + n) false := (h1.drewN nq).set1 (a + 2 + n) hs
  have hc3 : Cs (· = r) w ((w1.drewN nq).setCell ⟨r, 1, none⟩ (.int .i64 ((a : Int) + 2 + n))) := Cs.setCell (S := (· = r)) (hc.drewN nq) (Or.inl rfl) _
  generalize (w1.drewN nq).setCell ⟨r, 1, none⟩ (.int .i64 ((a : Int) + 2 + n)) = W at h3 hc3 ⊢
  have i0 := h3.c0
  have i1 := h3.c1
  clear d0 d1 d2 f1 h1 hc c1 hn
  have q0 : IntKind.i64.wrap ((a : Int) + 2) = (a : Int) + 2 := by rw [IntKind.wrap_i64]; omega
  have q1 : (0 : Int) ≤ (a : Int) + 2 := by omega
  have q2 : (a : Int) + 2 ≤ (a : Int) + 2 + n := by omega
  have q3 : (a : Int) + 2 + n ≤ (cap : Int) := by omega
  have hrow : ∀ k, Row (W.drewN k) (.slice (if cap = ((a : Int) + 2).toNat then some ⟨g, 0, none⟩ else some ⟨g, ((a : Int) + 2).toNat, none⟩) (((a : Int) + 2 + n).toNat - ((a : Int) + 2).toNat) (cap - ((a : Int) + 2).toNat)) ((bs.drop (a + 2)).take n) := fun k => by
    have t1 : ((a : Int) + 2).toNat = a + 2 := by omega
    have t2 : ((a : Int) + 2 + n).toNat - (a + 2) = n := by omega
    rw [t1, t2]
    obtain ⟨g', cap', hv, _, _, _, hcell'⟩ := (h3.drewN k).form (by omega)
    have hg : g = g' ∧ cap = cap' := by simpa using hv
    obtain ⟨rfl, rfl⟩ := hg
    exact row_cut hs hc1 hcell'
  have hconv := fun k => row_string (hrow k)
  generalize hS : strOfNums ((bs.drop (a + 2)).take n) = S at hconv
  have HS : Hid (strOfNums ((bs.drop (a + 2)).take n) = S) := hS
  clear hS
  clear hrow hcell
  generalize hif : (if cap = ((a : Int) + 2).toNat then some (⟨g, 0, none⟩ : Addr) else some ⟨g, ((a : Int) + 2).toNat, none⟩) = ad at hconv
  go_quiet (fail)
  go_wp2
  try rw [Exit.noGoto_ret]
  go_ret
  exact ⟨congrArg (fun x => Ending.returned (.string x)) HS.out.symm, h3.drewN _, hc3.drewN _⟩

end Go.Proofs.YtdalibfgkkgcpaaGreat
namespace Go.Proofs.YtdalibfgkkgcpaaGreat
open Go.RowKit
set_option linter.unusedVariables false

theorem Cs.of_ch {S : Nat → Prop} {a b : World} (h : Ch a b) : Cs S a b := ⟨h.os, h.tape, h.output, h.size, fun k hk _ => h.block k hk⟩
theorem Cs.ch {a b : World} (h : Cs (fun _ => False) a b) : Ch a b := ⟨h.os, h.tape, h.output, h.size, fun k hk => h.block k hk id⟩
/-- How far a class has been read: the place, whether the bytes have ended, the first fault and its place. -/
structure St where
  a : Nat
  f : Bool
  e : Int
  ea : Nat
/-- But for the decoder and its reader nothing that was there has turned. -/
abbrev Dk (D r : Nat) (w w' : World) : Prop := Cs (fun k => k = D ∨ k = r) w w'
structure Dc (w : World) (D r : Nat) (v pv : Value) (bs : List Int) (P : List ByteArray) (s : St) : Prop where
  rd : Rd w r v bs s.a s.f
  blk : w.heap[D]? = some (.cells #[.pointer (some ⟨r, 0, none⟩), pv, .int .i64 s.e, .int .i64 s.ea] 87)
  pool : ∀ w', Dk D r w w' → Sl 1 RS w' pv P

section
variable {w w' : World} {D r : Nat} {v pv : Value} {bs : List Int} {P : List ByteArray} {s : St}
theorem Dc.lt (h : Dc w D r v pv bs P s) : D < w.heap.size := by
  rcases Nat.lt_or_ge D w.heap.size with hlt | hge
  · exact hlt
  · have := h.blk; rw [Array.getElem?_eq_none hge] at this; cases this
theorem Dc.ne (h : Dc w D r v pv bs P s) : D ≠ r := by
  rintro rfl
  have := h.blk; rw [h.rd.blk] at this; simp at this
theorem Dc.nv (h : Dc w D r v pv bs P s) (g : Nat) (hg : v.ownBlock = some g) : ¬ (g = D ∨ g = r) := by
  rintro (rfl | rfl)
  · obtain ⟨_, cur, e⟩ := own_obj h.rd.own hg
    have := h.blk; rw [e] at this; simp at this
  · exact h.rd.ne hg
theorem Dc.keep (h : Dc w D r v pv bs P s) (c : Ch w w') : Dc w' D r v pv bs P s :=
  ⟨h.rd.keep (S := fun _ => False) (Cs.of_ch c) id (fun _ _ => id), (c.block D h.lt).trans h.blk, fun w'' k => h.pool w'' ((Cs.of_ch c).trans k)⟩
theorem Cs.dk (c : Cs (· = r) w w') : Dk D r w w' := c.mono fun k _ e => Or.inr e
theorem Dc.move (h : Dc w D r v pv bs P s) {a : Nat} {f : Bool} (hr : Rd w' r v bs a f) (c : Cs (· = r) w w') : Dc w' D r v pv bs P { s with a := a, f := f } :=
  ⟨hr, (c.block D h.lt h.ne).trans h.blk, fun w'' k => h.pool w'' ((Cs.dk c).trans k)⟩
theorem Dc.c0 (h : Dc w D r v pv bs P s) : w.cell? ⟨D, 0, none⟩ = some (.pointer (some ⟨r, 0, none⟩)) := by simp [World.cell?, h.blk]
theorem Dc.c1 (h : Dc w D r v pv bs P s) : w.cell? ⟨D, 1, none⟩ = some pv := by simp [World.cell?, h.blk]
theorem Dc.c2 (h : Dc w D r v pv bs P s) : w.cell? ⟨D, 2, none⟩ = some (.int .i64 s.e) := by simp [World.cell?, h.blk]
theorem Dc.c3 (h : Dc w D r v pv bs P s) : w.cell? ⟨D, 3, none⟩ = some (.int .i64 s.ea) := by simp [World.cell?, h.blk]
theorem Dc.fz (h : Dc w D r v pv bs P s) (o : Nat) : w.frozen? ⟨D, o, none⟩ = false := by simp [World.frozen?, h.blk]
theorem dk_set (o : Nat) (u : Value) : Dk D r w (w.setCell ⟨D, o, none⟩ u) := Cs.setCell (S := fun k => k = D ∨ k = r) (Cs.refl _ _) (Or.inl (Or.inl rfl)) u
theorem Dc.set (h : Dc w D r v pv bs P s) (e : Int) (ea : Nat) : Dc ((w.setCell ⟨D, 2, none⟩ (.int .i64 e)).setCell ⟨D, 3, none⟩ (.int .i64 ea)) D r v pv bs P { s with e := e, ea := ea } := by
  have k : Dk D r w ((w.setCell ⟨D, 2, none⟩ (.int .i64 e)).setCell ⟨D, 3, none⟩ (.int .i64 ea)) := (dk_set 2 _).trans (dk_set 3 _)
  have hb : ∀ g, g ≠ D → ((w.setCell ⟨D, 2, none⟩ (.int .i64 e)).setCell ⟨D, 3, none⟩ (.int .i64 ea)).heap[g]? = w.heap[g]? := fun g hg => by
    rw [Below.heap_setCell _ _ _ _ hg, Below.heap_setCell _ _ _ _ hg]
  refine ⟨⟨(hb r (Ne.symm h.ne)).trans h.rd.blk, ownsRow_same h.rd.own (fun g hg => hb g (fun e => h.nv g hg (Or.inl e))), h.rd.small, h.rd.le, h.rd.len⟩, ?_, fun w'' k' => h.pool w'' (k.trans k')⟩
  simp [World.setCell, Array.getElem?_modify, h.blk]
end

/-- That the bytes have ended is a fault, if none was met. -/
def sy (s : St) : St := if s.e = 0 then (if s.f then { s with e := 2, ea := s.a } else { s with ea := 0 }) else s
def bad (s : St) : Bool := (sy s).e != 0
def fl (s : St) (e : Int) (p : Nat) : St := if bad s then sy s else { sy s with e := e, ea := p }
def mu (s : St) (e : Int) (p : Nat) : St := if e = 0 then s else fl s e p

set_option maxHeartbeats 2000000 in
theorem failed_any (D r : Nat) (v pv : Value) (bs : List Int) (P : List ByteArray) (s : St) (w : World) (h : Dc w D r v pv bs P s) :
    Calls Tryz.prog 50 #[.pointer (some ⟨D, 0, none⟩)] w fun e w' => e = .returned (.bool (bad s)) ∧ Dc w' D r v pv bs P (sy s) ∧ Dk D r w w' := by
  have c0 := h.c0
  have c2 := h.c2
  have c3 := h.c3
  have f2 := h.fz 2
  have f3 := h.fz 3
  by_cases he : s.e = 0
  · have he' : (s.e == 0) = true := by simpa using he
    cases hf : s.f with
    | false =>
      have hb : bad s = false := by simp [bad, sy, he, hf]
      have hs : sy s = { s with ea := 0 } := by simp [sy, he, hf]
      rw [hb, hs]
      have HD : Hid (∀ nq, Dc (w.drewN nq) D r v pv bs P s) := fun nq => h.keep ((Ch.refl w).drewN nq)
      have HST : Hid (∀ nq, Dc (((w.drewN nq).setCell ⟨D, 2, none⟩ (.int .i64 0)).setCell ⟨D, 3, none⟩ (.int .i64 (0 : Nat))) D r v pv bs P { s with e := 0, ea := 0 }) := fun nq => (HD.out nq).set 0 0
      have hs2 : ({ s with e := 0, ea := 0 } : St) = { s with ea := 0 } := by cases s; simp_all
      rw [hs2] at HST
      have her := err_ok r v bs s.a w (by have := h.rd; rw [hf] at this; exact this)
      rw [he] at c2
      clear hb hs hs2 he he' h
      go_enter Tryz.func50, Tryz.ntmps50
      go_wp2_with (first
        | (go_at_call 86; (with_reducible refine her.mono ?_); rintro e w' ⟨rfl, nq, hw⟩; have hw := hw.symm; subst hw; have g2 := (HD.out nq).fz 2; have g3 := (HD.out nq).fz 3; have g0 := (HD.out nq).c0)
        | fail)
      go_ret
      exact ⟨rfl, HST.out nq, ((Cs.refl _ w).drewN nq).trans ((dk_set 2 _).trans (dk_set 3 _))⟩
    | true =>
      have hb : bad s = true := by simp [bad, sy, he, hf]
      have hs : sy s = { s with e := 2, ea := s.a } := by simp [sy, he, hf]
      rw [hb, hs]
      have HD : Hid (∀ nq, Dc (w.drewN nq) D r v pv bs P s) := fun nq => h.keep ((Ch.refl w).drewN nq)
      have HST : Hid (∀ nq, Dc (((w.drewN nq).setCell ⟨D, 2, none⟩ (.int .i64 2)).setCell ⟨D, 3, none⟩ (.int .i64 s.a)) D r v pv bs P { s with e := 2, ea := s.a }) := fun nq => (HD.out nq).set 2 s.a
      have her := err_failed r v bs s.a w (by have := h.rd; rw [hf] at this; exact this)
      rw [he] at c2
      clear hb hs he he' h
      go_enter Tryz.func50, Tryz.ntmps50
      go_wp2_with (first
        | (go_at_call 86; (with_reducible refine her.mono ?_); rintro e w' ⟨rfl, nq, hw⟩; have hw := hw.symm; subst hw; have g2 := (HD.out nq).fz 2; have g3 := (HD.out nq).fz 3; have g0 := (HD.out nq).c0)
        | fail)
      go_ret
      exact ⟨rfl, HST.out nq, ((Cs.refl _ w).drewN nq).trans ((dk_set 2 _).trans (dk_set 3 _))⟩
  · have he1 : (s.e == 0) = false := by simpa using he
    have he2 : (s.e != 0) = true := by simpa using he
    have hb : bad s = true := by simp [bad, sy, he]
    have hs : sy s = s := by simp [sy, he]
    rw [hb, hs]
    generalize s.e = se at *
    clear hb hs he
    go_enter Tryz.func50, Tryz.ntmps50
    go_wp2
    go_ret
    exact ⟨rfl, h, Cs.refl _ _⟩
end Go.Proofs.YtdalibfgkkgcpaaGreat
namespace Go.Proofs.YtdalibfgkkgcpaaGreat
open Go.RowKit
set_option linter.unusedVariables false

def nR (bs : List Int) (k : Nat) (s : St) : Int × St :=
  if s.f = false ∧ s.a + k ≤ bs.length then (num ((bs.drop s.a).take k), { s with a := s.a + k }) else (0, { s with f := true })
def iR (bs : List Int) (s : St) : Int × St := (sgn (nR bs 4 s).1, (nR bs 4 s).2)
def cntR (bs : List Int) (most : Int) (s : St) : Int × St := if (nR bs 2 s).1 ≤ most then nR bs 2 s else (0, fl (nR bs 2 s).2 5 s.a)
def txtR (bs : List Int) (P : List ByteArray) (s : St) : ByteArray × St :=
  if (nR bs 2 s).1 < P.length then (P.getD (nR bs 2 s).1.toNat ⟨#[]⟩, (nR bs 2 s).2) else (⟨#[]⟩, fl (nR bs 2 s).2 4 s.a)
def yesR (bs : List Int) (s : St) : Bool × St := if (nR bs 1 s).1 ≤ 1 then ((nR bs 1 s).1 == 1, (nR bs 1 s).2) else (false, fl (nR bs 1 s).2 3 s.a)

theorem nR_bd (bs : List Int) (h : ∀ x ∈ bs, 0 ≤ x ∧ x < 256) (k : Nat) (s : St) : 0 ≤ (nR bs k s).1 ∧ (nR bs k s).1 < pw k := by
  unfold nR
  have hp : ∀ k, (0 : Int) < pw k := fun k => by
    induction k with
    | zero => decide
    | succ k ih => simp only [pw]; omega
  split
  · next hc => exact num_take_bd bs s.a k h hc.2
  · exact ⟨by simp, hp k⟩
theorem fl_a (s : St) (e : Int) (p : Nat) : (fl s e p).a = s.a ∧ (fl s e p).f = s.f := by unfold fl sy; (repeat' split) <;> exact ⟨rfl, rfl⟩

section
variable (D r : Nat) (v pv : Value) (bs : List Int) (P : List ByteArray) (s : St)

theorem u1_any (w : World) (h : Dc w D r v pv bs P s) :
    Calls Tryz.prog 122 #[.pointer (some ⟨r, 0, none⟩)] w fun e w' => e = .returned (.int .i64 (nR bs 1 s).1) ∧ Dc w' D r v pv bs P (nR bs 1 s).2 ∧ Dk D r w w' := by
  by_cases hc : s.f = false ∧ s.a + 1 ≤ bs.length
  · have e1 : nR bs 1 s = (num ((bs.drop s.a).take 1), { s with a := s.a + 1 }) := by unfold nR; rw [if_pos hc]
    have hr := h.rd
    rw [hc.1] at hr
    refine (u1_ok r v bs s.a w hr hc.2).mono ?_
    rintro e w' ⟨rfl, h1, h2⟩
    have h3 := h.move h1 h2
    have e2 : ({ s with a := s.a + 1, f := false } : St) = { s with a := s.a + 1 } := by rw [← hc.1]
    rw [e2] at h3
    rw [e1]
    exact ⟨rfl, h3, Cs.dk h2⟩
  · have e1 : nR bs 1 s = (0, { s with f := true }) := by unfold nR; rw [if_neg hc]
    have hl : (if s.f then 0 else (bs.length : Int) - s.a) < 1 := by
      have := h.rd.le
      cases hf : s.f with
      | true => simp
      | false => simp only [hf, true_and] at hc; simp; omega
    refine (u1_fail r v bs s.a s.f w h.rd hl).mono ?_
    rintro e w' ⟨rfl, h1, h2⟩
    have h3 := h.move h1 h2
    rw [e1]
    exact ⟨rfl, h3, Cs.dk h2⟩

theorem u2_any (w : World) (h : Dc w D r v pv bs P s) :
    Calls Tryz.prog 84 #[.pointer (some ⟨r, 0, none⟩)] w fun e w' => e = .returned (.int .i64 (nR bs 2 s).1) ∧ Dc w' D r v pv bs P (nR bs 2 s).2 ∧ Dk D r w w' := by
  by_cases hc : s.f = false ∧ s.a + 2 ≤ bs.length
  · have e1 : nR bs 2 s = (num ((bs.drop s.a).take 2), { s with a := s.a + 2 }) := by unfold nR; rw [if_pos hc]
    have hr := h.rd
    rw [hc.1] at hr
    refine (u2_ok r v bs s.a w hr hc.2).mono ?_
    rintro e w' ⟨rfl, h1, h2⟩
    have h3 := h.move h1 h2
    have e2 : ({ s with a := s.a + 2, f := false } : St) = { s with a := s.a + 2 } := by rw [← hc.1]
    rw [e2] at h3
    rw [e1]
    exact ⟨rfl, h3, Cs.dk h2⟩
  · have e1 : nR bs 2 s = (0, { s with f := true }) := by unfold nR; rw [if_neg hc]
    have hl : (if s.f then 0 else (bs.length : Int) - s.a) < 2 := by
      have := h.rd.le
      cases hf : s.f with
      | true => simp
      | false => simp only [hf, true_and] at hc; simp; omega
    refine (u2_fail r v bs s.a s.f w h.rd hl).mono ?_
    rintro e w' ⟨rfl, h1, h2⟩
    have h3 := h.move h1 h2
    rw [e1]
    exact ⟨rfl, h3, Cs.dk h2⟩

theorem i4_any (w : World) (h : Dc w D r v pv bs P s) :
    Calls Tryz.prog 47 #[.pointer (some ⟨r, 0, none⟩)] w fun e w' => e = .returned (.int .i64 (iR bs s).1) ∧ Dc w' D r v pv bs P (iR bs s).2 ∧ Dk D r w w' := by
  by_cases hc : s.f = false ∧ s.a + 4 ≤ bs.length
  · have e1 : nR bs 4 s = (num ((bs.drop s.a).take 4), { s with a := s.a + 4 }) := by unfold nR; rw [if_pos hc]
    have hr := h.rd
    rw [hc.1] at hr
    refine (i4_ok r v bs s.a w hr hc.2).mono ?_
    rintro e w' ⟨rfl, h1, h2⟩
    have h3 := h.move h1 h2
    have e2 : ({ s with a := s.a + 4, f := false } : St) = { s with a := s.a + 4 } := by rw [← hc.1]
    rw [e2] at h3
    unfold iR
    rw [e1]
    exact ⟨rfl, h3, Cs.dk h2⟩
  · have e1 : nR bs 4 s = (0, { s with f := true }) := by unfold nR; rw [if_neg hc]
    have hl : (if s.f then 0 else (bs.length : Int) - s.a) < 4 := by
      have := h.rd.le
      cases hf : s.f with
      | true => simp
      | false => simp only [hf, true_and] at hc; simp; omega
    refine (i4_fail r v bs s.a s.f w h.rd hl).mono ?_
    rintro e w' ⟨rfl, h1, h2⟩
    have h3 := h.move h1 h2
    unfold iR
    rw [e1]
    exact ⟨rfl, h3, Cs.dk h2⟩

set_option maxHeartbeats 2000000 in
theorem fail_any (x : Int) (p : Nat) (w : World) (h : Dc w D r v pv bs P s) :
    Calls Tryz.prog 45 #[.pointer (some ⟨D, 0, none⟩), .int .i64 x, .int .i64 p] w fun e w' => e = .returned (.tuple #[]) ∧ Dc w' D r v pv bs P (fl s x p) ∧ Dk D r w w' := by
  have hf := failed_any D r v pv bs P s w h
  cases hb : bad s with
  | true =>
    have e1 : fl s x p = sy s := by simp [fl, hb]
    rw [hb] at hf
    rw [e1]
    clear h hb e1
    go_enter Tryz.func45, Tryz.ntmps45
    go_wp2_with (first
      | (go_at_call 50; (with_reducible refine hf.mono ?_); rintro e w' ⟨rfl, h1, h2⟩)
      | fail)
    go_end0
    exact ⟨rfl, h1, h2⟩
  | false =>
    have e1 : fl s x p = { sy s with e := x, ea := p } := by simp [fl, hb]
    rw [hb] at hf
    rw [e1]
    clear h hb e1
    generalize sy s = s1 at *
    go_enter Tryz.func45, Tryz.ntmps45
    go_wp2_with (first
      | (go_at_call 50; (with_reducible refine hf.mono ?_); rintro e w' ⟨rfl, h1, h2⟩; have c2 := h1.c2; have c3 := h1.c3; have f2 := h1.fz 2; have f3 := h1.fz 3)
      | fail)
    go_end0
    exact ⟨rfl, h1.set x p, h2.trans ((dk_set 2 _).trans (dk_set 3 _))⟩

set_option maxHeartbeats 2000000 in
theorem must_any (x : Int) (p : Nat) (w : World) (h : Dc w D r v pv bs P s) :
    Calls Tryz.prog 90 #[.pointer (some ⟨D, 0, none⟩), .int .i64 x, .int .i64 p] w fun e w' => e = .returned (.tuple #[]) ∧ Dc w' D r v pv bs P (mu s x p) ∧ Dk D r w w' := by
  have hf := fail_any D r v pv bs P s x p w h
  by_cases hx : x = 0
  · subst hx
    have e1 : mu s 0 p = s := by simp [mu]
    rw [e1]
    clear hf e1
    go_enter Tryz.func90, Tryz.ntmps90
    go_wp2
    go_end0
    exact ⟨rfl, h, Cs.refl _ _⟩
  · have e1 : mu s x p = fl s x p := by simp [mu, hx]
    rw [e1]
    have hx1 : (x != 0) = true := by simpa using hx
    have hx2 : (x == 0) = false := by simpa using hx
    clear h e1 hx
    generalize fl s x p = s1 at *
    go_enter Tryz.func90, Tryz.ntmps90
    go_wp2_with (first
      | (go_at_call 45; (with_reducible refine hf.mono ?_); rintro e w' ⟨rfl, h1, h2⟩)
      | fail)
    go_end0
    exact ⟨rfl, h1, h2⟩

set_option maxHeartbeats 2000000 in
theorem count_any (most : Int) (w : World) (h : Dc w D r v pv bs P s) :
    Calls Tryz.prog 83 #[.pointer (some ⟨D, 0, none⟩), .int .i64 most] w fun e w' => e = .returned (.int .i64 (cntR bs most s).1) ∧ Dc w' D r v pv bs P (cntR bs most s).2 ∧ Dk D r w w' := by
  have hat := at_any r v bs s.a s.f w h.rd
  have hu := u2_any D r v pv bs P s w h
  have hbd := nR_bd bs h.rd.small 2 s
  have hp : pw 2 = 65536 := by decide
  rw [hp] at hbd
  clear hp
  have c0 := h.c0
  by_cases hc : (nR bs 2 s).1 ≤ most
  · have e1 : cntR bs most s = nR bs 2 s := by unfold cntR; rw [if_pos hc]
    rw [e1]
    generalize (nR bs 2 s).1 = n at *
    generalize (nR bs 2 s).2 = s1 at *
    clear e1 h
    obtain ⟨hb0, hb1⟩ := hbd
    go_enter Tryz.func83, Tryz.ntmps83
    go_wp2_with (first
        | (go_at_call 87; (with_reducible refine hat.mono ?_); rintro e w0 ⟨rfl, hw⟩; have hw := hw.symm; subst hw)
        | (go_at_call 84; (with_reducible refine hu.mono ?_); rintro e w1 ⟨rfl, h1, k1⟩; have d0 := h1.c0; have d1 := h1.c1; have d2 := h1.c2)
        | (go_at_call 45; (with_reducible refine (HF.out _ h1).mono ?_); rintro e w2 ⟨rfl, h2, k2⟩)
        | fail)
    try go_step3
    go_wp2_with (first
        | (go_at_call 87; (with_reducible refine hat.mono ?_); rintro e w0 ⟨rfl, hw⟩; have hw := hw.symm; subst hw)
        | (go_at_call 84; (with_reducible refine hu.mono ?_); rintro e w1 ⟨rfl, h1, k1⟩; have d0 := h1.c0; have d1 := h1.c1; have d2 := h1.c2)
        | (go_at_call 45; (with_reducible refine (HF.out _ h1).mono ?_); rintro e w2 ⟨rfl, h2, k2⟩)
        | fail)
    try rw [Exit.noGoto_ret]
    go_ret
    exact ⟨rfl, h1, k1⟩
  · have e1 : cntR bs most s = (0, fl (nR bs 2 s).2 5 s.a) := by unfold cntR; rw [if_neg hc]
    have hc : most < (nR bs 2 s).1 := Int.not_le.1 hc
    rw [e1]
    have HF : Hid (∀ w1, Dc w1 D r v pv bs P (nR bs 2 s).2 → _) := fun w1 h1 => fail_any D r v pv bs P (nR bs 2 s).2 5 s.a w1 h1
    generalize (nR bs 2 s).1 = n at *
    generalize (nR bs 2 s).2 = s1 at *
    clear e1 h
    obtain ⟨hb0, hb1⟩ := hbd
    go_enter Tryz.func83, Tryz.ntmps83
    go_wp2_with (first
        | (go_at_call 87; (with_reducible refine hat.mono ?_); rintro e w0 ⟨rfl, hw⟩; have hw := hw.symm; subst hw)
        | (go_at_call 84; (with_reducible refine hu.mono ?_); rintro e w1 ⟨rfl, h1, k1⟩; have d0 := h1.c0; have d1 := h1.c1; have d2 := h1.c2)
        | (go_at_call 45; (with_reducible refine (HF.out _ h1).mono ?_); rintro e w2 ⟨rfl, h2, k2⟩)
        | fail)
    refine wp_scope_once 0 (by rfl) ?_
    go_wp2_with (first
        | (go_at_call 87; (with_reducible refine hat.mono ?_); rintro e w0 ⟨rfl, hw⟩; have hw := hw.symm; subst hw)
        | (go_at_call 84; (with_reducible refine hu.mono ?_); rintro e w1 ⟨rfl, h1, k1⟩; have d0 := h1.c0; have d1 := h1.c1; have d2 := h1.c2)
        | (go_at_call 45; (with_reducible refine (HF.out _ h1).mono ?_); rintro e w2 ⟨rfl, h2, k2⟩)
        | fail)
    go_step3
    refine And.intro rfl ?_
    change Code.wp Tryz.prog _ _ _ _
    go_wp2_with (first
        | (go_at_call 87; (with_reducible refine hat.mono ?_); rintro e w0 ⟨rfl, hw⟩; have hw := hw.symm; subst hw)
        | (go_at_call 84; (with_reducible refine hu.mono ?_); rintro e w1 ⟨rfl, h1, k1⟩; have d0 := h1.c0; have d1 := h1.c1; have d2 := h1.c2)
        | (go_at_call 45; (with_reducible refine (HF.out _ h1).mono ?_); rintro e w2 ⟨rfl, h2, k2⟩)
        | fail)
    rw [Exit.noGoto_ret]
    go_ret
    exact ⟨rfl, h2, k1.trans k2⟩

set_option maxHeartbeats 2000000 in
theorem dyes_any (w : World) (h : Dc w D r v pv bs P s) :
    Calls Tryz.prog 89 #[.pointer (some ⟨D, 0, none⟩)] w fun e w' => e = .returned (.bool (yesR bs s).1) ∧ Dc w' D r v pv bs P (yesR bs s).2 ∧ Dk D r w w' := by
  have hat := at_any r v bs s.a s.f w h.rd
  have hu := u1_any D r v pv bs P s w h
  have hbd := nR_bd bs h.rd.small 1 s
  have hp : pw 1 = 256 := by decide
  rw [hp] at hbd
  clear hp
  have c0 := h.c0
  by_cases hc : (nR bs 1 s).1 ≤ 1
  · have e1 : yesR bs s = ((nR bs 1 s).1 == 1, (nR bs 1 s).2) := by unfold yesR; rw [if_pos hc]
    rw [e1]
    generalize (nR bs 1 s).1 = n at *
    generalize (nR bs 1 s).2 = s1 at *
    clear e1 h
    obtain ⟨hb0, hb1⟩ := hbd
    go_enter Tryz.func89, Tryz.ntmps89
    go_wp2_with (first
        | (go_at_call 87; (with_reducible refine hat.mono ?_); rintro e w0 ⟨rfl, hw⟩; have hw := hw.symm; subst hw)
        | (go_at_call 122; (with_reducible refine hu.mono ?_); rintro e w1 ⟨rfl, h1, k1⟩; have d0 := h1.c0; have d1 := h1.c1; have d2 := h1.c2)
        | (go_at_call 45; (with_reducible refine (HF.out _ h1).mono ?_); rintro e w2 ⟨rfl, h2, k2⟩)
        | fail)
    try go_step3
    go_wp2_with (first
        | (go_at_call 87; (with_reducible refine hat.mono ?_); rintro e w0 ⟨rfl, hw⟩; have hw := hw.symm; subst hw)
        | (go_at_call 122; (with_reducible refine hu.mono ?_); rintro e w1 ⟨rfl, h1, k1⟩; have d0 := h1.c0; have d1 := h1.c1; have d2 := h1.c2)
        | (go_at_call 45; (with_reducible refine (HF.out _ h1).mono ?_); rintro e w2 ⟨rfl, h2, k2⟩)
        | fail)
    try rw [Exit.noGoto_ret]
    go_ret
    exact ⟨rfl, h1, k1⟩
  · have e1 : yesR bs s = (false, fl (nR bs 1 s).2 3 s.a) := by unfold yesR; rw [if_neg hc]
    have hc : 1 < (nR bs 1 s).1 := Int.not_le.1 hc
    rw [e1]
    have HF : Hid (∀ w1, Dc w1 D r v pv bs P (nR bs 1 s).2 → _) := fun w1 h1 => fail_any D r v pv bs P (nR bs 1 s).2 3 s.a w1 h1
    generalize (nR bs 1 s).1 = n at *
    generalize (nR bs 1 s).2 = s1 at *
    clear e1 h
    obtain ⟨hb0, hb1⟩ := hbd
    go_enter Tryz.func89, Tryz.ntmps89
    go_wp2_with (first
        | (go_at_call 87; (with_reducible refine hat.mono ?_); rintro e w0 ⟨rfl, hw⟩; have hw := hw.symm; subst hw)
        | (go_at_call 122; (with_reducible refine hu.mono ?_); rintro e w1 ⟨rfl, h1, k1⟩; have d0 := h1.c0; have d1 := h1.c1; have d2 := h1.c2)
        | (go_at_call 45; (with_reducible refine (HF.out _ h1).mono ?_); rintro e w2 ⟨rfl, h2, k2⟩)
        | fail)
    refine wp_scope_once 0 (by rfl) ?_
    go_wp2_with (first
        | (go_at_call 87; (with_reducible refine hat.mono ?_); rintro e w0 ⟨rfl, hw⟩; have hw := hw.symm; subst hw)
        | (go_at_call 122; (with_reducible refine hu.mono ?_); rintro e w1 ⟨rfl, h1, k1⟩; have d0 := h1.c0; have d1 := h1.c1; have d2 := h1.c2)
        | (go_at_call 45; (with_reducible refine (HF.out _ h1).mono ?_); rintro e w2 ⟨rfl, h2, k2⟩)
        | fail)
    go_step3
    refine And.intro rfl ?_
    change Code.wp Tryz.prog _ _ _ _
    go_wp2_with (first
        | (go_at_call 87; (with_reducible refine hat.mono ?_); rintro e w0 ⟨rfl, hw⟩; have hw := hw.symm; subst hw)
        | (go_at_call 122; (with_reducible refine hu.mono ?_); rintro e w1 ⟨rfl, h1, k1⟩; have d0 := h1.c0; have d1 := h1.c1; have d2 := h1.c2)
        | (go_at_call 45; (with_reducible refine (HF.out _ h1).mono ?_); rintro e w2 ⟨rfl, h2, k2⟩)
        | fail)
    rw [Exit.noGoto_ret]
    go_ret
    exact ⟨rfl, h2, k1.trans k2⟩

set_option maxHeartbeats 2000000 in
theorem dtext_any (w : World) (h : Dc w D r v pv bs P s) :
    Calls Tryz.prog 88 #[.pointer (some ⟨D, 0, none⟩)] w fun e w' => e = .returned (.string (txtR bs P s).1) ∧ Dc w' D r v pv bs P (txtR bs P s).2 ∧ Dk D r w w' := by
  have hat := at_any r v bs s.a s.f w h.rd
  have hu := u2_any D r v pv bs P s w h
  have hbd := nR_bd bs h.rd.small 2 s
  have hp : pw 2 = 65536 := by decide
  rw [hp] at hbd
  clear hp
  have c0 := h.c0
  have hP := h.pool
  obtain ⟨ao, cap, rfl, hcap, hcap2⟩ := (h.pool w (Cs.refl _ w)).form
  by_cases hc : (nR bs 2 s).1 < P.length
  · have e1 : txtR bs P s = (P.getD (nR bs 2 s).1.toNat ⟨#[]⟩, (nR bs 2 s).2) := by unfold txtR; rw [if_pos hc]
    have HP : Hid (∀ w', Dk D r w w' → ∃ b off, ao = some ⟨b, off, none⟩ ∧ w'.cell? ⟨b, off + (nR bs 2 s).1.toNat, none⟩ = some (.string (P.getD (nR bs 2 s).1.toNat ⟨#[]⟩))) := fun w' k => by
      refine (hP w' k).atS ?_
      have hlt : (nR bs 2 s).1.toNat < P.length := by omega
      rw [List.getElem?_eq_getElem hlt]
      simp [List.getD, hlt]
    clear hP
    obtain ⟨x, hx⟩ : ∃ x, P.getD (nR bs 2 s).1.toNat ⟨#[]⟩ = x := ⟨_, rfl⟩
    rw [hx] at e1 HP
    clear hx
    rw [e1]
    generalize (nR bs 2 s).1 = n at *
    generalize (nR bs 2 s).2 = s1 at *
    clear e1 h
    obtain ⟨hb0, hb1⟩ := hbd
    go_enter Tryz.func88, Tryz.ntmps88
    go_wp2_with (first
        | (go_at_call 87; (with_reducible refine hat.mono ?_); rintro e w0 ⟨rfl, hw⟩; have hw := hw.symm; subst hw)
        | (go_at_call 84; (with_reducible refine hu.mono ?_); rintro e w1 ⟨rfl, h1, k1⟩; have d0 := h1.c0; have d1 := h1.c1; have d2 := h1.c2; obtain ⟨bk, off, hao, hcell⟩ := HP.out _ k1; subst hao)
        | (go_at_call 45; (with_reducible refine (HF.out _ h1).mono ?_); rintro e w2 ⟨rfl, h2, k2⟩)
        | fail)
    try go_step3
    go_wp2_with (first
        | (go_at_call 87; (with_reducible refine hat.mono ?_); rintro e w0 ⟨rfl, hw⟩; have hw := hw.symm; subst hw)
        | (go_at_call 84; (with_reducible refine hu.mono ?_); rintro e w1 ⟨rfl, h1, k1⟩; have d0 := h1.c0; have d1 := h1.c1; have d2 := h1.c2; obtain ⟨bk, off, hao, hcell⟩ := HP.out _ k1; subst hao)
        | (go_at_call 45; (with_reducible refine (HF.out _ h1).mono ?_); rintro e w2 ⟨rfl, h2, k2⟩)
        | fail)
    try rw [Exit.noGoto_ret]
    go_ret
    exact ⟨rfl, h1, k1⟩
  · have e1 : txtR bs P s = (⟨#[]⟩, fl (nR bs 2 s).2 4 s.a) := by unfold txtR; rw [if_neg hc]
    have hc : (P.length : Int) ≤ (nR bs 2 s).1 := Int.not_lt.1 hc
    clear hP
    rw [e1]
    have HF : Hid (∀ w1, Dc w1 D r v (.slice ao P.length cap) bs P (nR bs 2 s).2 → _) := fun w1 h1 => fail_any D r v (.slice ao P.length cap) bs P (nR bs 2 s).2 4 s.a w1 h1
    generalize (nR bs 2 s).1 = n at *
    generalize (nR bs 2 s).2 = s1 at *
    clear e1 h
    obtain ⟨hb0, hb1⟩ := hbd
    go_enter Tryz.func88, Tryz.ntmps88
    go_wp2_with (first
        | (go_at_call 87; (with_reducible refine hat.mono ?_); rintro e w0 ⟨rfl, hw⟩; have hw := hw.symm; subst hw)
        | (go_at_call 84; (with_reducible refine hu.mono ?_); rintro e w1 ⟨rfl, h1, k1⟩; have d0 := h1.c0; have d1 := h1.c1; have d2 := h1.c2)
        | (go_at_call 45; (with_reducible refine (HF.out _ h1).mono ?_); rintro e w2 ⟨rfl, h2, k2⟩)
        | fail)
    refine wp_scope_once 0 (by rfl) ?_
    go_wp2_with (first
        | (go_at_call 87; (with_reducible refine hat.mono ?_); rintro e w0 ⟨rfl, hw⟩; have hw := hw.symm; subst hw)
        | (go_at_call 84; (with_reducible refine hu.mono ?_); rintro e w1 ⟨rfl, h1, k1⟩; have d0 := h1.c0; have d1 := h1.c1; have d2 := h1.c2)
        | (go_at_call 45; (with_reducible refine (HF.out _ h1).mono ?_); rintro e w2 ⟨rfl, h2, k2⟩)
        | fail)
    go_step3
    refine And.intro rfl ?_
    change Code.wp Tryz.prog _ _ _ _
    go_wp2_with (first
        | (go_at_call 87; (with_reducible refine hat.mono ?_); rintro e w0 ⟨rfl, hw⟩; have hw := hw.symm; subst hw)
        | (go_at_call 84; (with_reducible refine hu.mono ?_); rintro e w1 ⟨rfl, h1, k1⟩; have d0 := h1.c0; have d1 := h1.c1; have d2 := h1.c2)
        | (go_at_call 45; (with_reducible refine (HF.out _ h1).mono ?_); rintro e w2 ⟨rfl, h2, k2⟩)
        | fail)
    rw [Exit.noGoto_ret]
    go_ret
    exact ⟨rfl, h2, k1.trans k2⟩
end
end Go.Proofs.YtdalibfgkkgcpaaGreat
namespace Go.Proofs.YtdalibfgkkgcpaaGreat
open Go.RowKit
set_option linter.unusedVariables false

theorem info54 : (Tryz.prog.info? 54).map (·.size) = some 3 := by kernel_rfl
theorem info77 : (Tryz.prog.info? 77).map (·.size) = some 4 := by kernel_rfl
theorem info45 : (Tryz.prog.info? 45).map (·.size) = some 8 := by kernel_rfl
theorem info26 : (Tryz.prog.info? 26).map (·.size) = some 7 := by kernel_rfl
section
variable {w w1 w2 : World} {D r : Nat} {v pv : Value} {bs : List Int} {P : List ByteArray} {s s1 s2 : St}
theorem Dc.re (h0 : Dc w D r v pv bs P s) (h1 : Dc w1 D r v pv bs P s1) (k : Dk D r w w2) (hb : ∀ b, b < w.heap.size → w2.heap[b]? = w1.heap[b]?) : Dc w2 D r v pv bs P s1 :=
  ⟨⟨(hb r h0.rd.lt).trans h1.rd.blk, ownsRow_same h1.rd.own (fun g hg => hb g (h0.rd.ownlt hg)), h1.rd.small, h1.rd.le, h1.rd.len⟩, (hb D h0.lt).trans h1.blk, fun w'' k' => h0.pool w'' (k.trans k')⟩
/-- Since w a struct has been made at g, and stands so. -/
structure Bx (w : World) (g : Nat) (T : TypeId) (cs : Array Value) (D r : Nat) (v pv : Value) (bs : List Int) (P : List ByteArray) (w1 : World) (s1 : St) : Prop where
  h0 : ∃ s0, Dc w D r v pv bs P s0
  hg : w.heap.size ≤ g
  dc : Dc w1 D r v pv bs P s1
  k : Dk D r w w1
  b : w1.heap[g]? = some (.cells cs T)
variable {g : Nat} {T : TypeId} {cs : Array Value}
theorem Bx.new (h : Dc w D r v pv bs P s) (cs : Array Value) (T : TypeId) : Bx w w.heap.size T cs D r v pv bs P (w.alloc (.cells cs T)) s :=
  ⟨⟨s, h⟩, Nat.le_refl _, h.keep ((Ch.refl w).alloc _), (Cs.refl _ w).alloc _, heap_alloc_new _ _⟩
theorem Bx.lt (h : Bx w g T cs D r v pv bs P w1 s1) : g < w1.heap.size := (Array.getElem?_eq_some_iff.1 h.b).1
theorem Bx.nD (h : Bx w g T cs D r v pv bs P w1 s1) : ¬ (g = D ∨ g = r) := by
  obtain ⟨s0, h0⟩ := h.h0
  have a := h0.lt
  have b := h0.rd.lt
  have c := h.hg
  omega
theorem Bx.call (h : Bx w g T cs D r v pv bs P w1 s1) (hd : Dc w2 D r v pv bs P s2) (hk : Dk D r w1 w2) : Bx w g T cs D r v pv bs P w2 s2 :=
  ⟨h.h0, h.hg, hd, h.k.trans hk, (hk.block g h.lt h.nD).trans h.b⟩
theorem Bx.ch (h : Bx w g T cs D r v pv bs P w1 s1) (hk : Ch w1 w2) : Bx w g T cs D r v pv bs P w2 s1 := h.call (h.dc.keep hk) (Cs.of_ch hk)
theorem Bx.set (h : Bx w g T cs D r v pv bs P w1 s1) (i : Nat) (u : Value) : Bx w g T (cs.setIfInBounds i u) D r v pv bs P (w1.setCell ⟨g, i, none⟩ u) s1 := by
  obtain ⟨s0, h0⟩ := h.h0
  have k : Dk D r w (w1.setCell ⟨g, i, none⟩ u) := Cs.setCell h.k (Or.inr h.hg) u
  refine ⟨⟨s0, h0⟩, h.hg, h0.re h.dc k (fun b hb => Below.heap_setCell _ _ _ _ (by rintro rfl; have := h.hg; exact absurd hb (by simpa using this))), k, ?_⟩
  simp [World.setCell, Array.getElem?_modify, h.b]
theorem Bx.c (h : Bx w g T cs D r v pv bs P w1 s1) (i : Nat) {u : Value} (hu : cs[i]? = some u) : w1.cell? ⟨g, i, none⟩ = some u := by simp [World.cell?, h.b, hu]
theorem Bx.fz (h : Bx w g T cs D r v pv bs P w1 s1) (i : Nat) : w1.frozen? ⟨g, i, none⟩ = false := by simp [World.frozen?, h.b]
end

section
variable (D r : Nat) (v pv : Value) (bs : List Int) (P : List ByteArray) (s : St)
def fldR : Fld × St := (⟨(txtR bs P s).1, (txtR bs P (txtR bs P s).2).1, (yesR bs (txtR bs P (txtR bs P s).2).2).1⟩,
  mu (yesR bs (txtR bs P (txtR bs P s).2).2).2 (fldE ⟨(txtR bs P s).1, (txtR bs P (txtR bs P s).2).1, (yesR bs (txtR bs P (txtR bs P s).2).2).1⟩) s.a)
theorem txtR_size {n : Nat} (hP : ∀ t ∈ P, t.size ≤ n) : (txtR bs P s).1.size ≤ n := by
  unfold txtR
  split
  · simp only [List.getD]
    cases h : P[(nR bs 2 s).1.toNat]? with
    | none => exact Nat.zero_le _
    | some x => exact hP x (List.mem_of_getElem? h)
  · exact Nat.zero_le _

set_option maxHeartbeats 4000000 in
theorem field_any (hP : ∀ t ∈ P, t.size ≤ 65535) (w : World) (h : Dc w D r v pv bs P s) :
    Calls Tryz.prog 92 #[.pointer (some ⟨D, 0, none⟩)] w fun e w' => e = .returned (fldV (fldR bs P s).1) ∧ Dc w' D r v pv bs P (fldR bs P s).2 ∧ Dk D r w w' := by
  unfold fldR
  have z1 := txtR_size bs P s hP
  obtain ⟨⟨x1, s1⟩, e1⟩ : ∃ q, txtR bs P s = q := ⟨_, rfl⟩
  have H1 : Hid (∀ w', Dc w' D r v pv bs P s → Calls Tryz.prog 88 #[.pointer (some ⟨D, 0, none⟩)] w' fun e w'' => e = .returned (.string x1) ∧ Dc w'' D r v pv bs P s1 ∧ Dk D r w' w'') := fun w' h' => by
    have := dtext_any D r v pv bs P s w' h'; rw [e1] at this; exact this
  rw [e1] at z1 ⊢
  dsimp only at z1 ⊢
  have z2 := txtR_size bs P s1 hP
  obtain ⟨⟨x2, s2⟩, e2⟩ : ∃ q, txtR bs P s1 = q := ⟨_, rfl⟩
  have H2 : Hid (∀ w', Dc w' D r v pv bs P s1 → Calls Tryz.prog 88 #[.pointer (some ⟨D, 0, none⟩)] w' fun e w'' => e = .returned (.string x2) ∧ Dc w'' D r v pv bs P s2 ∧ Dk D r w' w'') := fun w' h' => by
    have := dtext_any D r v pv bs P s1 w' h'; rw [e2] at this; exact this
  rw [e2] at z2 ⊢
  dsimp only at z2 ⊢
  obtain ⟨⟨x3, s3⟩, e3⟩ : ∃ q, yesR bs s2 = q := ⟨_, rfl⟩
  have H3 : Hid (∀ w', Dc w' D r v pv bs P s2 → Calls Tryz.prog 89 #[.pointer (some ⟨D, 0, none⟩)] w' fun e w'' => e = .returned (.bool x3) ∧ Dc w'' D r v pv bs P s3 ∧ Dk D r w' w'') := fun w' h' => by
    have := dyes_any D r v pv bs P s2 w' h'; rw [e3] at this; exact this
  rw [e3]
  dsimp only
  have H4 : Hid (∀ w', Calls Tryz.prog 37 #[fldV ⟨x1, x2, x3⟩] w' fun e w'' => e = .returned (.int .i64 (fldE ⟨x1, x2, x3⟩)) ∧ Ch w' w'') := fun w' => (checkField_any ⟨x1, x2, x3⟩ w' (by simpa using Nat.le_trans z1 (by omega)) (by simpa using Nat.le_trans z2 (by omega))).mono (fun e w'' hh => ⟨hh.1, hh.2⟩)
  have H5 : Hid (∀ w', Dc w' D r v pv bs P s3 → _) := fun w' h' => must_any D r v pv bs P s3 (fldE ⟨x1, x2, x3⟩) s.a w' h'
  generalize fldE ⟨x1, x2, x3⟩ = q at *
  generalize mu s3 q s.a = s4 at *
  clear e1 e2 e3 z1 z2 hP
  unfold fldV at *
  dsimp only at *
  have B0 := Bx.new h #[.string ⟨#[]⟩, .string ⟨#[]⟩, .bool false] 54
  clear h
  have c0 := B0.dc.c0
  go_enter Tryz.func92, Tryz.ntmps92
  go_wp2_with (first
    | (go_at_call 87; (with_reducible refine (at_any r v bs s.a s.f _ B0.dc.rd).mono ?_); rintro e w' ⟨rfl, hw⟩; have hw := hw.symm; subst hw)
    | (go_at_call 88; (with_reducible refine (H1.out _ B0.dc).mono ?_); rintro e w1 ⟨rfl, h1, k1⟩; have B1 := B0.call h1 k1)
    | (go_at_call 88; (with_reducible refine (H2.out _ B1.dc).mono ?_); rintro e w2 ⟨rfl, h2, k2⟩; have B2 := B1.call h2 k2; have f20 := B2.fz 0; have f21 := B2.fz 1; have g20 := B2.c 0 rfl; have g21 := B2.c 1 rfl)
    | (go_at_call 89; (with_reducible refine (H3.out _ ((B2.set 0 (.string x1)).set 1 (.string x2)).dc).mono ?_); rintro e w3 ⟨rfl, h3, k3⟩; have B3 : Bx w w.heap.size 54 #[.string x1, .string x2, .bool false] D r v pv bs P w3 s3 := ((B2.set 0 (.string x1)).set 1 (.string x2)).call h3 k3; have f3 := B3.fz 2; have g30 := B3.c 0 rfl; have g31 := B3.c 1 rfl; have g32 := B3.c 2 rfl)
    | (go_at_call 37; (with_reducible refine (H4.out _).mono ?_); rintro e w4 ⟨rfl, k4⟩; have B4 : Bx w w.heap.size 54 #[.string x1, .string x2, .bool x3] D r v pv bs P w4 s3 := (B3.set 2 (.bool x3)).ch k4)
    | (go_at_call 90; (with_reducible refine (H5.out _ B4.dc).mono ?_); rintro e w5 ⟨rfl, h5, k5⟩; have B5 := B4.call h5 k5; have f50 := B5.fz 0; have f51 := B5.fz 1; have f52 := B5.fz 2; have g50 := B5.c 0 rfl; have g51 := B5.c 1 rfl; have g52 := B5.c 2 rfl)
    | fail)
  have B6 : Bx w w.heap.size 54 #[.string x1, .string x2, .bool x3] D r v pv bs P _ s4 := ((B5.set 0 (.string x1)).set 1 (.string x2)).set 2 (.bool x3)
  refine bodyPost_ret (results_cell_row rfl _ _ w.heap.size 54 _ (0, 0) _ rfl B6.b Tryz.underlying54 rfl info54) rfl ?_
  exact ⟨rfl, B6.dc, B6.k⟩
end
end Go.Proofs.YtdalibfgkkgcpaaGreat
