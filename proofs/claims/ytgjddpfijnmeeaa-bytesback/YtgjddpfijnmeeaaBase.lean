/- Plain facts on worlds and byte rows for the proofs of chapter 1: a reader in memory, a frame of blocks. -/
import Derived.WalkKit
import Derived.Deep.Draws
namespace Go.Proofs.Ytgjddpfijnmeeaa
open Go.RowKit

/-- Outside the blocks of S nothing that was there has turned. -/
structure Ch (S : Nat → Prop) (w w' : World) : Prop where
  os : w'.os = w.os
  tape : w'.tape = w.tape
  output : w'.output = w.output
  size : w.heap.size ≤ w'.heap.size
  block : ∀ k, k < w.heap.size → ¬ S k → w'.heap[k]? = w.heap[k]?

theorem Ch.refl (S : Nat → Prop) (w : World) : Ch S w w := ⟨rfl, rfl, rfl, Nat.le_refl _, fun _ _ _ => rfl⟩
theorem Ch.trans {S : Nat → Prop} {a b c : World} (h : Ch S a b) (k : Ch S b c) : Ch S a c :=
  ⟨k.os.trans h.os, k.tape.trans h.tape, k.output.trans h.output, Nat.le_trans h.size k.size, fun i hi hs => (k.block i (Nat.lt_of_lt_of_le hi h.size) hs).trans (h.block i hi hs)⟩
theorem Ch.mono {S T : Nat → Prop} {a b : World} (h : Ch S a b) (hst : ∀ k, k < a.heap.size → S k → T k) : Ch T a b :=
  ⟨h.os, h.tape, h.output, h.size, fun k hk hs => h.block k hk (fun x => hs (hst k hk x))⟩
theorem Ch.drewN {S : Nat → Prop} {a b : World} (h : Ch S a b) (n : Nat) : Ch S a (b.drewN n) := ⟨h.os, h.tape, h.output, h.size, h.block⟩
theorem Ch.drew {S : Nat → Prop} {a b : World} (h : Ch S a b) : Ch S a b.drew := ⟨h.os, h.tape, h.output, h.size, h.block⟩
theorem Ch.setCell {S : Nat → Prop} {a b : World} (h : Ch S a b) {p : Addr} (hp : S p.block ∨ a.heap.size ≤ p.block) (u : Value) : Ch S a (b.setCell p u) := by
  refine ⟨h.os, h.tape, h.output, ?_, fun k hk hs => ?_⟩
  · simpa [World.setCell] using h.size
  · rw [Below.heap_setCell _ _ _ _ (by rintro rfl; rcases hp with hp | hp; exact hs hp; omega)]
    exact h.block k hk hs
theorem Ch.alloc {S : Nat → Prop} {a b : World} (h : Ch S a b) (o : Obj) : Ch S a (b.alloc o) := by
  refine ⟨h.os, h.tape, h.output, ?_, fun k hk hs => ?_⟩
  · have := h.size; simp; omega
  · rw [Below.heap_alloc _ _ _ (Nat.lt_of_lt_of_le hk h.size)]
    exact h.block k hk hs
theorem Ch.grown {S : Nat → Prop} {a b c : World} {row : Option Nat} (h : Ch S a b) (hg : b.grownBy c row) (hr : ∀ k, row = some k → S k ∨ a.heap.size ≤ k) : Ch S a c :=
  ⟨hg.os.trans h.os, hg.tape.trans h.tape, hg.output.trans h.output, Nat.le_trans h.size hg.size, fun k hk hs => (hg.block k (Nat.lt_of_lt_of_le hk h.size) (fun e => by rcases hr k e.symm with x | x; exact hs x; omega)).trans (h.block k hk hs)⟩
theorem Ch.below {S : Nat → Prop} {a b : World} {B : Nat} (h : Ch S a b) (hB : B ≤ a.heap.size) (hs : ∀ k, S k → B ≤ k) : Below B a b :=
  ⟨h.os, h.tape, h.output, h.size, fun k hk => h.block k (by omega) (fun x => by have := hs k x; omega)⟩

theorem ownsRow_same {w w' : World} {base : Nat} {e : TypeId} {size : Nat} {v : Value} {n : Nat} {xs : List Value} (h : w.ownsRow base e size v n xs)
    (hb : ∀ g, v.ownBlock = some g → w'.heap[g]? = w.heap[g]?) : w'.ownsRow base e size v n xs := by
  obtain ⟨h1, h2⟩ := h
  refine ⟨h1, ?_⟩
  rcases h2 with h2 | ⟨g, cap, cur, hv, hg, hh, r⟩
  · exact Or.inl h2
  · exact Or.inr ⟨g, cap, cur, hv, hg, by rw [hb g (by rw [hv]; rfl)]; exact hh, r⟩

/-- The reader at block r: its bytes, its place, whether it failed. -/
structure Rd (w : World) (r : Nat) (v : Value) (bs : List Int) (at_ : Nat) (f : Bool) : Prop where
  blk : w.heap[r]? = some (.cells #[v, .int .i64 at_, .bool f] 57 (0, 0))
  own : w.ownsRow 0 5 1 v bs.length (bs.map (Value.int .u8))
  small : ∀ x ∈ bs, 0 ≤ x ∧ x < 256
  le : at_ ≤ bs.length
  len : bs.length ≤ 140737488355328

theorem Rd.lt {w : World} {r : Nat} {v : Value} {bs : List Int} {at_ : Nat} {f : Bool} (h : Rd w r v bs at_ f) : r < w.heap.size := by
  rcases Nat.lt_or_ge r w.heap.size with hlt | hge
  · exact hlt
  · have := h.blk; rw [Array.getElem?_eq_none hge] at this; cases this

theorem Rd.ne {w : World} {r : Nat} {v : Value} {bs : List Int} {at_ : Nat} {f : Bool} (h : Rd w r v bs at_ f) : v.ownBlock ≠ some r := by
  intro e
  rcases h.own.2 with ⟨hv, _⟩ | ⟨g, cap, cur, hv, hg, hh, _⟩
  · rw [hv] at e; cases e
  · rw [hv] at e
    have : g = r := by simpa [Value.ownBlock] using e
    subst this
    rw [h.blk] at hh
    simp at hh

theorem Rd.ownlt {w : World} {r : Nat} {v : Value} {bs : List Int} {at_ : Nat} {f : Bool} (h : Rd w r v bs at_ f) {g : Nat} (hg : v.ownBlock = some g) : g < w.heap.size := (h.own.lt g hg).2

theorem Rd.keep {w w' : World} {S : Nat → Prop} {r : Nat} {v : Value} {bs : List Int} {at_ : Nat} {f : Bool} (h : Rd w r v bs at_ f) (c : Ch S w w') (hr : ¬ S r) (hv : ∀ g, v.ownBlock = some g → ¬ S g) : Rd w' r v bs at_ f :=
  ⟨(c.block r h.lt hr).trans h.blk, ownsRow_same h.own (fun g hg => c.block g (h.ownlt hg) (hv g hg)), h.small, h.le, h.len⟩

theorem Rd.c0 {w : World} {r : Nat} {v : Value} {bs : List Int} {at_ : Nat} {f : Bool} (h : Rd w r v bs at_ f) : w.cell? ⟨r, 0, none⟩ = some v := by simp [World.cell?, h.blk]
theorem Rd.c1 {w : World} {r : Nat} {v : Value} {bs : List Int} {at_ : Nat} {f : Bool} (h : Rd w r v bs at_ f) : w.cell? ⟨r, 1, none⟩ = some (.int .i64 at_) := by simp [World.cell?, h.blk]
theorem Rd.c2 {w : World} {r : Nat} {v : Value} {bs : List Int} {at_ : Nat} {f : Bool} (h : Rd w r v bs at_ f) : w.cell? ⟨r, 2, none⟩ = some (.bool f) := by simp [World.cell?, h.blk]
theorem Rd.fz {w : World} {r : Nat} {v : Value} {bs : List Int} {at_ : Nat} {f : Bool} (h : Rd w r v bs at_ f) (o : Nat) : w.frozen? ⟨r, o, none⟩ = false := by simp [World.frozen?, h.blk]

theorem Rd.set1 {w : World} {r : Nat} {v : Value} {bs : List Int} {at_ : Nat} {f : Bool} (h : Rd w r v bs at_ f) (n : Nat) (hn : n ≤ bs.length) : Rd (w.setCell ⟨r, 1, none⟩ (.int .i64 n)) r v bs n f := by
  refine ⟨?_, ownsRow_same h.own (fun g hg => ?_), h.small, hn, h.len⟩
  · simp [World.setCell, Array.getElem?_modify, h.blk]
  · exact Below.heap_setCell _ _ _ _ (fun e => h.ne (by rw [hg, e]))
theorem Rd.set2 {w : World} {r : Nat} {v : Value} {bs : List Int} {at_ : Nat} {f : Bool} (h : Rd w r v bs at_ f) (b : Bool) : Rd (w.setCell ⟨r, 2, none⟩ (.bool b)) r v bs at_ b := by
  refine ⟨?_, ownsRow_same h.own (fun g hg => ?_), h.small, h.le, h.len⟩
  · simp [World.setCell, Array.getElem?_modify, h.blk]
  · exact Below.heap_setCell _ _ _ _ (fun e => h.ne (by rw [hg, e]))
theorem Rd.drewN {w : World} {r : Nat} {v : Value} {bs : List Int} {at_ : Nat} {f : Bool} (h : Rd w r v bs at_ f) (n : Nat) : Rd (w.drewN n) r v bs at_ f := ⟨h.blk, h.own, h.small, h.le, h.len⟩

/-- Its bytes' cells. -/
theorem Rd.form {w : World} {r : Nat} {v : Value} {bs : List Int} {at_ : Nat} {f : Bool} (h : Rd w r v bs at_ f) (hn : 0 < bs.length) :
    ∃ g cap, v = .slice (some ⟨g, 0, none⟩) bs.length cap ∧ bs.length ≤ cap ∧ cap ≤ maxLen ∧ g < w.heap.size ∧ ∀ k, k < bs.length → w.cell? ⟨g, k, none⟩ = some (.int .u8 (bs.getD k 0)) := by
  rcases h.own.2 with ⟨_, h0⟩ | ⟨g, cap, cur, hv, hb, hg, hc1, hc2, hc3, ht⟩
  · omega
  · refine ⟨g, cap, hv, hc1, hc2, h.ownlt (by rw [hv]; rfl), fun k hk => ?_⟩
    simp only [World.cell?, hg]
    have e1 : (cur.toList.take (bs.length * 1))[k]? = (bs.map (Value.int .u8))[k]? := by rw [ht]
    rw [List.getElem?_take_of_lt (by omega)] at e1
    simp at e1
    simp [e1, List.getElem?_eq_getElem hk]

/-- The number of a row of bytes, the greatest first. -/
def num (l : List Int) : Int := l.foldl (fun n b => n * 256 + b) 0
theorem num_snoc (l : List Int) (b : Int) : num (l ++ [b]) = num l * 256 + b := by simp [num]
def pw : Nat → Int
  | 0 => 1
  | n + 1 => pw n * 256
theorem num_bdA (l : List Int) : ∀ (acc c : Int), (∀ x ∈ l, 0 ≤ x ∧ x < 256) → 0 ≤ acc → acc < c → 0 ≤ l.foldl (fun n b => n * 256 + b) acc ∧ l.foldl (fun n b => n * 256 + b) acc < c * pw l.length := by
  induction l with
  | nil => intro acc c _ h0 h1; simp only [List.foldl_nil, List.length_nil, pw]; omega
  | cons b l ih =>
    intro acc c h h0 h1
    have h2 := h b (by simp)
    have h3 := ih (acc * 256 + b) (c * 256) (fun x hx => h x (by simp [hx])) (by omega) (by omega)
    simp only [List.foldl_cons, List.length_cons, pw]
    rw [Int.mul_comm (pw l.length) 256, ← Int.mul_assoc]
    exact h3
theorem num_bd (l : List Int) (h : ∀ x ∈ l, 0 ≤ x ∧ x < 256) : 0 ≤ num l ∧ num l < pw l.length := by
  have := num_bdA l 0 1 h (by omega) (by omega)
  rwa [Int.one_mul] at this
theorem take_one {l : List Int} {k : Nat} (h : k < l.length) : l.take (k + 1) = l.take k ++ [l.getD k 0] := by
  rw [List.take_succ_eq_append_getElem h]; simp [h]
theorem num_step (bs : List Int) (a k : Nat) (h : a + k < bs.length) : num ((bs.drop a).take (k + 1)) = num ((bs.drop a).take k) * 256 + bs.getD (a + k) 0 := by
  rw [take_one (by simp; omega), num_snoc]
  congr 1
  simp [List.getD]
theorem num_take_bd (bs : List Int) (a k : Nat) (h : ∀ x ∈ bs, 0 ≤ x ∧ x < 256) (hk : a + k ≤ bs.length) : 0 ≤ num ((bs.drop a).take k) ∧ num ((bs.drop a).take k) < pw k := by
  have := num_bd ((bs.drop a).take k) (fun x hx => h x (List.mem_of_mem_drop (List.mem_of_mem_take hx)))
  rwa [List.length_take, List.length_drop, Nat.min_eq_left (by omega)] at this
theorem getD_bd (bs : List Int) (h : ∀ x ∈ bs, 0 ≤ x ∧ x < 256) (k : Nat) : 0 ≤ bs.getD k 0 ∧ bs.getD k 0 < 256 := by
  by_cases hk : k < bs.length
  · have := h bs[k] (List.getElem_mem hk)
    simpa [List.getD, hk] using this
  · simp [List.getD, List.getElem?_eq_none (Nat.le_of_not_lt hk)]

theorem or_u32 (n b : Int) (h0 : 0 ≤ n) (h1 : n < 16777216) (h2 : 0 ≤ b) (h3 : b < 256) : bits .or .u32 (n * 256 % 4294967296) (b % 4294967296) = n * 256 + b := by
  have e1 : n * 256 % 4294967296 = n * 256 := by omega
  have e2 : b % 4294967296 = b := by omega
  rw [e1, e2]
  exact bits_join .u32 32 (by decide) (fun m h₀ h₁ => by rw [IntKind.wrap_u32]; omega) 8 _ _ (by omega) (by omega) (by omega) (by omega) (by omega) (by omega)
theorem pw_le (k : Nat) (h : k < 4) : pw k ≤ 16777216 := by
  match k, h with
  | 0, _ => decide
  | 1, _ => decide
  | 2, _ => decide
  | 3, _ => decide
/-- A round of a reader's loop. -/
theorem num_round (bs : List Int) (a k : Nat) (h : ∀ x ∈ bs, 0 ≤ x ∧ x < 256) (hk : a + k < bs.length) (h4 : k < 4) :
    bits .or .u32 (num ((bs.drop a).take k) * 256 % 4294967296) (bs[a + k]?.getD 0 % 4294967296) = num ((bs.drop a).take (k + 1)) := by
  have h1 := num_take_bd bs a k h (by omega)
  have h2 := getD_bd bs h (a + k)
  have h3 := pw_le k h4
  rw [num_step bs a k hk]
  exact or_u32 _ _ h1.1 (by omega) h2.1 h2.2

/-- A slice value whose elements are these bytes. -/
def Row (w : World) (sv : Value) (bs : List Int) : Prop :=
  (sv = .slice none 0 0 ∧ bs = []) ∨ ∃ a cap, sv = .slice (some a) bs.length cap ∧ ∀ j u, (bs.map (Value.int .u8))[j]? = some u → w.cell? (a.add j) = some u

/-- The writer at block r: its bytes; bad. -/
structure Wt (w : World) (r : Nat) (v : Value) (bs : List Int) (bad : Bool) : Prop where
  blk : w.heap[r]? = some (.cells #[v, .bool bad] 27 (0, 0))
  own : w.ownsRow 0 5 1 v bs.length (bs.map (Value.int .u8))
  len : bs.length ≤ 140737488355328
theorem Wt.lt {w : World} {r : Nat} {v : Value} {bs : List Int} {b : Bool} (h : Wt w r v bs b) : r < w.heap.size := by
  rcases Nat.lt_or_ge r w.heap.size with hlt | hge
  · exact hlt
  · have := h.blk; rw [Array.getElem?_eq_none hge] at this; cases this
theorem Wt.ne {w : World} {r : Nat} {v : Value} {bs : List Int} {b : Bool} (h : Wt w r v bs b) : v.ownBlock ≠ some r := by
  intro e
  rcases h.own.2 with ⟨hv, _⟩ | ⟨g, cap, cur, hv, hg, hh, _⟩
  · rw [hv] at e; cases e
  · rw [hv] at e
    have : g = r := by simpa [Value.ownBlock] using e
    subst this
    rw [h.blk] at hh
    simp at hh
theorem Wt.ownlt {w : World} {r : Nat} {v : Value} {bs : List Int} {b : Bool} (h : Wt w r v bs b) {g : Nat} (hg : v.ownBlock = some g) : g < w.heap.size := (h.own.lt g hg).2
theorem Wt.keep {w w' : World} {S : Nat → Prop} {r : Nat} {v : Value} {bs : List Int} {b : Bool} (h : Wt w r v bs b) (c : Ch S w w') (hr : ¬ S r) (hv : ∀ g, v.ownBlock = some g → ¬ S g) : Wt w' r v bs b :=
  ⟨(c.block r h.lt hr).trans h.blk, ownsRow_same h.own (fun g hg => c.block g (h.ownlt hg) (hv g hg)), h.len⟩
theorem Wt.c0 {w : World} {r : Nat} {v : Value} {bs : List Int} {b : Bool} (h : Wt w r v bs b) : w.cell? ⟨r, 0, none⟩ = some v := by simp [World.cell?, h.blk]
theorem Wt.c1 {w : World} {r : Nat} {v : Value} {bs : List Int} {b : Bool} (h : Wt w r v bs b) : w.cell? ⟨r, 1, none⟩ = some (.bool b) := by simp [World.cell?, h.blk]
theorem Wt.fz {w : World} {r : Nat} {v : Value} {bs : List Int} {b : Bool} (h : Wt w r v bs b) (o : Nat) : w.frozen? ⟨r, o, none⟩ = false := by simp [World.frozen?, h.blk]
theorem Wt.drewN {w : World} {r : Nat} {v : Value} {bs : List Int} {b : Bool} (h : Wt w r v bs b) (n : Nat) : Wt (w.drewN n) r v bs b := ⟨h.blk, h.own, h.len⟩
/-- What an owned value is as a row. -/
theorem row_of_owns {w : World} {base : Nat} {v : Value} {bs : List Int} (h : w.ownsRow base 5 1 v bs.length (bs.map (Value.int .u8))) : Row w v bs := by
  rcases h.2 with ⟨hv, h0⟩ | ⟨g, cap, cur, hv, hb, hg, hc1, hc2, hc3, ht⟩
  · exact Or.inl ⟨hv, List.eq_nil_of_length_eq_zero h0⟩
  · refine Or.inr ⟨_, cap, hv, fun j u hj => ?_⟩
    have hadd : (⟨g, 0, none⟩ : Addr).add j = ⟨g, j, none⟩ := by unfold Addr.add; split <;> simp_all
    rw [hadd]
    simp only [World.cell?, hg]
    have hjl : j < bs.length := by
      rcases Nat.lt_or_ge j bs.length with hlt | hge
      · exact hlt
      · rw [List.getElem?_eq_none (by simpa using hge)] at hj; cases hj
    have e1 : (cur.toList.take (bs.length * 1))[j]? = (bs.map (Value.int .u8))[j]? := by rw [ht]
    rw [List.getElem?_take_of_lt (by omega)] at e1
    rw [hj] at e1
    simpa using e1

theorem own_form {w : World} {base : Nat} {e : TypeId} {size : Nat} {v : Value} {n : Nat} {xs : List Value} (h : w.ownsRow base e size v n xs) : ∃ ao c, v = .slice ao n c := by
  rcases h.2 with ⟨hv, h0⟩ | ⟨g, cap, cur, hv, _⟩
  · exact ⟨none, 0, by rw [hv, h0]⟩
  · exact ⟨_, _, hv⟩

end Go.Proofs.Ytgjddpfijnmeeaa
