/- The encoder's writer: its bytes. -/
import Derived.Test.YtdalibfgkkgcpaaGreatKp
import Derived.Deep.AppendLies
import Derived.Deep.RegionHeld3
import Derived.Deep.DrawnRows
import Derived.Laws.AppendOwnNone
import Derived.Lib.SliceRun
import Derived.Lib.AppendStr
namespace Go.Proofs.YtdalibfgkkgcpaaGreat
open Go.RowKit
set_option linter.unusedVariables false

/-- The lowest bytes of a number, the greatest first. -/
def be (n : Int) : Nat → List Int
  | 0 => []
  | k + 1 => n / 256 ^ k % 256 :: be n k
theorem be_len (n : Int) (k : Nat) : (be n k).length = k := by induction k with
  | zero => rfl
  | succ k ih => simp [be, ih]

/-- A slice value whose elements are these bytes. -/
def Row (w : World) (sv : Value) (bs : List Int) : Prop :=
  (sv = .slice none 0 0 ∧ bs = []) ∨ ∃ a cap, sv = .slice (some a) bs.length cap ∧ ∀ j u, (bs.map (Value.int .u8))[j]? = some u → w.cell? (a.add j) = some u
theorem row_of_owns {w : World} {base : Nat} {v : Value} {bs : List Int} (h : w.ownsRow base 5 1 v bs.length (bs.map (Value.int .u8))) : Row w v bs := by
  rcases h.2 with ⟨hv, h0⟩ | ⟨g, cap, cur, hv, hb, hg, hc1, hc2, hc3, ht⟩
  · exact Or.inl ⟨hv, List.eq_nil_of_length_eq_zero h0⟩
  · refine Or.inr ⟨_, cap, hv, fun j u hj => ?_⟩
    have hadd : (⟨g, 0, none⟩ : Addr).add j = ⟨g, j, none⟩ := by unfold Addr.add; split <;> simp_all
    rw [hadd]
    simp only [World.cell?, hg]
    have hjl : j < bs.length := by
      rcases Nat.lt_or_ge j bs.length with hlt | hge
      · exact hlt
      · rw [List.getElem?_eq_none (by simpa using hge)] at hj; cases hj
    have e1 : (cur.toList.take (bs.length * 1))[j]? = (bs.map (Value.int .u8))[j]? := by rw [ht]
    rw [List.getElem?_take_of_lt (by omega)] at e1
    rw [hj] at e1
    simpa using e1

/-- The encoder at block r: its bytes; the map of places. -/
structure En (B : Nat) (w : World) (r M : Nat) (v : Value) (bs : List Int) : Prop where
  blk : w.heap[r]? = some (.cells #[v, .bool false, .map (some M)] 63)
  own : w.ownsRow B 5 1 v bs.length (bs.map (Value.int .u8))
  br : B ≤ r
variable {B r M : Nat} {v : Value} {bs : List Int} {w : World}
theorem En.c0 (h : En B w r M v bs) : w.cell? ⟨r, 0, none⟩ = some v := by simp [World.cell?, h.blk]
theorem En.c1 (h : En B w r M v bs) : w.cell? ⟨r, 1, none⟩ = some (.bool false) := by simp [World.cell?, h.blk]
theorem En.c2 (h : En B w r M v bs) : w.cell? ⟨r, 2, none⟩ = some (.map (some M)) := by simp [World.cell?, h.blk]
theorem En.fz (h : En B w r M v bs) (o : Nat) : w.frozen? ⟨r, o, none⟩ = false := by simp [World.frozen?, h.blk]
theorem En.lt (h : En B w r M v bs) : r < w.heap.size := (Array.getElem?_eq_some_iff.1 h.blk).1
theorem En.ne (h : En B w r M v bs) : v.ownBlock ≠ some r := fun e => by
  obtain ⟨_, cur, hc⟩ := own_obj h.own e
  rw [h.blk] at hc
  simp at hc
theorem En.keep {w' : World} (h : En B w r M v bs) (c : Ch w w') : En B w' r M v bs := ⟨kept_at c h.blk, ownsRow_keep h.own c, h.br⟩

theorem bad_any (h : En B w r M v bs) : Calls Tryz.prog 62 #[.pointer (some ⟨r, 0, none⟩)] w fun e w' => e = .returned (.bool false) ∧ w' = w := by
  have h1 := h.c1
  go_enter Tryz.func62, Tryz.ntmps62
  go_wp2
  go_ret
  exact ⟨rfl, rfl⟩

theorem nil47 (w : World) (a : Option Addr) (n c n' c' : Nat) : (binOp .eql 29 (.slice a n c) (.slice none n' c')).run Tryz.prog w = .ok (.bool a.isNone) w := Lib.run_eql_slice_nil w _ _ a n c n' c' Tryz.underlying29
theorem bclone_nil (w : World) : Calls Tryz.prog 66 #[.slice none 0 0] w fun e w' => e = .returned (.slice none 0 0) ∧ w' = w := by
  have hq := nil47
  go_enter Tryz.func66, Tryz.ntmps66
  go_wp2
  go_ret
  exact ⟨rfl, rfl⟩
set_option maxHeartbeats 400000 in
theorem bclone_some (a : Addr) (n cap : Nat) (bs : List Int) (w : World) (hn : bs.length = n) (hcell : ∀ j u, (bs.map (Value.int .u8))[j]? = some u → w.cell? (a.add j) = some u) (hb : n ≤ 140737488355328) :
    Calls Tryz.prog 66 #[.slice (some a) n cap] w fun e w' => ∃ v, e = .returned v ∧ w'.ownsRow w.heap.size 5 1 v n (bs.map (Value.int .u8)) ∧ Ch w w' := by
  obtain ⟨i0, hi, hz0, hz1, hz2⟩ := info_parts Tryz.info5
  have hq := nil47
  have hown := World.ownsRow_made (base := w.heap.size) (e := 5) (size := 1) w #[] 0 (Nat.le_refl _) (Nat.zero_le _) rfl
  go_enter Tryz.func66, Tryz.ntmps66
  go_wp2_with (first | (at_builtin; refine wpList_append_own _ rfl _ _ 29 rfl w.heap.size 5 i0 (.int .u8 0) 1 1 Tryz.underlying29 hi hz0 hz1 hz2 rfl (by decide) _ _ _ rfl hown a n cap (bs.map (Value.int .u8)) rfl ?c1 ?c2 ?c3 ?c4 ?c5 ?c6 ?_))
  case c1 => simp [hn]
  case c2 => intro j u hj; rw [World.cell?_alloc_lt _ _ _ (World.block_lt_of_cell? _ _ (hcell j u hj))]; exact hcell j u hj
  case c3 => intro u hu; simp at hu; obtain ⟨x, _, rfl⟩ := hu; rfl
  case c4 => unfold maxLen; omega
  case c5 => omega
  case c6 => simp
  intro v' w1 hown' hgrow _
  go_wp2
  go_ret
  refine ⟨v', rfl, by simpa using hown', ?_⟩
  exact ((Ch.refl _).alloc _).grown hgrow (fun k hk => by simp [Value.ownBlock] at hk; omega)
theorem bclone_any (sv : Value) (bs : List Int) (w : World) (h : Row w sv bs) (hb : bs.length ≤ 140737488355328) :
    Calls Tryz.prog 66 #[sv] w fun e w' => ∃ v, e = .returned v ∧ w'.ownsRow w.heap.size 5 1 v bs.length (bs.map (Value.int .u8)) ∧ Ch w w' := by
  rcases h with ⟨rfl, rfl⟩ | ⟨a, cap, rfl, hc⟩
  · exact (bclone_nil w).mono fun e w' ⟨h1, h2⟩ => by subst h2; exact ⟨_, h1, World.ownsRow_nil _ _ _ _, Ch.refl _⟩
  · exact bclone_some a bs.length cap bs w rfl hc hb
set_option maxHeartbeats 400000 in
theorem bytes_any (h : En B w r M v bs) (hl : bs.length ≤ 140737488355328) :
    Calls Tryz.prog 28 #[.pointer (some ⟨r, 0, none⟩)] w fun e w' => ∃ v', e = .returned v' ∧ w'.ownsRow w.heap.size 5 1 v' bs.length (bs.map (Value.int .u8)) ∧ Ch w w' := by
  have h0 := h.c0
  go_enter Tryz.func28, Tryz.ntmps28
  go_wp2_with fail
  refine (bclone_any v bs _ (row_of_owns h.own) hl).mono ?_
  rintro e w1 ⟨v', rfl, hown, hch⟩
  go_wp2
  go_ret
  exact ⟨v', rfl, hown, hch⟩
end Go.Proofs.YtdalibfgkkgcpaaGreat
