/- The contracts of the writer's functions. -/
import Derived.Test.YtgjddpfijnmeeaaRead
import Derived.Deep.AppendLies
import Derived.Deep.RegionHeld3
import Derived.Deep.DrawnRows
import Derived.Laws.AppendOwnNone
import Derived.Lib.SliceRun
namespace Go.Proofs.Ytgjddpfijnmeeaa
open Go.RowKit
attribute [local go_sem ↓] Go.wp_at_zero Go.wp_at_succ

theorem Try.info5 : (Try.prog.info? 5).map (fun i => (i.zero, i.size, i.bytes)) = some (some (.int .u8 0), 1, 1) := by kernel_rfl

theorem nil25 (w : World) (a : Option Addr) (n c n' c' : Nat) : (binOp .eql 25 (.slice a n c) (.slice none n' c')).run Try.prog w = .ok (.bool a.isNone) w := Lib.run_eql_slice_nil w _ _ a n c n' c' Try.underlying25

theorem clone_nil (w : World) : Calls Try.prog 31 #[.slice none 0 0] w fun e w' => e = .returned (.slice none 0 0) ∧ w' = w := by
  have hq := nil25
  go_enter Try.func31, Try.ntmps31
  go_wp2
  go_ret
  exact ⟨rfl, rfl⟩

set_option maxHeartbeats 400000 in
theorem clone_some (a : Addr) (n cap : Nat) (bs : List Int) (w : World) (hn : bs.length = n) (hcell : ∀ j u, (bs.map (Value.int .u8))[j]? = some u → w.cell? (a.add j) = some u) (hb : n ≤ 140737488355328) :
    Calls Try.prog 31 #[.slice (some a) n cap] w fun e w' => ∃ v, e = .returned v ∧ w'.ownsRow w.heap.size 5 1 v n (bs.map (Value.int .u8)) ∧ Ch (fun _ => False) w w' := by
  obtain ⟨i0, hi, hz0, hz1, hz2⟩ := info_parts Try.info5
  have hq := nil25
  have hown := World.ownsRow_made (base := w.heap.size) (e := 5) (size := 1) w #[] 0 (Nat.le_refl _) (Nat.zero_le _) rfl
  go_enter Try.func31, Try.ntmps31
  go_wp2_with (first | (at_builtin; refine wpList_append_own _ rfl _ _ 25 rfl w.heap.size 5 i0 (.int .u8 0) 1 1 Try.underlying25 hi hz0 hz1 hz2 rfl (by decide) _ _ _ rfl hown a n cap (bs.map (Value.int .u8)) rfl ?c1 ?c2 ?c3 ?c4 ?c5 ?c6 ?_))
  case c1 => simp [hn]
  case c2 => intro j u hj; rw [World.cell?_alloc_lt _ _ _ (World.block_lt_of_cell? _ _ (hcell j u hj))]; exact hcell j u hj
  case c3 => intro u hu; simp at hu; obtain ⟨x, _, rfl⟩ := hu; rfl
  case c4 => unfold maxLen; omega
  case c5 => omega
  case c6 => simp
  intro v' w1 hown' hgrow _
  go_wp2
  go_ret
  refine ⟨v', rfl, by simpa using hown', ?_⟩
  exact ((Ch.refl _ _).alloc _).grown hgrow (fun k hk => Or.inr (by simp [Value.ownBlock] at hk; omega))

theorem clone_any (sv : Value) (bs : List Int) (w : World) (h : Row w sv bs) (hb : bs.length ≤ 140737488355328) :
    Calls Try.prog 31 #[sv] w fun e w' => ∃ v, e = .returned v ∧ w'.ownsRow w.heap.size 5 1 v bs.length (bs.map (Value.int .u8)) ∧ Ch (fun _ => False) w w' := by
  rcases h with ⟨rfl, rfl⟩ | ⟨a, cap, rfl, hc⟩
  · exact (clone_nil w).mono fun e w' ⟨h1, h2⟩ => by subst h2; exact ⟨_, h1, World.ownsRow_nil _ _ _ _, Ch.refl _ _⟩
  · exact clone_some a bs.length cap bs w rfl hc hb

theorem ownsRow_base {w : World} {b b' : Nat} {e : TypeId} {size : Nat} {v : Value} {n : Nat} {xs : List Value} (h : w.ownsRow b e size v n xs) (hb : b' ≤ b) : w.ownsRow b' e size v n xs := by
  obtain ⟨h1, h2⟩ := h
  refine ⟨h1, ?_⟩
  rcases h2 with h2 | ⟨g, cap, cur, hv, hg, r⟩
  · exact Or.inl h2
  · exact Or.inr ⟨g, cap, cur, hv, Nat.le_trans hb hg, r⟩

set_option maxHeartbeats 400000 in
theorem newReader_any (sv : Value) (bs : List Int) (w : World) (h : Row w sv bs) (hs : ∀ x ∈ bs, 0 ≤ x ∧ x < 256) (hb : bs.length ≤ 140737488355328) :
    Calls Try.prog 13 #[sv] w fun e w' => ∃ r v, e = .returned (.pointer (some ⟨r, 0, none⟩)) ∧ Rd w' r v bs 0 false ∧ Ch (fun _ => False) w w' ∧ w.heap.size ≤ r ∧ (∀ g, v.ownBlock = some g → w.heap.size ≤ g) := by
  go_enter Try.func13, Try.ntmps13
  go_wp2_with fail
  refine (clone_any sv bs w h hb).mono ?_
  rintro e w1 ⟨v, rfl, hown, hch⟩
  obtain ⟨ao, c, rfl⟩ := own_form hown
  go_wp2
  go_ret
  refine ⟨w1.heap.size, _, rfl, ?_, hch.alloc _, hch.size, fun g hg => (hown.lt g hg).1⟩
  refine ⟨heap_alloc_new _ _, ownsRow_base (hown.alloc _) (Nat.zero_le _), hs, Nat.zero_le _, hb⟩

theorem bad_any (r : Nat) (v : Value) (bs : List Int) (b : Bool) (w : World) (h : Wt w r v bs b) :
    Calls Try.prog 11 #[.pointer (some ⟨r, 0, none⟩)] w fun e w' => e = .returned (.bool b) ∧ w' = w := by
  have h1 := h.c1
  go_enter Try.func11, Try.ntmps11
  go_wp2
  go_ret
  exact ⟨rfl, rfl⟩

theorem bad_nil (w : World) : Calls Try.prog 11 #[.pointer none] w fun e w' => e = .returned (.bool true) ∧ w' = w := by
  go_enter Try.func11, Try.ntmps11
  go_wp2
  go_ret
  exact ⟨rfl, rfl⟩

theorem bytes_nil (w : World) : Calls Try.prog 12 #[.pointer none] w fun e w' => e = .returned (.slice none 0 0) ∧ w' = w := by
  go_enter Try.func12, Try.ntmps12
  go_wp2
  go_ret
  exact ⟨rfl, rfl⟩

set_option maxHeartbeats 400000 in
theorem bytes_any (r : Nat) (v : Value) (bs : List Int) (b : Bool) (w : World) (h : Wt w r v bs b) :
    Calls Try.prog 12 #[.pointer (some ⟨r, 0, none⟩)] w fun e w' => ∃ v', e = .returned v' ∧ w'.ownsRow w.heap.size 5 1 v' bs.length (bs.map (Value.int .u8)) ∧ Ch (fun _ => False) w w' := by
  have h0 := h.c0
  go_enter Try.func12, Try.ntmps12
  go_wp2_with fail
  refine (clone_any v bs _ (row_of_owns h.own) h.len).mono ?_
  rintro e w1 ⟨v', rfl, hown, hch⟩
  go_wp2
  go_ret
  exact ⟨v', rfl, hown, hch⟩

end Go.Proofs.Ytgjddpfijnmeeaa
