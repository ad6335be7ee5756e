/- An object laid behind the others. -/
import Derived.Test.YtddddikobooifaaHpF
import Derived.Deep.RegionHeldLaw
import Derived.Deep.RegionHeld3
import Derived.Deep.AppendLies
import Derived.Deep.RegionLaw
namespace Go.Proofs.Ytddddikobooifaa
open Go.RowKit Go.Shelf
set_option linter.unusedVariables false

theorem Bo.drew {w w1 : World} {g : Nat} {T : TypeId} {cs : Array Value} (h : Bo w g T cs w1) : Bo w g T cs w1.drew := ⟨h.ch.drewN 1, h.le, h.b⟩
theorem Bo.same {w w1 : World} {g : Nat} {T : TypeId} {cs : Array Value} (h : Bo w g T cs w1) (i : Nat) {u : Value} (hu : cs[i]? = some u) : Bo w g T cs (w1.setCell ⟨g, i, none⟩ u) := by
  have := h.set i u
  have e : cs.setIfInBounds i u = cs := by
    apply Array.ext'
    rw [Array.toList_setIfInBounds]
    have : cs.toList[i]? = some u := by rw [Array.getElem?_toList]; exact hu
    apply List.ext_getElem?
    intro j
    rw [List.getElem?_set]
    split
    · rename_i h; subst h; rw [this]
      have := (List.getElem?_eq_some_iff.1 this).1
      simp at this
      simp [this]
    · rfl
  rw [e] at this
  exact this
theorem Bo.alloc {w w1 : World} {g : Nat} {T : TypeId} {cs : Array Value} (h : Bo w g T cs w1) (o : Obj) : Bo w g T cs (w1.alloc o) := h.call ((Ch.refl w1).alloc o)
/-- But for the block g, of what was there nothing has turned. -/
structure Tg (g : Nat) (w w' : World) : Prop where
  os : w'.os = w.os
  tape : w'.tape = w.tape
  output : w'.output = w.output
  size : w.heap.size ≤ w'.heap.size
  block : ∀ k, k < w.heap.size → k ≠ g → w'.heap[k]? = w.heap[k]?
theorem Tg.ch {g : Nat} {a w w' : World} (h : Ch a w) (t : Tg g w w') (hg : a.heap.size ≤ g) : Ch a w' :=
  ⟨t.os.trans h.os, t.tape.trans h.tape, t.output.trans h.output, Nat.le_trans h.size t.size, fun k hk => (t.block k (Nat.lt_of_lt_of_le hk h.size) (by omega)).trans (h.block k hk)⟩
theorem Tg.of {g : Nat} {w w' : World} (h : Ch w w') : Tg g w w' := ⟨h.os, h.tape, h.output, h.size, fun k hk _ => h.block k hk⟩
theorem Tg.put {g : Nat} {w w1 : World} (h : Tg g w w1) (i : Nat) (v : Value) : Tg g w (w1.setCell ⟨g, i, none⟩ v) :=
  ⟨h.os, h.tape, h.output, by have := h.size; simp [World.setCell]; omega, fun k hk hne => (Below.heap_setCell _ _ _ _ (fun e => hne (by simpa using e))).trans (h.block k hk hne)⟩

theorem put_at {w : World} {p : Addr} {u : Value} (h : w.cell? p = some u) (v : Value) : (w.setCell p v).cell? p = some v := World.cell?_setCell_same _ _ _ h
theorem put_far {w : World} {b i g j : Nat} {v : Value} (h : g ≠ b) : (w.setCell ⟨b, i, none⟩ v).cell? ⟨g, j, none⟩ = w.cell? ⟨g, j, none⟩ := by
  unfold World.cell?
  rw [Below.heap_setCell _ _ _ _ (fun e => h (by simpa using e))]
theorem info49 : (Try.prog.info? 49).map (fun i => (i.zero, i.size, i.bytes)) = some (some zo, 5, 88) := by kernel_rfl

set_option maxHeartbeats 8000000 in
set_option maxRecDepth 100000 in
theorem add_any (b : Nat) (of site : ByteArray) (ar : Bool) (a1 : Option Addr) (n1 k1 : Nat) (a2 : Option Addr) (n2 k2 : Nat) (w : World) (hb : w.heap[b]? = some (.cells #[.slice none 0 0] 24)) (l1 : of.size ≤ 1000) (l2 : site.size ≤ 1000) :
    Calls Try.prog 15 #[.pointer (some ⟨b, 0, none⟩), .agg #[.string of, .string site, .bool ar, .slice a1 n1 k1, .slice a2 n2 k2]] w fun e w' => e = .returned (.int .i64 1) ∧ Tg b w w' ∧ ∃ ob c, w.heap.size ≤ ob ∧ Oo w' b ob c of site ar (.slice a1 n1 k1) (.slice a2 n2 k2) := by
  obtain ⟨cs, hcs⟩ : ∃ cs : Array Value, cs = #[.string of, .string site, .bool ar, .slice a1 n1 k1, .slice a2 n2 k2] := ⟨_, rfl⟩
  have q0 : cs[0]? = some (.string of) := by rw [hcs]; rfl
  have q1 : cs[1]? = some (.string site) := by rw [hcs]; rfl
  have B0 := Bo.new (Ch.refl w) cs 49
  have HT : Hid (∀ w', Bo w w.heap.size 49 cs w' → w'.cell? ⟨w.heap.size, 0, none⟩ = some (.string of) ∧ w'.cell? ⟨w.heap.size, 1, none⟩ = some (.string site) ∧ w'.frozen? ⟨w.heap.size, 0, none⟩ = false ∧ w'.frozen? ⟨w.heap.size, 1, none⟩ = false) :=
    fun w' h => ⟨h.c 0 q0, h.c 1 q1, h.fz 0, h.fz 1⟩
  rw [hcs] at B0 HT
  go_enter Try.func15, Try.ntmps15
  go_wp2_with fail
  go_region_held3 (fun w' => w'.cell? ⟨w.heap.size, 0, none⟩ = some (.string of) ∧ w'.cell? ⟨w.heap.size, 1, none⟩ = some (.string site) ∧ w'.frozen? ⟨w.heap.size, 0, none⟩ = false ∧ w'.frozen? ⟨w.heap.size, 1, none⟩ = false)
    (first | (refine HT.out _ ?_; repeat (first | assumption | refine Bo.drew ?_ | refine Bo.same ?_ _ rfl | refine Bo.call ?_ (by assumption))) | fail) (first
    | (go_at_call 19; (with_reducible refine (clone_any of _ (by omega)).mono ?_); rintro e w3 ⟨rfl, hc3⟩)
    | (go_at_call 19; (with_reducible refine (clone_any site _ (by omega)).mono ?_); rintro e w4 ⟨rfl, hc4⟩))
  have B5 : Bo w w.heap.size 49 #[.string of, .string site, .bool ar, .slice a1 n1 k1, .slice a2 n2 k2] ((w4.setCell ⟨w.heap.size, 0, none⟩ (.string of)).setCell ⟨w.heap.size, 1, none⟩ (.string site)) := by
    repeat (first | assumption | refine Bo.drew ?_ | refine Bo.same ?_ _ rfl | refine Bo.call ?_ (by assumption))
  generalize (w4.setCell ⟨w.heap.size, 0, none⟩ (.string of)).setCell ⟨w.heap.size, 1, none⟩ (.string site) = w5 at B5 ⊢
  clear hc3 hc4 B0 HT
  have hbl : b < w.heap.size := (Array.getElem?_eq_some_iff.1 hb).1
  have hb5 : w5.heap[b]? = some (.cells #[.slice none 0 0] 24) := (B5.ch.block b hbl).trans hb
  have hl5 := B5.ch.size
  have hz5 := B5.lt
  have d0 := B5.c 0 rfl
  have d1 := B5.c 1 rfl
  have d2 := B5.c 2 rfl
  have d3 := B5.c 3 rfl
  have d4 := B5.c 4 rfl
  have hbc : w5.cell? ⟨b, 0, none⟩ = some (.slice none 0 0) := by simp [World.cell?, hb5]
  have hbf : w5.frozen? ⟨b, 0, none⟩ = false := by simp [World.frozen?, hb5]
  have hbf1 : (w5.alloc (.cells cs 49)).frozen? ⟨b, 0, none⟩ = false := (World.frozen?_alloc_old _ _ _ (by simp; omega)).trans hbf
  have hbc1 : (w5.alloc (.cells cs 49)).cell? ⟨b, 0, none⟩ = some (.slice none 0 0) := (World.cell?_alloc_old _ _ _ (by simp; omega)).trans hbc
  obtain ⟨i0, hi0, hz0, hz1, hz2⟩ := info_parts info49
  have hnew : (w5.alloc (.cells cs 49)).heap[w5.heap.size]? = some (.cells cs 49 (0, 0)) := heap_alloc_new w5 _
  have h1c : ∀ u ∈ cs.toList, u.oneCell' = true := by rw [hcs]; simp [Value.oneCell']
  have hcl : cs.toList.length = 1 * 5 := by rw [hcs]; rfl
  rw [hcs] at hbf1 hbc1 hnew h1c hcl
  clear hb5 hb q0 q1 hcs
  go_wp2_with fail
  go_region_law ((refine step_append_lies _ (by rfl) _ _ _ (by rfl) w.heap.size 49 i0 _ 5 88 Try.underlying22 hi0 hz0 hz1 hz2 rfl (by omega) (.slice none 0 0) 0 [] (by rfl) (World.ownsRow_nil _ _ _ _) ⟨w5.heap.size, 0, none⟩ 1 1 (#[.string of, .string site, .bool ar, .slice a1 n1 k1, .slice a2 n2 k2] : Array Value).toList (by rfl) hcl (World.news_of_block hnew) h1c (by omega) (by unfold maxLen; simp) (by simp) (by simp; omega) (w5.heap.size + 1) (by simp) ?_; intro g cap w6 hown hgrow hat hlt; have hfz : w6.frozen? ⟨b, 0, none⟩ = false := (hgrow.frozen_far _ (by simp; omega) (by simp [Value.ownBlock])).trans hbf1; have hcc : w6.cell? ⟨b, 0, none⟩ = some (.slice none 0 0) := (hgrow.cell_far _ (by simp; omega) (by simp [Value.ownBlock])).trans hbc1))
  all_goals
    have hgl : w.heap.size ≤ g := (hown.lt g rfl).1
    have C6 : Ch w w6 := ((B5.ch.alloc _).drewN 1).grown hgrow (fun k e => by cases e)
    have hv : (w6.setCell ⟨b, 0, none⟩ (.slice (some ⟨g, 0, none⟩) 1 cap)).cell? ⟨b, 0, none⟩ = some (.slice (some ⟨g, 0, none⟩) 1 cap) := put_at hcc _
    have hg : ∀ (j : Nat) (x : Value), (#[Value.string of, .string site, .bool ar, .slice a1 n1 k1, .slice a2 n2 k2] : Array Value).toList[j]? = some x → (w6.setCell ⟨b, 0, none⟩ (.slice (some ⟨g, 0, none⟩) 1 cap)).cell? ⟨g, j, none⟩ = some x := fun j x hj => by
      have hj5 : j < 5 := (List.getElem?_eq_some_iff.1 hj).1
      rw [put_far (show g ≠ b by omega), hown.cellAt j (by omega)]
      exact hj
    have e0 := hg 0 _ rfl
    have e1 := hg 1 _ rfl
    have e2 := hg 2 _ rfl
    have e3 := hg 3 _ rfl
    have e4 := hg 4 _ rfl
    have T7 := (Tg.of (g := b) C6).put 0 (.slice (some ⟨g, 0, none⟩) 1 cap)
    generalize w6.setCell ⟨b, 0, none⟩ (.slice (some ⟨g, 0, none⟩) 1 cap) = w7 at hv e0 e1 e2 e3 e4 T7 ⊢
    clear hg hown hgrow hat hlt hfz hcc C6 hnew hbf1 hbc1 hbc hbf d0 d1 d2 d3 d4 B5
    go_wp2
    go_ret
    exact ⟨rfl, T7, g, cap, hgl, hv, e0, e1, e2, e3, e4⟩
end Go.Proofs.Ytddddikobooifaa
