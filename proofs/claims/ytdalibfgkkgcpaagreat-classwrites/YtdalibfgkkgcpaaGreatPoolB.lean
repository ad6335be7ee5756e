/- The texts of an instruction. -/
import Derived.Test.YtdalibfgkkgcpaaGreatPoolA
namespace Go.Proofs.YtdalibfgkkgcpaaGreat
open Go.RowKit
set_option linter.unusedVariables false

def pickL (b : Bool) (s : ByteArray) : List (List UInt8) := if b then [bl s] else []
/-- Those that it has by its Op. -/
def insX (x : Ins) : List (List UInt8) := pickL (sC (kd (ix x.op))) x.c ++ (pickL (sN (kd (ix x.op))) x.n ++ pickL (sD (kd (ix x.op))) x.d)
theorem pat3 {k : Int} (h : 0 ≤ k ∧ k ≤ 10) : (sC k = false ∧ sN k = false ∧ sD k = false) ∨ (sC k = true ∧ sN k = false ∧ sD k = false) ∨ (sC k = false ∧ sN k = false ∧ sD k = true) ∨ (sC k = true ∧ sN k = true ∧ sD k = true) := by
  have : k = 0 ∨ k = 1 ∨ k = 2 ∨ k = 3 ∨ k = 4 ∨ k = 5 ∨ k = 6 ∨ k = 7 ∨ k = 8 ∨ k = 9 ∨ k = 10 := by omega
  rcases this with rfl | rfl | rfl | rfl | rfl | rfl | rfl | rfl | rfl | rfl | rfl <;> decide

theorem Ch.own {a b c : World} {v : Value} {n : Nat} {xs : List Value} {base : Nat} (h : Ch a b) (ho : b.ownsRow base 9 1 v n xs) (hb : a.heap.size ≤ base) (hg : b.grownBy c v.ownBlock) : Ch a c :=
  h.grown hg (fun k hk => Nat.le_trans hb (own_obj ho hk).1)

theorem shC_at {w : World} {g : Nat} {a b c d e : Bool} {t : TypeId} (h : w.heap[g]? = some (.cells #[.bool a, .bool b, .bool c, .bool d, .bool e] t)) :
    w.cell? ⟨g, 0, none⟩ = some (.bool a) ∧ w.cell? ⟨g, 1, none⟩ = some (.bool b) ∧ w.cell? ⟨g, 2, none⟩ = some (.bool c) ∧ w.cell? ⟨g, 3, none⟩ = some (.bool d) ∧ w.cell? ⟨g, 4, none⟩ = some (.bool e) := by
  refine ⟨?_, ?_, ?_, ?_, ?_⟩ <;> simp [World.cell?, h]
theorem cell_at (w : World) (v : Value) (e : TypeId) (B : Nat) (h : B = w.heap.size) : (w.alloc (.cells #[v] e)).cell? ⟨B, 0, none⟩ = some v := by subst h; exact cell_new _ _ _

set_option maxRecDepth 100000 in
set_option maxHeartbeats 4000000 in
theorem ownX_any (x : Ins) (w : World) : Calls Tryz.prog 60 #[x.v] w fun e w' => ∃ v, e = .returned v ∧ w'.ownsRow w.heap.size 9 1 v (insX x).length ((insX x).map strV) ∧ Ch w w' := by
  have hof := fun w0 => of_any x.op w0
  simp only [sh] at hof
  have hp := pat3 (kd_range (ix x.op))
  unfold insX
  generalize kd (ix x.op) = k at *
  generalize sA k = s1 at *
  generalize sB k = s2 at *
  generalize sC k = s3 at *
  generalize sN k = s4 at *
  generalize sD k = s5 at *
  unfold Ins.v
  have hbox : Ch w (w.alloc (.cells (insC x.op x.a x.b x.c x.n x.d) 47)) := (Ch.refl w).alloc _
  have HB : Hid ((w.alloc (.cells (insC x.op x.a x.b x.c x.n x.d) 47)).heap[w.heap.size]? = some (.cells (insC x.op x.a x.b x.c x.n x.d) 47)) := heap_alloc_new _ _
  have hx : w.heap.size + 1 = (w.alloc (.cells (insC x.op x.a x.b x.c x.n x.d) 47)).heap.size := by simp
  rcases hp with ⟨rfl, rfl, rfl⟩ | ⟨rfl, rfl, rfl⟩ | ⟨rfl, rfl, rfl⟩ | ⟨rfl, rfl, rfl⟩
  · go_enter Tryz.func60, Tryz.ntmps60
    go_wp2_with (first
      | (go_at_call 101; (with_reducible refine (hof _).mono ?_); rintro e w3 ⟨rfl, hc3⟩))
    go_ret
    exact ⟨_, rfl, World.ownsRow_nil _ _ _ _, (hbox.trans hc3).alloc _⟩
  · go_enter Tryz.func60, Tryz.ntmps60
    go_wp2_with (first
      | (go_at_call 101; (with_reducible refine (hof _).mono ?_); rintro e w3 ⟨rfl, hc3⟩; obtain ⟨_, _, _, q3, q4, q5⟩ := insC_at (kept_at hc3 HB.out); have hsz := hc3.size; have hsz2 : w.heap.size < w3.heap.size := (by simp at hsz; omega))
      | (at_builtin; refine wpList_append_textA rfl (.tmp 14) (.tmp 17) rfl w.heap.size (.slice none 0 0) [] x.c rfl (World.ownsRow_nil _ _ _ _) ⟨w3.heap.size + 1, 0, none⟩ _ rfl (cell_at _ _ _ _ (by simp)) (by simp) (by simp; omega) ?_; intro v1 w4 ho4 hg4 hat4; clear hat4; have hc4 : Ch w w4 := (((hbox.trans hc3).alloc _).alloc _).own (World.ownsRow_nil _ w.heap.size 9 1) (Nat.le_refl _) hg4; have HD : Hid (∀ t, t ≠ 9 → ∀ g cs, g < w3.heap.size + 1 → ((w3.alloc (.cells #[.bool s1, .bool s2, .bool true, .bool false, .bool false] 141)).heap[g]? = some (.cells cs t)) → w4.heap[g]? = some (.cells cs t)) := (fun t _ g cs hg h => (hg4.block g (by simp; omega) (by simp [Value.ownBlock])).trans ((Below.heap_alloc _ _ _ (by simp; omega)).trans h)); have g4 := HD.out 141 (by decide) w3.heap.size _ (by omega) (heap_alloc_new _ _); obtain ⟨_, _, _, z3, z4⟩ := shC_at g4; obtain ⟨a4, c4, rfl⟩ := own_form ho4))
    go_ret
    exact ⟨_, rfl, by simpa [pickL] using ho4, hc4⟩
  · go_enter Tryz.func60, Tryz.ntmps60
    go_wp2_with (first
      | (go_at_call 101; (with_reducible refine (hof _).mono ?_); rintro e w3 ⟨rfl, hc3⟩; obtain ⟨_, _, _, q3, q4, q5⟩ := insC_at (kept_at hc3 HB.out); have hsz := hc3.size; have hsz2 : w.heap.size < w3.heap.size := (by simp at hsz; omega))
      | (at_builtin; refine wpList_append_textA rfl (.tmp 28) (.tmp 31) rfl w.heap.size (.slice none 0 0) [] x.d rfl (World.ownsRow_nil _ _ _ _) ⟨w3.heap.size + 1, 0, none⟩ _ rfl (cell_at _ _ _ _ (by simp)) (by simp) (by simp; omega) ?_; intro v1 w4 ho4 hg4 hat4; clear hat4; have hc4 : Ch w w4 := (((hbox.trans hc3).alloc _).alloc _).own (World.ownsRow_nil _ w.heap.size 9 1) (Nat.le_refl _) hg4; obtain ⟨a4, c4, rfl⟩ := own_form ho4))
    go_ret
    exact ⟨_, rfl, by simpa [pickL] using ho4, hc4⟩
  · go_enter Tryz.func60, Tryz.ntmps60
    go_wp2_with (first
      | (go_at_call 101; (with_reducible refine (hof _).mono ?_); rintro e w3 ⟨rfl, hc3⟩; obtain ⟨_, _, _, q3, q4, q5⟩ := insC_at (kept_at hc3 HB.out); have hsz := hc3.size; have hsz2 : w.heap.size < w3.heap.size := (by simp at hsz; omega); have KC : Hid (∀ w', Ch (w3.alloc (.cells #[.bool s1, .bool s2, .bool true, .bool true, .bool true] 141)) w' → _) := (fun w' h => And.intro (insC_at (kept_at h (kept_at ((Ch.refl w3).alloc _) (kept_at hc3 HB.out)))) (shC_at (kept_at h (heap_alloc_new _ _)))))
      | (at_builtin; refine wpList_append_textA rfl (.tmp 14) (.tmp 17) rfl (w3.heap.size + 1) (.slice none 0 0) [] x.c rfl (World.ownsRow_nil _ _ _ _) ⟨w3.heap.size + 1, 0, none⟩ _ rfl (cell_at _ _ _ _ (by simp)) (by simp) (by simp) ?_; intro v1 w4 ho4 hg4 hat4; clear hat4; have hc4 : Ch (w3.alloc (.cells #[.bool s1, .bool s2, .bool true, .bool true, .bool true] 141)) w4 := ((Ch.refl _).alloc _).own (World.ownsRow_nil _ (w3.heap.size + 1) 9 1) (by simp) hg4; obtain ⟨⟨_, _, _, r3, r4, r5⟩, ⟨_, _, _, y3, y4⟩⟩ := KC.out _ hc4; have hs4 : w3.heap.size + 1 ≤ w4.heap.size := (by have := hc4.size; simp at this; omega))
      | (at_builtin; refine wpList_append_textA rfl (.tmp 21) (.tmp 24) rfl (w3.heap.size + 1) v1 ([] ++ [bl x.c]) x.n rfl (ownsRow_keep ho4 ((Ch.refl _).alloc _)) ⟨w4.heap.size, 0, none⟩ _ rfl (cell_new _ _ _) (by simp) (by simp; omega) ?_; intro v2 w5 ho5 hg5 hat5; clear hat5; have hc5 : Ch (w3.alloc (.cells #[.bool s1, .bool s2, .bool true, .bool true, .bool true] 141)) w5 := (hc4.alloc _).own (ownsRow_keep ho4 ((Ch.refl _).alloc _)) (by simp) hg5; obtain ⟨⟨_, _, _, t3, t4, t5⟩, ⟨_, _, _, x3, x4⟩⟩ := KC.out _ hc5; have hs5 : w3.heap.size + 1 ≤ w5.heap.size := (by have := hc5.size; simp at this; omega))
      | (at_builtin; refine wpList_append_textA rfl (.tmp 28) (.tmp 31) rfl (w3.heap.size + 1) v2 (([] ++ [bl x.c]) ++ [bl x.n]) x.d rfl (ownsRow_keep ho5 ((Ch.refl _).alloc _)) ⟨w5.heap.size, 0, none⟩ _ rfl (cell_new _ _ _) (by simp) (by simp; omega) ?_; intro v3 w6 ho6 hg6 hat6; clear hat6; have hc6 : Ch (w3.alloc (.cells #[.bool s1, .bool s2, .bool true, .bool true, .bool true] 141)) w6 := (hc5.alloc _).own (ownsRow_keep ho5 ((Ch.refl _).alloc _)) (by simp) hg6))
    go_ret
    exact ⟨_, rfl, by simpa [pickL] using ownsRow_base ho6 (by omega), ((hbox.trans hc3).alloc _).trans hc6⟩
end Go.Proofs.YtdalibfgkkgcpaaGreat
