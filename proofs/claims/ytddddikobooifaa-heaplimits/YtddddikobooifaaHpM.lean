/- One field laid out: the walk. -/
import Derived.Test.YtddddikobooifaaHpL
namespace Go.Proofs.Ytddddikobooifaa
open Go.RowKit Go.Maps Go.Sort Go.Shelf
set_option linter.unusedVariables false

theorem info9 : (Try.prog.info? 9).map (fun i => (i.zero, i.size, i.bytes)) = some (some (.string ⟨#[]⟩), 1, 16) := by kernel_rfl
theorem sort_x : (List.map encStr (([[120]] : List (List UInt8)).mergeSort fun x y => decide (x ≤ y)))[0]? = some (.string ⟨#[120]⟩) := by
  simp [encStr]

set_option maxHeartbeats 8000000 in
set_option maxRecDepth 100000 in
theorem laid_any (fb : Nat) (w : World) (h : w.cell? ⟨fb, 0, none⟩ = some (.string ⟨#[120, 58, 73]⟩)) : Calls Try.prog 18 #[.slice (some ⟨fb, 0, none⟩) 1 1] w fun e w' =>
    ∃ nb c1 vb c2, e = .returned (.tuple #[.slice (some ⟨nb, 0, none⟩) 1 c1, .slice (some ⟨vb, 0, none⟩) 1 c2]) ∧ w.heap.size ≤ nb ∧ w.heap.size ≤ vb ∧ w'.cell? ⟨nb, 0, none⟩ = some (.string ⟨#[120]⟩) ∧ w'.cell? ⟨vb, 0, none⟩ = some (.int .i64 0) ∧ w'.cell? ⟨vb, 1, none⟩ = some (.int .i64 0) ∧ w'.cell? ⟨vb, 2, none⟩ = some (.complex .f64 0 0) ∧ Ch w w' := by
  have hn : ∀ w, Calls Try.prog 25 #[.string ⟨#[120, 58, 73]⟩] w fun e w' => e = .returned (.tuple #[.string ⟨#[120]⟩, .agg #[.int .i64 0, .int .i64 0, .complex .f64 0 0]]) ∧ Ch w w' := named_any
  have hmm := @run_makeMap Try.prog
  have hkey := WideMaps.keyOf_string_mk (P := Try.prog) Try.underlying9 (s := ⟨#[120]⟩) (by decide)
  have hsc := stc
  have hm0 := World.ownsMap_made w Try.prog 9 RZ
  have hf : (w.alloc (.map #[] 0)).cell? ⟨fb, 0, none⟩ = some (.string ⟨#[120, 58, 73]⟩) := ((Ch.refl w).alloc _).cell h
  have hc0 : Ch w (w.alloc (.map #[] 0)) := (Ch.refl w).alloc _
  go_enter Try.func18, Try.ntmps18
  go_wp2_with fail
  obtain ⟨w1, hw1⟩ : ∃ w1, w.alloc (.map #[] 0) = w1 := ⟨_, rfl⟩
  obtain ⟨m, hm⟩ : ∃ m, w.heap.size = m := ⟨_, rfl⟩
  rw [hw1] at hm0 hf hc0 ⊢
  rw [hm] at hm0
  simp only [hm]
  go_loopw [14] (fun i wr => (i = .int .i64 0 ∧ wr = w1) ∨ (i = .int .i64 1 ∧ wr.ownsMap Try.prog 9 RZ m 1 D1 ∧ Ch w wr)) (fun i _ => 1 - (intOf i).toNat)
  case atStart => exact .inl ⟨rfl, rfl⟩
  case round =>
    obtain ⟨rfl, rfl⟩ | ⟨rfl, hown, hch⟩ := hrel
    · go_wp2_with (first
        | (go_at_call 25; refine (hn _).mono ?_; rintro e w2 ⟨rfl, c2⟩; have R := Bo.new c2 #[.int .i64 0, .int .i64 0, .complex .f64 0 0] 31; have f0 := R.c 0 rfl; have f1 := R.c 1 rfl; have f2 := R.c 2 rfl; have M2 := map_ch hm0 R.ch)
        | (at_mapUpdate; refine wpList_mapUpdate_own _ rfl _ _ _ 65 rfl 9 31 (string_keyed Try.underlying9) Try.underlying65 RZ m 0 (.map []) rfl M2 (by decide) _ _ _ rfl rfl hkey (.lit (.bool true)) [] RZ_z ?_; intro w3 M3 g3))
      exact ⟨.inr ⟨rfl, M3, (hc0.trans R.ch).grown g3 (fun k e => by cases e; omega)⟩, by simp [intOf]⟩
    · go_wp2_with (first
        | (go_at_call 27; refine (keys_any _ _).mono ?_; rintro e w2 ⟨rfl, rfl⟩)
        | (go_at_call 26; refine (sorted_any m 1 D1 RZ wr hown (by rw [D1_size]; decide) (by rw [D1_size]; decide)).mono ?_; rintro e w3 ⟨v3, ss, rfl, hss, hrow, _, hb3⟩; rw [D1_keys] at hss; obtain rfl := List.perm_singleton.1 hss; obtain ⟨sb, sc, rfl, hsb, hsl⟩ := hrow.form (by decide); have C3 := Ch.of_below hb3; have s0 := (hrow.cellAt 0 (by decide)).trans sort_x))
      have M3 := map_ch hown C3
      clear hrow hss hb3 hown
      have C03 := hch.trans C3
      have hs3 := C03.size
      rw [hm] at hs3
      obtain ⟨i9, hi9, hy0, hy1, hy2⟩ := info_parts info9
      obtain ⟨i31, hi31, hz0, hz1, hz2⟩ := info_parts Try.info31
      go_loopw [2, 3, 31] (fun a b i w' => (i = .int .i64 0 ∧ a = .slice none 0 0 ∧ b = .slice none 0 0 ∧ w' = w3) ∨ (i = .int .i64 1 ∧ ∃ nb c1 vb c2, a = .slice (some ⟨nb, 0, none⟩) 1 c1 ∧ b = .slice (some ⟨vb, 0, none⟩) 1 c2 ∧ m ≤ nb ∧ m ≤ vb ∧ w'.cell? ⟨nb, 0, none⟩ = some (.string ⟨#[120]⟩) ∧ w'.cell? ⟨vb, 0, none⟩ = some (.int .i64 0) ∧ w'.cell? ⟨vb, 1, none⟩ = some (.int .i64 0) ∧ w'.cell? ⟨vb, 2, none⟩ = some (.complex .f64 0 0) ∧ Ch w w')) (fun _ _ i _ => 1 - (intOf i).toNat)
      case atStart => exact .inl ⟨rfl, rfl, rfl, rfl⟩
      case round =>
        obtain ⟨rfl, rfl, rfl, rfl⟩ | ⟨rfl, nb, c1, vb, c2, rfl, rfl, l1, l2, e0, e1, e2, e3, ce⟩ := hrel
        · go_wp2_with (first
            | (go_at_call 19; refine (clone_any ⟨#[120]⟩ _ (by decide)).mono ?_; rintro e w4 ⟨rfl, c4⟩; have hs4 := c4.size)
            | (at_builtin; refine wpList_append_lies _ rfl _ _ _ rfl m 9 i9 _ 1 16 Try.underlying47 hi9 hy0 hy1 hy2 rfl (by decide) (.slice none 0 0) 0 [] rfl (World.ownsRow_nil _ _ _ _) ⟨w4.heap.size, 0, none⟩ 1 1 [.string ⟨#[120]⟩] rfl rfl (World.news_of_block (cs := #[.string ⟨#[120]⟩]) (heap_alloc_new w4 _)) (by simp [Value.oneCell']) (by decide) (by decide) (by decide) (by simp; omega) _ rfl ?_; intro g1 p1 w5 o5 gr5 _ _; have C5 := (c4.alloc _).grown gr5 (fun k e => by cases e); have hl5 := lookZ (map_ch M3 C5) ⟨#[120]⟩ (by decide); have hs5 := C5.size)
            | (at_builtin; refine wpList_append_lies _ rfl _ _ _ rfl m 31 i31 _ 3 32 Try.underlying43 hi31 hz0 hz1 hz2 rfl (by decide) (.slice none 0 0) 0 [] rfl (World.ownsRow_nil _ _ _ _) ⟨w5.heap.size, 0, none⟩ 1 1 [.int .i64 0, .int .i64 0, .complex .f64 0 0] rfl rfl (World.news_of_block (cs := #[.int .i64 0, .int .i64 0, .complex .f64 0 0]) (heap_alloc_new w5 _)) (by simp [Value.oneCell']) (by decide) (by decide) (by decide) (by simp; omega) _ rfl ?_; intro g2 p2 w6 o6 gr6 _ _; have C6 := ((Ch.refl w5).alloc _).grown gr6 (fun k e => by cases e)))
          exact ⟨.inr ⟨rfl, g1, p1, g2, p2, rfl, rfl, (o5.lt g1 rfl).1, (o6.lt g2 rfl).1, C6.cell (o5.cellAt 0 (by decide)), o6.cellAt 0 (by decide), o6.cellAt 1 (by decide), o6.cellAt 2 (by decide), (C03.trans C5).trans C6⟩, by simp [intOf]⟩
        · go_wp2
          go_ret2
          exact ⟨nb, c1, vb, c2, rfl, by omega, by omega, e0, e1, e2, e3, ce⟩
end Go.Proofs.Ytddddikobooifaa
