/- At; an object laid behind the others; an array made. -/
import Derived.Test.YtddddikobooifaaHpE
namespace Go.Proofs.Ytddddikobooifaa
open Go.RowKit Go.Shelf
set_option linter.unusedVariables false

theorem results_cell_one {P : Program} {fn : Func} {p u : Tmp} {ty : TypeId} (h : fn.results = #[.cell p ty, .tmp u]) (tmps : Array Value) (w : World) (g : Nat) (t : TypeId) (cs : Array Value) (fr : Nat × Nat) (d : TypeDesc)
    (hp : tmps.getD p undef = .pointer (some ⟨g, 0, none⟩)) (hg : w.heap[g]? = some (.cells cs t fr))
    (hu : P.underlying ty = some d) (hd : (match d with | .struct _ | .array _ _ => true | _ => false) = true) (hi : (P.info? ty).map (·.size) = some cs.size) :
    (results fn tmps).run P w = .ok (.tuple #[.agg cs, tmps.getD u undef]) w := by
  have hp' : tmps[p]?.getD undef = .pointer (some ⟨g, 0, none⟩) := by simpa using hp
  simp [results, h, hp', asAddr, run_loadVar_row w g t ty cs fr d hg hu hd hi]
theorem stc (a : Addr) (re im : _) (m : Mode) (W : World) : (store a (.complex .f64 re im) m).run Try.prog W = stored Try.prog W a (.complex .f64 re im) m := run_store Try.prog W a _ m rfl

set_option maxHeartbeats 4000000 in
theorem at_no (p : Value) (i k : Int) (w : World) (hk : k ≠ 0) (he : ∀ w', Ch w w' → Calls Try.prog 16 #[p, .int .i64 1, .int .i64 i] w' fun e w2 => e = .returned (.tuple #[.pointer none, .int .i64 k]) ∧ Ch w' w2) :
    Calls Try.prog 6 #[p, .int .i64 1, .int .i64 i] w fun e w' => e = .returned (.tuple #[zv, .int .i64 k]) ∧ Ch w w' := by
  have R0 := Bo.new (Ch.refl w) #[.int .i64 0, .int .i64 0, .complex .f64 0 0] 31
  have he' := he _ R0.ch
  have hsc := stc
  go_enter Try.func6, Try.ntmps6
  go_wp2_with (go_at_call 16; refine he'.mono ?_; rintro e w2 ⟨rfl, c2⟩; have R := R0.call c2; have f0 := R.c 0 rfl; have f1 := R.c 1 rfl; have f2 := R.c 2 rfl; have z0 := R.fz 0; have z1 := R.fz 1; have z2 := R.fz 2)
  have B := ((R.set 0 (.int .i64 0)).set 1 (.int .i64 0)).set 2 (.complex .f64 0 0)
  refine bodyPost_ret (results_cell_one rfl _ _ w.heap.size 31 _ (0, 0) _ rfl B.b Try.underlying31 rfl size31) rfl ?_
  exact ⟨rfl, B.ch⟩

set_option maxHeartbeats 4000000 in
theorem at_yes (p : Value) (i : Int) (vb o : Nat) (w : World) (he : ∀ w', Ch w w' → Calls Try.prog 16 #[p, .int .i64 1, .int .i64 i] w' fun e w2 => e = .returned (.tuple #[.pointer (some ⟨vb, o, none⟩), .int .i64 0]) ∧ Ch w' w2)
    (h0 : w.cell? ⟨vb, o, none⟩ = some (.int .i64 0)) (h1 : w.cell? ⟨vb, o + 1, none⟩ = some (.int .i64 0)) (h2 : w.cell? ⟨vb, o + 2, none⟩ = some (.complex .f64 0 0)) :
    Calls Try.prog 6 #[p, .int .i64 1, .int .i64 i] w fun e w' => e = .returned (.tuple #[zv, .int .i64 0]) ∧ Ch w w' := by
  have R0 := Bo.new (Ch.refl w) #[.int .i64 0, .int .i64 0, .complex .f64 0 0] 31
  have he' := he _ R0.ch
  have g0 := R0.ch.cell h0
  have g1 := R0.ch.cell h1
  have g2 := R0.ch.cell h2
  have hsc := stc
  go_enter Try.func6, Try.ntmps6
  go_wp2_with (go_at_call 16; refine he'.mono ?_; rintro e w2 ⟨rfl, c2⟩; have R := R0.call c2; have f0 := R.c 0 rfl; have f1 := R.c 1 rfl; have f2 := R.c 2 rfl; have z0 := R.fz 0; have z1 := R.fz 1; have z2 := R.fz 2; have k0 := c2.cell g0; have k1 := c2.cell g1; have k2 := c2.cell g2)
  have B := ((R.set 0 (.int .i64 0)).set 1 (.int .i64 0)).set 2 (.complex .f64 0 0)
  refine bodyPost_ret (results_cell_one rfl _ _ w.heap.size 31 _ (0, 0) _ rfl B.b Try.underlying31 rfl size31) rfl ?_
  exact ⟨rfl, B.ch⟩
end Go.Proofs.Ytddddikobooifaa
