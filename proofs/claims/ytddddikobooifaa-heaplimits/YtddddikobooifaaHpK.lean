/- A field's text read; one field laid out. -/
import Derived.Test.YtddddikobooifaaHpJ
import Derived.Maps.OwnOps
import Derived.Laws.OwnMore
namespace Go.Proofs.Ytddddikobooifaa
open Go.RowKit Go.Maps Go.Sort Go.Shelf
set_option linter.unusedVariables false

theorem results_tmp_cell {P : Program} {fn : Func} {p u : Tmp} {ty : TypeId} (h : fn.results = #[.tmp u, .cell p ty]) (tmps : Array Value) (w : World) (g : Nat) (t : TypeId) (cs : Array Value) (fr : Nat × Nat) (d : TypeDesc)
    (hp : tmps.getD p undef = .pointer (some ⟨g, 0, none⟩)) (hg : w.heap[g]? = some (.cells cs t fr))
    (hu : P.underlying ty = some d) (hd : (match d with | .struct _ | .array _ _ => true | _ => false) = true) (hi : (P.info? ty).map (·.size) = some cs.size) :
    (results fn tmps).run P w = .ok (.tuple #[tmps.getD u undef, .agg cs]) w := by
  have hp' : tmps[p]?.getD undef = .pointer (some ⟨g, 0, none⟩) := by simpa using hp
  simp [results, h, hp', asAddr, run_loadVar_row w g t ty cs fr d hg hu hd hi]

/-- The text of the one field. -/
def xI : ByteArray := ⟨#[120, 58, 73]⟩

set_option maxHeartbeats 4000000 in
theorem last_b (w : World) : Calls Try.prog 40 #[.string ⟨#[120, 58, 73]⟩, .int .u8 58] w fun e w' => e = .returned (.int .i64 1) ∧ w' = w := by
  go_enter Try.func40, Try.ntmps40
  go_wp2_with fail
  go_loop [5] (fun i => i = .int .i64 2 ∨ i = .int .i64 1) (fun i => (intOf i).toNat)
  case atStart => exact .inl rfl
  case round =>
    obtain rfl | rfl := hrel
    · go_wp2
      exact ⟨.inr rfl, by simp [intOf]⟩
    · go_wp2
      go_ret
      exact ⟨rfl, rfl⟩
theorem last_any (w : World) : Calls Try.prog 34 #[.string ⟨#[120, 58, 73]⟩, .int .u8 58] w fun e w' => e = .returned (.int .i64 1) ∧ w' = w := by
  go_enter Try.func34, Try.ntmps34
  go_wp2_with (go_at_call 40; refine (last_b _).mono ?_; rintro e w2 ⟨rfl, hw2⟩; have hw2 := hw2.symm; subst hw2)
  go_ret
  exact ⟨rfl, rfl⟩

set_option maxHeartbeats 4000000 in
theorem named_any (w : World) : Calls Try.prog 25 #[.string ⟨#[120, 58, 73]⟩] w fun e w' => e = .returned (.tuple #[.string ⟨#[120]⟩, zv]) ∧ Ch w w' := by
  have R0 := Bo.new (Ch.refl w) #[.int .i64 0, .int .i64 0, .complex .f64 0 0] 31
  have e1 : (⟨#[120, 58, 73]⟩ : ByteArray).extract 2 3 = ⟨#[73]⟩ := by decide
  have e2 : (⟨#[120, 58, 73]⟩ : ByteArray).extract 0 1 = ⟨#[120]⟩ := by decide
  have hz : ∀ w, Calls Try.prog 14 #[.string ((⟨#[120, 58, 73]⟩ : ByteArray).extract 2 3)] w fun e w' => e = .returned (.agg #[.int .i64 0, .int .i64 0, .complex .f64 0 0]) ∧ Ch w w' := fun w => by rw [e1]; exact zero_I w
  have HE : Hid ((⟨#[120, 58, 73]⟩ : ByteArray).extract 0 1 = ⟨#[120]⟩) := e2
  clear e1 e2
  have hsc := stc
  have HT : Hid (∀ w', Bo w w.heap.size 31 #[.int .i64 0, .int .i64 0, .complex .f64 0 0] w' → w'.cell? ⟨w.heap.size, 0, none⟩ = some (.int .i64 0) ∧ w'.cell? ⟨w.heap.size, 1, none⟩ = some (.int .i64 0) ∧ w'.cell? ⟨w.heap.size, 2, none⟩ = some (.complex .f64 0 0) ∧ w'.frozen? ⟨w.heap.size, 0, none⟩ = false ∧ w'.frozen? ⟨w.heap.size, 1, none⟩ = false ∧ w'.frozen? ⟨w.heap.size, 2, none⟩ = false) :=
    fun w' h => ⟨h.c 0 rfl, h.c 1 rfl, h.c 2 rfl, h.fz 0, h.fz 1, h.fz 2⟩
  go_enter Try.func25, Try.ntmps25
  go_wp2_with (go_at_call 34; refine (last_any _).mono ?_; rintro e w2 ⟨rfl, hw2⟩; have hw2 := hw2.symm; subst hw2)
  go_region_held (fun w' => w'.cell? ⟨w.heap.size, 0, none⟩ = some (.int .i64 0) ∧ w'.cell? ⟨w.heap.size, 1, none⟩ = some (.int .i64 0) ∧ w'.cell? ⟨w.heap.size, 2, none⟩ = some (.complex .f64 0 0) ∧ w'.frozen? ⟨w.heap.size, 0, none⟩ = false ∧ w'.frozen? ⟨w.heap.size, 1, none⟩ = false ∧ w'.frozen? ⟨w.heap.size, 2, none⟩ = false)
    (first | (refine HT.out _ ?_; repeat (first | assumption | refine Bo.drew ?_ | refine Bo.same ?_ _ rfl | refine Bo.call ?_ (by assumption))) | fail) (first
    | (go_at_call 14; (with_reducible refine (hz _).mono ?_); rintro e w3 ⟨rfl, hc3⟩))
  have B3 : Bo w w.heap.size 31 #[.int .i64 0, .int .i64 0, .complex .f64 0 0] (((w3.setCell ⟨w.heap.size, 0, none⟩ (.int .i64 0)).setCell ⟨w.heap.size, 1, none⟩ (.int .i64 0)).setCell ⟨w.heap.size, 2, none⟩ (.complex .f64 0 0)) := by
    repeat (first | assumption | refine Bo.drew ?_ | refine Bo.same ?_ _ rfl | refine Bo.call ?_ (by assumption))
  rw [HE.out]
  clear HE hz hsc HT
  go_wp2
  refine bodyPost_ret (results_tmp_cell rfl _ _ w.heap.size 31 _ (0, 0) _ rfl B3.b Try.underlying31 rfl size31) rfl ?_
  exact ⟨rfl, B3.ch⟩
end Go.Proofs.Ytddddikobooifaa
