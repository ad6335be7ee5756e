/- A class, told: Class of chapter 6. -/
/- What no program answers. -/
import Derived.Test.YthmepecmeambmaaGreatKLmA
import Derived.Test.YthmepecmeambmaaGreatKLmF
namespace Go.Proofs.YthmepecmeambmaaGreat
open Go.RowKit
set_option linter.unusedVariables false

theorem results_cell_one {P : Program} {fn : Func} {p u : Tmp} {ty : TypeId} (h : fn.results = #[.cell p ty, .tmp u]) (tmps : Array Value) (w : World) (g : Nat) (t : TypeId) (cs : Array Value) (fr : Nat × Nat) (d : TypeDesc)
    (hp : tmps.getD p undef = .pointer (some ⟨g, 0, none⟩)) (hg : w.heap[g]? = some (.cells cs t fr))
    (hu : P.underlying ty = some d) (hd : (match d with | .struct _ | .array _ _ => true | _ => false) = true) (hi : (P.info? ty).map (·.size) = some cs.size) :
    (results fn tmps).run P w = .ok (.tuple #[.agg cs, tmps.getD u undef]) w := by
  have hp' : tmps[p]?.getD undef = .pointer (some ⟨g, 0, none⟩) := by simpa using hp
  simp [results, h, hp', asAddr, run_loadVar_row w g t ty cs fr d hg hu hd hi]
def noneC : Cls := ⟨⟨#[]⟩, ⟨#[]⟩, false, false, [], [], []⟩
/-- The class of that Name, or one of zeros. -/
def clsOf (P : List Cls) (n : ByteArray) : Cls × Bool := match lk P n with
  | none => (noneC, false)
  | some c => (c, true)
set_option maxHeartbeats 8000000 in
theorem class_any (n : ByteArray) (P : List Cls) (g b : Nat) (w : World) (h : Pm w g b P) (hT : okCs P) :
    Calls Tryz.prog 31 #[.pointer (some ⟨g, 0, none⟩), .string n] w fun e w' => ∃ vi vf vm, e = .returned (.tuple #[.agg #[.string (clsOf P n).1.n, .string (clsOf P n).1.s, .bool (clsOf P n).1.it, .bool (clsOf P n).1.ab, vi, vf, vm], .bool (clsOf P n).2]) ∧ OwC w.heap.size w' (clsOf P n).1 vi vf vm ∧ Ch w w' := by
  have R0 := Bo.new (Ch.refl w) #[.string ⟨#[]⟩, .string ⟨#[]⟩, .bool false, .bool false, .slice none 0 0, .slice none 0 0, .slice none 0 0] 41
  have hf := find_any n P g b _ (h.keep R0.ch)
  unfold clsOf
  cases hx : ixN P n with
  | none =>
    rw [pn_no hx] at hf
    rw [ix_none.1 hx]
    clear hx h
    go_enter Tryz.func31, Tryz.ntmps31
    go_wp2_with (first
      | (go_at_call 92; (with_reducible refine hf.mono ?_); clear hf; rintro e w2 ⟨rfl, c2⟩; have R := R0.call c2)
      | (refine wpList_store_row rfl 41 (.tmp 4) (.tmp 12) rfl w.heap.size #[.string ⟨#[]⟩, .string ⟨#[]⟩, .bool false, .bool false, .slice none 0 0, .slice none 0 0, .slice none 0 0] rfl rfl 41 _ R.b infoC rfl (one7 _ _ _ _ _ _ _ _ _ _ _ _ _) ?_)
      | fail)
    have R6 := R.setRow #[.string ⟨#[]⟩, .string ⟨#[]⟩, .bool false, .bool false, .slice none 0 0, .slice none 0 0, .slice none 0 0]
    refine bodyPost_ret (results_cell_one rfl _ _ w.heap.size 41 _ (0, 0) _ rfl R6.b Tryz.underlying41 rfl infoC) rfl ?_
    exact ⟨_, _, _, rfl, ⟨Ow.nil, Ow.nil, Ow.nil⟩, R6.ch⟩
  | some i =>
    obtain ⟨x, hxi, hxl, _⟩ := ix_some hx
    rw [pn_is hx] at hf
    unfold ptr at hf
    rw [hxl]
    dsimp only
    obtain ⟨vi, vf, vm, hat, p0, p1, p2, p3, p4, p5, p6⟩ := h.at hxi
    have hxT : clsT x ≤ 12000 := hT x (List.mem_of_getElem? hxi)
    have HQ : Hid (∀ w', Ch w w' → ClsAt w' x vi vf vm ∧ w'.cell? ⟨b, i * 7, none⟩ = some (.string x.n) ∧ w'.cell? ⟨b, i * 7 + 1, none⟩ = some (.string x.s) ∧ w'.cell? ⟨b, i * 7 + 2, none⟩ = some (.bool x.it) ∧ w'.cell? ⟨b, i * 7 + 3, none⟩ = some (.bool x.ab) ∧
        w'.cell? ⟨b, i * 7 + 4, none⟩ = some vi ∧ w'.cell? ⟨b, i * 7 + 5, none⟩ = some vf ∧ w'.cell? ⟨b, i * 7 + 6, none⟩ = some vm) := fun w' c => ⟨hat.keep c, cell_keep c p0, cell_keep c p1, cell_keep c p2, cell_keep c p3, cell_keep c p4, cell_keep c p5, cell_keep c p6⟩
    have HO : Hid (∀ w', ClsAt w' x vi vf vm → Calls Tryz.prog 93 #[.agg #[.string x.n, .string x.s, .bool x.it, .bool x.ab, vi, vf, vm]] w' fun e w2 =>
      ∃ vi' vf' vm', e = .returned (.agg #[.string x.n, .string x.s, .bool x.it, .bool x.ab, vi', vf', vm']) ∧ OwC w'.heap.size w2 x vi' vf' vm' ∧ Ch w' w2) := fun w' hc => ownLists_any x vi vf vm w' hc hxT
    clear hx hxi hxl h hat p0 p1 p2 p3 p4 p5 p6 hxT
    go_enter Tryz.func31, Tryz.ntmps31
    go_wp2_with (first
      | (go_at_call 92; (with_reducible refine hf.mono ?_); clear hf; rintro e w2 ⟨rfl, c2⟩; have R := R0.call c2; obtain ⟨hc, q0, q1, q2, q3, q4, q5, q6⟩ := HQ.out w2 R.ch; have ho := HO.out w2 hc; clear hc)
      | (go_at_call 93; (with_reducible refine ho.mono ?_); clear ho; rintro e w3 ⟨vi', vf', vm', rfl, ow, c3⟩; have ow := ow.base (B' := w.heap.size) R.ch.size; have R3 := R.call c3; obtain ⟨a3, d3, rfl⟩ := Ow.form ow.i; obtain ⟨a4, d4, rfl⟩ := Ow.form ow.f; obtain ⟨a5, d5, rfl⟩ := Ow.form ow.m)
      | (refine wpList_store_row rfl 41 (.tmp 4) (.tmp 16) rfl w.heap.size #[.string x.n, .string x.s, .bool x.it, .bool x.ab, .slice a3 x.im.length d3, .slice a4 x.fs.length d4, .slice a5 x.me.length d5] rfl rfl 41 _ R3.b infoC rfl (one7 _ _ _ _ _ _ _ _ _ _ _ _ _) ?_)
      | fail)
    have R6 := R3.setRow #[.string x.n, .string x.s, .bool x.it, .bool x.ab, .slice a3 x.im.length d3, .slice a4 x.fs.length d4, .slice a5 x.me.length d5]
    refine bodyPost_ret (results_cell_one rfl _ _ w.heap.size 41 _ (0, 0) _ rfl R6.b Tryz.underlying41 rfl infoC) rfl ?_
    exact ⟨_, _, _, rfl, ⟨ow.i.rowS _ R3.b (by decide), ow.f.rowF _ R3.b (by decide), ow.m.rowM _ R3.b (by decide) (by decide) (by decide)⟩, R6.ch⟩
end Go.Proofs.YthmepecmeambmaaGreat
namespace Go.Proofs.YthmepecmeambmaaGreat
open Go.RowKit
set_option linter.unusedVariables false

set_option maxHeartbeats 4000000 in
theorem class_nil (n : ByteArray) (w : World) : Calls Tryz.prog 31 #[.pointer none, .string n] w fun e w' => e = .returned (.tuple #[.agg #[.string ⟨#[]⟩, .string ⟨#[]⟩, .bool false, .bool false, .slice none 0 0, .slice none 0 0, .slice none 0 0], .bool false]) ∧ Ch w w' := by
  have R := Bo.new (Ch.refl w) #[.string ⟨#[]⟩, .string ⟨#[]⟩, .bool false, .bool false, .slice none 0 0, .slice none 0 0, .slice none 0 0] 41
  have hf := find_nil n (w.alloc (.cells #[.string ⟨#[]⟩, .string ⟨#[]⟩, .bool false, .bool false, .slice none 0 0, .slice none 0 0, .slice none 0 0] 41))
  go_enter Tryz.func31, Tryz.ntmps31
  go_wp2_with (first
    | (go_at_call 92; (with_reducible refine hf.mono ?_); clear hf; rintro e w2 ⟨rfl, hw⟩; have hw := hw.symm; subst hw)
    | (refine wpList_store_row rfl 41 (.tmp 4) (.tmp 12) rfl w.heap.size #[.string ⟨#[]⟩, .string ⟨#[]⟩, .bool false, .bool false, .slice none 0 0, .slice none 0 0, .slice none 0 0] rfl rfl 41 _ R.b infoC rfl (one7 _ _ _ _ _ _ _ _ _ _ _ _ _) ?_)
    | fail)
  have R6 := R.setRow #[.string ⟨#[]⟩, .string ⟨#[]⟩, .bool false, .bool false, .slice none 0 0, .slice none 0 0, .slice none 0 0]
  refine bodyPost_ret (results_cell_one rfl _ _ w.heap.size 41 _ (0, 0) _ rfl R6.b Tryz.underlying41 rfl infoC) rfl ?_
  exact ⟨rfl, R6.ch⟩
set_option maxHeartbeats 4000000 in
theorem concrete_nil (n : ByteArray) (w : World) : Calls Tryz.prog 40 #[.pointer none, .string n] w fun e w' => e = .returned (.bool false) ∧ Ch w w' := by
  have hf := find_nil n w
  go_enter Tryz.func40, Tryz.ntmps40
  go_wp2_with (first
    | (go_at_call 92; (with_reducible refine hf.mono ?_); clear hf; rintro e w2 ⟨rfl, hw⟩; have hw := hw.symm; subst hw)
    | fail)
  go_ret
  exact ⟨rfl, by first | exact Ch.refl _ | exact (Ch.refl _).drew⟩
theorem namesOf_nil (v : Value) (w : World) : Calls Tryz.prog 84 #[.pointer none, v] w fun e w' => e = .returned (.slice none 0 0) ∧ w' = w := by
  go_enter Tryz.func84, Tryz.ntmps84
  go_wp2
  go_ret
  exact ⟨rfl, rfl⟩
theorem names_nil (w : World) : Calls Tryz.prog 26 #[.pointer none] w fun e w' => e = .returned (.slice none 0 0) ∧ w' = w := by
  have hf := fun v => namesOf_nil v w
  go_enter Tryz.func26, Tryz.ntmps26
  go_wp2_with (first
    | (go_at_call 84; (with_reducible refine (hf _).mono ?_); rintro e w2 ⟨rfl, hw⟩; have hw := hw.symm; subst hw)
    | fail)
  go_ret
  exact ⟨rfl, rfl⟩
set_option maxHeartbeats 4000000 in
theorem subs_nil (n : ByteArray) (w : World) : Calls Tryz.prog 35 #[.pointer none, .string n] w fun e w' => e = .returned (.slice none 0 0) ∧ Ch w w' := by
  go_enter Tryz.func35, Tryz.ntmps35
  go_wp2_with (first
    | (go_at_call 84; (with_reducible refine (namesOf_nil _ _).mono ?_); rintro e w2 ⟨rfl, hw⟩; have hw := hw.symm; subst hw)
    | fail)
  go_ret
  exact ⟨rfl, ((Ch.refl _).alloc _).alloc _⟩
end Go.Proofs.YthmepecmeambmaaGreat
