/- LinkWhole: three classes laid by hand. -/
import Derived.Test.YthmepecmeambmaaGreatKLtB
namespace Go.Proofs.YthmepecmeambmaaGreat
open Go.RowKit
set_option linter.unusedVariables false

theorem al_keep {w : World} {g : Nat} {o o' : Obj} (h : w.heap[g]? = some o) : (w.alloc o').heap[g]? = some o := kept_at ((Ch.refl w).alloc o') h
theorem dr_keep {w : World} {g : Nat} {o : Obj} (h : w.heap[g]? = some o) : w.drew.heap[g]? = some o := kept_at (Ch.refl w).drew h
theorem one_sl {α : Type} {k : Nat} {R : World → List Value → α → Prop} {W : World} {g : Nat} {cs : List Value} {T : TypeId} {x : α} (h : W.heap[g]? = some (.cells cs.toArray T)) (hR : R W cs x) :
    Sl k R W (.slice (some ⟨g, 0, none⟩) 1 1) [x] := by
  refine ⟨_, 1, rfl, Nat.le_refl _, by decide, fun _ => ⟨g, 0, rfl, fun i a hi => ?_⟩⟩
  have hi0 : i = 0 := by
    have := (List.getElem?_eq_some_iff.1 hi).1
    simpa using this
  subst hi0
  cases hi
  refine ⟨cs, hR, fun j u hj => ?_⟩
  simp only [World.cell?, h]
  simpa using hj
theorem three_row {W : World} {g : Nat} {x y z : Cls} {xi xf xm yi yf ym zi zf zm : Value}
    (h : W.heap[g]? = some (.cells #[.string x.n, .string x.s, .bool x.it, .bool x.ab, xi, xf, xm, .string y.n, .string y.s, .bool y.it, .bool y.ab, yi, yf, ym, .string z.n, .string z.s, .bool z.it, .bool z.ab, zi, zf, zm] 41))
    (hx : ClsAt W x xi xf xm) (hy : ClsAt W y yi yf ym) (hz : ClsAt W z zi zf zm) : Sl 7 RC W (.slice (some ⟨g, 0, none⟩) 3 3) [x, y, z] := by
  refine ⟨_, 3, rfl, Nat.le_refl _, by decide, fun _ => ⟨g, 0, rfl, fun i a hi => ?_⟩⟩
  have hi0 : i < 3 := by
    have := (List.getElem?_eq_some_iff.1 hi).1
    simpa using this
  have hj7 : ∀ (cs : List Value), cs.length = 7 → ∀ j u, cs[j]? = some u → j < 7 := fun cs hc j u hj => by
    have := (List.getElem?_eq_some_iff.1 hj).1
    omega
  match i, hi0, hi with
  | 0, _, hi =>
    cases hi
    refine ⟨_, ⟨_, _, _, rfl, hx⟩, fun j u hj => ?_⟩
    have hj7 := hj7 _ rfl j u hj
    simp only [World.cell?, h]
    match j, hj7, hj with
    | 0, _, hj => simpa using hj
    | 1, _, hj => simpa using hj
    | 2, _, hj => simpa using hj
    | 3, _, hj => simpa using hj
    | 4, _, hj => simpa using hj
    | 5, _, hj => simpa using hj
    | 6, _, hj => simpa using hj
  | 1, _, hi =>
    cases hi
    refine ⟨_, ⟨_, _, _, rfl, hy⟩, fun j u hj => ?_⟩
    have hj7 := hj7 _ rfl j u hj
    simp only [World.cell?, h]
    match j, hj7, hj with
    | 0, _, hj => simpa using hj
    | 1, _, hj => simpa using hj
    | 2, _, hj => simpa using hj
    | 3, _, hj => simpa using hj
    | 4, _, hj => simpa using hj
    | 5, _, hj => simpa using hj
    | 6, _, hj => simpa using hj
  | 2, _, hi =>
    cases hi
    refine ⟨_, ⟨_, _, _, rfl, hz⟩, fun j u hj => ?_⟩
    have hj7 := hj7 _ rfl j u hj
    simp only [World.cell?, h]
    match j, hj7, hj with
    | 0, _, hj => simpa using hj
    | 1, _, hj => simpa using hj
    | 2, _, hj => simpa using hj
    | 3, _, hj => simpa using hj
    | 4, _, hj => simpa using hj
    | 5, _, hj => simpa using hj
    | 6, _, hj => simpa using hj

abbrev wI : ByteArray := ⟨#[73]⟩
abbrev wA : ByteArray := ⟨#[65]⟩
abbrev wNb : ByteArray := ⟨#[66]⟩
abbrev wGo : ByteArray := ⟨#[103, 111]⟩
abbrev wV : ByteArray := ⟨#[40, 41, 86]⟩
abbrev wIns : Ins := ⟨36, 0, 0, ⟨#[]⟩, ⟨#[]⟩, ⟨#[]⟩⟩
abbrev wMc : Mth := ⟨wGo, wV, false, false, 0, 1, [wIns], []⟩
abbrev wMa : Mth := ⟨wGo, wV, false, true, 0, 0, [], []⟩
abbrev opI : Bool → List ByteArray
  | true => [wI]
  | false => []
abbrev opM (m : Mth) : Bool → List Mth
  | true => [m]
  | false => []
abbrev whole (x y z ab has : Bool) : List Cls :=
  [⟨wNb, wA, false, ab, opI x, [], opM wMc has⟩, ⟨wI, nObject, true, true, [], [], [wMa]⟩, ⟨wA, nObject, false, y || z, opI y, [], opM wMa z⟩]
theorem whole_ok (x y z ab has : Bool) : okCs (whole x y z ab has) := by
  have h : ((whole x y z ab has).all fun c => decide (clsT c ≤ 12000)) = true := by
    revert x y z ab has
    decide +kernel
  exact fun c hc => by simpa using List.all_eq_true.1 h c hc
theorem whole_yes (x y z ab has : Bool) (h : ((x && !y && !z) || (!x && (y != z))) = true) (h2 : (ab || has) = true) : link (whole x y z ab has) = (some (prog (whole x y z ab has)), 0, nNone) := by
  refine link_ok ?_
  revert x y z ab has
  decide +kernel
theorem whole_no (x y z : Bool) (h : ((x && !y && !z) || (!x && (y != z))) = true) : link (whole x y z false false) = (none, 8, wNb) := by
  refine link_no ?_ ?_
  · revert x y z
    decide +kernel
  · revert x y z
    decide +kernel
end Go.Proofs.YthmepecmeambmaaGreat
