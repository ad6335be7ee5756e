/- For every class the law ClassWrites of chapter 5 returns true and leaves its argument as it was; no condition. -/
import Derived.Test.YtdalibfgkkgcpaaGreatRows
import Derived.Test.YtdalibfgkkgcpaaGreatKKp
import Derived.WalkKit
import Derived.ProofKit
import Derived.OpenShut
import Derived.ShutString
import Derived.ChangeOld
import Derived.Below
import Derived.Deep.Slices
import Derived.Test.YtdalibfgkkgcpaaGreatKAwB
import Derived.Test.YtdalibfgkkgcpaaGreatKBulk
import Derived.Test.YtdalibfgkkgcpaaGreatKRefT
namespace Go.Proofs.YtdalibfgkkgcpaaGreat
open Go.ChangeShapes Go.WideShapes Go.ChangeAt Go.RowKit
set_option linter.unusedVariables false

theorem cls_own : ownKnob Tryz.prog.godebug = none := by kernel_rfl
theorem cls_laidOut : laidOutB Tryz.prog = true := by kernel_rfl
theorem Tryz.cells3 : Tryz.prog.cellsOf 3 = 1 := by kernel_rfl
theorem Tryz.cells4 : Tryz.prog.cellsOf 4 = 1 := by kernel_rfl
theorem Tryz.cells9 : Tryz.prog.cellsOf 9 = 1 := by kernel_rfl
theorem Tryz.cells22 : Tryz.prog.cellsOf 22 = 1 := by kernel_rfl
theorem Tryz.cells23 : Tryz.prog.cellsOf 23 = 1 := by kernel_rfl
theorem Tryz.cells24 : Tryz.prog.cellsOf 24 = 1 := by kernel_rfl
theorem Tryz.cells33 : Tryz.prog.cellsOf 42 = 1 := by kernel_rfl
theorem Tryz.cells34 : Tryz.prog.cellsOf 43 = 1 := by kernel_rfl
theorem Tryz.cells26 : Tryz.prog.cellsOf 26 = 7 := by kernel_rfl
theorem Tryz.cells32 : Tryz.prog.cellsOf 47 = 6 := by kernel_rfl
theorem Tryz.cells36 : Tryz.prog.cellsOf 45 = 8 := by kernel_rfl
theorem Tryz.cells39 : Tryz.prog.cellsOf 54 = 3 := by kernel_rfl
theorem Tryz.cells41 : Tryz.prog.cellsOf 77 = 4 := by kernel_rfl

theorem len3 {α : Type} {l : List α} (h : l.length = 3) : ∃ a b c, l = [a, b, c] := by
  match l, h with
  | [a, b, c], _ => exact ⟨a, b, c, rfl⟩
theorem len4 {α : Type} {l : List α} (h : l.length = 4) : ∃ a b c d, l = [a, b, c, d] := by
  match l, h with
  | [a, b, c, d], _ => exact ⟨a, b, c, d, rfl⟩
theorem len6 {α : Type} {l : List α} (h : l.length = 6) : ∃ a b c d e f, l = [a, b, c, d, e, f] := by
  match l, h with
  | [a, b, c, d, e, f], _ => exact ⟨a, b, c, d, e, f, rfl⟩
theorem len7 {α : Type} {l : List α} (h : l.length = 7) : ∃ a b c d e f g, l = [a, b, c, d, e, f, g] := by
  match l, h with
  | [a, b, c, d, e, f, g], _ => exact ⟨a, b, c, d, e, f, g, rfl⟩
theorem len8 {α : Type} {l : List α} (h : l.length = 8) : ∃ a b c d e f g i, l = [a, b, c, d, e, f, g, i] := by
  match l, h with
  | [a, b, c, d, e, f, g, i], _ => exact ⟨a, b, c, d, e, f, g, i, rfl⟩

variable {H : Type} {enc : TypeId × Value → H} {w : World}
theorem add_none (b off j : Nat) : (⟨b, off, none⟩ : Addr).add j = ⟨b, off + j, none⟩ := by unfold Addr.add; split <;> simp_all
theorem open_sl {α : Type} [Inhabited α] {R : World → List Value → α → Prop} (k : Nat) {tS tE : TypeId} (hu : Tryz.prog.underlying tS = some (.slice tE)) (hk : Tryz.prog.cellsOf tE = k) (hk0 : 0 < k)
    (elem : ∀ n cs x, DataW.trod enc Tryz.prog w 0 (fun _ => true) true n tE cs = some x → ∃ a, R w cs a)
    {fuel : Nat} {v : Value} {x : DataW H × List MemPlace} (h : DataW.trod enc Tryz.prog w 0 (fun _ => true) true fuel tS [v] = some x) : ∃ xs : List α, Sl k R w v xs := by
  rcases Deep.open_slice hu h with ⟨hcs, _⟩ | ⟨ad, l, c, m, n, D, Pl, hcs, _, hl, hm, hmm, _, hx⟩
  · simp at hcs
    subst hcs
    exact ⟨[], none, 0, rfl, Nat.le_refl _, by omega, fun h => by simp at h⟩
  · simp at hcs
    subst hcs
    rw [if_pos rfl] at hmm
    subst hmm
    rw [hk] at hx
    have each : ∀ i, i < m → ∃ t : α × List Value, R w t.2 t.1 ∧ t.2.length = k ∧ ∀ j, j < k → w.cell? ((ad.add (i * k)).add j) = t.2[j]? := fun i hi => by
      obtain ⟨cs', h1, h2⟩ := hx i hi
      obtain ⟨a, ha⟩ := elem _ _ _ h2
      obtain ⟨_, hlen, hc⟩ := World.cells?_some h1
      exact ⟨(a, cs'), ha, hlen, hc⟩
    obtain ⟨T, hT⟩ := Deep.choose_lt (α := α × List Value) each
    unfold maxLen at hm
    refine ⟨(List.range l).map fun i => (T i).1, some ad, m, by simp, by simpa using hl, by omega, fun hp => ?_⟩
    have hl0 : 0 < l := by simpa using hp
    obtain ⟨b, off, spot⟩ := ad
    have hspot : spot = none := by
      obtain ⟨_, hlen, hc⟩ := hT 0 (by omega)
      obtain ⟨u, hu'⟩ : ∃ u, (T 0).2[0]? = some u := ⟨_, List.getElem?_eq_getElem (by omega)⟩
      have := World.cell?_spot ((hc 0 hk0).trans hu')
      simpa [Addr.add] using this
    subst hspot
    refine ⟨b, off, rfl, fun i a hi => ?_⟩
    have hil : i < l := by
      have := (List.getElem?_eq_some_iff.1 hi).1
      simpa using this
    rw [List.getElem?_map, List.getElem?_range hil] at hi
    simp at hi
    subst hi
    obtain ⟨h1, h2, h3⟩ := hT i (by omega)
    refine ⟨_, h1, fun j u hj => ?_⟩
    have hjk : j < k := by rw [← h2]; exact (List.getElem?_eq_some_iff.1 hj).1
    have := h3 j hjk
    rw [add_none, add_none] at this
    rw [this, hj]

instance : Inhabited Ins := ⟨⟨0, 0, 0, ByteArray.empty, ByteArray.empty, ByteArray.empty⟩⟩
instance : Inhabited Fld := ⟨⟨ByteArray.empty, ByteArray.empty, false⟩⟩
instance : Inhabited Hnd := ⟨⟨0, 0, 0, ByteArray.empty⟩⟩
instance : Inhabited Mth := ⟨⟨ByteArray.empty, ByteArray.empty, false, false, 0, 0, [], []⟩⟩

theorem open_str {n : Nat} {cs : List Value} {x : DataW H × List MemPlace} (h : DataW.trod enc Tryz.prog w 0 (fun _ => true) true n 9 cs = some x) : ∃ a, RS w cs a := by
  obtain ⟨s, e, _, _⟩ := DataW.trod_string Tryz.underlying9 h
  exact ⟨s, e⟩
theorem open_insC {n : Nat} {cs : List Value} {x : DataW H × List MemPlace} (h : DataW.trod enc Tryz.prog w 0 (fun _ => true) true n 47 cs = some x) : ∃ a, RI w cs a := by
  obtain ⟨xs, n', _, _, hl, hlen, hf⟩ := DataW.trod_struct Tryz.underlying47 h
  rw [Tryz.cells32] at hl
  obtain ⟨c0, c1, c2, c3, c4, c5, rfl⟩ := len6 hl
  obtain ⟨x0, x1, x2, x3, x4, x5, rfl⟩ := len6 hlen
  have h0 := hf 0 _ rfl
  have h1 := hf 1 _ rfl
  have h2 := hf 2 _ rfl
  have h3 := hf 3 _ rfl
  have h4 := hf 4 _ rfl
  have h5 := hf 5 _ rfl
  simp [Tryz.cells3, Tryz.cells9] at h0 h1 h2 h3 h4 h5
  obtain ⟨y0, e0, _, _⟩ := DataW.trod_int Tryz.underlying3 h0
  obtain ⟨y1, e1, _, _⟩ := DataW.trod_int Tryz.underlying3 h1
  obtain ⟨y2, e2, _, _⟩ := DataW.trod_int Tryz.underlying3 h2
  obtain ⟨y3, e3, _, _⟩ := DataW.trod_string Tryz.underlying9 h3
  obtain ⟨y4, e4, _, _⟩ := DataW.trod_string Tryz.underlying9 h4
  obtain ⟨y5, e5, _, _⟩ := DataW.trod_string Tryz.underlying9 h5
  simp at e0 e1 e2 e3 e4 e5
  subst e0 e1 e2 e3 e4 e5
  exact ⟨⟨y0, y1, y2, y3, y4, y5⟩, rfl⟩
theorem open_fldC {n : Nat} {cs : List Value} {x : DataW H × List MemPlace} (h : DataW.trod enc Tryz.prog w 0 (fun _ => true) true n 54 cs = some x) : ∃ a, RF w cs a := by
  obtain ⟨xs, n', _, _, hl, hlen, hf⟩ := DataW.trod_struct Tryz.underlying54 h
  rw [Tryz.cells39] at hl
  obtain ⟨c0, c1, c2, rfl⟩ := len3 hl
  obtain ⟨x0, x1, x2, rfl⟩ := len3 hlen
  have h0 := hf 0 _ rfl
  have h1 := hf 1 _ rfl
  have h2 := hf 2 _ rfl
  simp [Tryz.cells4, Tryz.cells9] at h0 h1 h2
  obtain ⟨y0, e0, _, _⟩ := DataW.trod_string Tryz.underlying9 h0
  obtain ⟨y1, e1, _, _⟩ := DataW.trod_string Tryz.underlying9 h1
  obtain ⟨y2, e2, _⟩ := DataW.trod_bool Tryz.underlying4 h2
  simp at e0 e1 e2
  subst e0 e1 e2
  exact ⟨⟨y0, y1, y2⟩, rfl⟩
theorem open_hndC {n : Nat} {cs : List Value} {x : DataW H × List MemPlace} (h : DataW.trod enc Tryz.prog w 0 (fun _ => true) true n 77 cs = some x) : ∃ a, RH w cs a := by
  obtain ⟨xs, n', _, _, hl, hlen, hf⟩ := DataW.trod_struct Tryz.underlying77 h
  rw [Tryz.cells41] at hl
  obtain ⟨c0, c1, c2, c3, rfl⟩ := len4 hl
  obtain ⟨x0, x1, x2, x3, rfl⟩ := len4 hlen
  have h0 := hf 0 _ rfl
  have h1 := hf 1 _ rfl
  have h2 := hf 2 _ rfl
  have h3 := hf 3 _ rfl
  simp [Tryz.cells3, Tryz.cells9] at h0 h1 h2 h3
  obtain ⟨y0, e0, _, _⟩ := DataW.trod_int Tryz.underlying3 h0
  obtain ⟨y1, e1, _, _⟩ := DataW.trod_int Tryz.underlying3 h1
  obtain ⟨y2, e2, _, _⟩ := DataW.trod_int Tryz.underlying3 h2
  obtain ⟨y3, e3, _, _⟩ := DataW.trod_string Tryz.underlying9 h3
  simp at e0 e1 e2 e3
  subst e0 e1 e2 e3
  exact ⟨⟨y0, y1, y2, y3⟩, rfl⟩
theorem open_mthC {n : Nat} {cs : List Value} {x : DataW H × List MemPlace} (h : DataW.trod enc Tryz.prog w 0 (fun _ => true) true n 45 cs = some x) : ∃ a, RM w cs a := by
  obtain ⟨xs, n', _, _, hl, hlen, hf⟩ := DataW.trod_struct Tryz.underlying45 h
  rw [Tryz.cells36] at hl
  obtain ⟨c0, c1, c2, c3, c4, c5, c6, c7, rfl⟩ := len8 hl
  obtain ⟨x0, x1, x2, x3, x4, x5, x6, x7, rfl⟩ := len8 hlen
  have h0 := hf 0 _ rfl
  have h1 := hf 1 _ rfl
  have h2 := hf 2 _ rfl
  have h3 := hf 3 _ rfl
  have h4 := hf 4 _ rfl
  have h5 := hf 5 _ rfl
  have h6 := hf 6 _ rfl
  have h7 := hf 7 _ rfl
  simp [Tryz.cells3, Tryz.cells9, Tryz.cells4, Tryz.cells33, Tryz.cells34] at h0 h1 h2 h3 h4 h5 h6 h7
  obtain ⟨y0, e0, _, _⟩ := DataW.trod_string Tryz.underlying9 h0
  obtain ⟨y1, e1, _, _⟩ := DataW.trod_string Tryz.underlying9 h1
  obtain ⟨y2, e2, _⟩ := DataW.trod_bool Tryz.underlying4 h2
  obtain ⟨y3, e3, _⟩ := DataW.trod_bool Tryz.underlying4 h3
  obtain ⟨y4, e4, _, _⟩ := DataW.trod_int Tryz.underlying3 h4
  obtain ⟨y5, e5, _, _⟩ := DataW.trod_int Tryz.underlying3 h5
  obtain ⟨y6, e6⟩ := open_sl (R := RI) 6 Tryz.underlying42 Tryz.cells32 (by omega) (fun _ _ _ h => open_insC h) h6
  obtain ⟨y7, e7⟩ := open_sl (R := RH) 4 Tryz.underlying43 Tryz.cells41 (by omega) (fun _ _ _ h => open_hndC h) h7
  simp at e0 e1 e2 e3 e4 e5
  subst e0 e1 e2 e3 e4 e5
  exact ⟨⟨y0, y1, y2, y3, y4, y5, y6, y7⟩, c6, c7, rfl, e6, e7⟩
theorem open_clsC {n : Nat} {cs : List Value} {x : DataW H × List MemPlace} (h : DataW.trod enc Tryz.prog w 0 (fun _ => true) true n 26 cs = some x) :
    ∃ (c : Cls) (vi vf vm : Value), cs = [.string c.n, .string c.s, .bool c.it, .bool c.ab, vi, vf, vm] ∧ ClsAt w c vi vf vm := by
  obtain ⟨xs, n', _, _, hl, hlen, hf⟩ := DataW.trod_struct Tryz.underlying26 h
  rw [Tryz.cells26] at hl
  obtain ⟨c0, c1, c2, c3, c4, c5, c6, rfl⟩ := len7 hl
  obtain ⟨x0, x1, x2, x3, x4, x5, x6, rfl⟩ := len7 hlen
  have h0 := hf 0 _ rfl
  have h1 := hf 1 _ rfl
  have h2 := hf 2 _ rfl
  have h3 := hf 3 _ rfl
  have h4 := hf 4 _ rfl
  have h5 := hf 5 _ rfl
  have h6 := hf 6 _ rfl
  simp [Tryz.cells9, Tryz.cells4, Tryz.cells22, Tryz.cells23, Tryz.cells24] at h0 h1 h2 h3 h4 h5 h6
  obtain ⟨y0, e0, _, _⟩ := DataW.trod_string Tryz.underlying9 h0
  obtain ⟨y1, e1, _, _⟩ := DataW.trod_string Tryz.underlying9 h1
  obtain ⟨y2, e2, _⟩ := DataW.trod_bool Tryz.underlying4 h2
  obtain ⟨y3, e3, _⟩ := DataW.trod_bool Tryz.underlying4 h3
  obtain ⟨y4, e4⟩ := open_sl (R := RS) 1 Tryz.underlying22 Tryz.cells9 (by omega) (fun _ _ _ h => open_str h) h4
  obtain ⟨y5, e5⟩ := open_sl (R := RF) 3 Tryz.underlying23 Tryz.cells39 (by omega) (fun _ _ _ h => open_fldC h) h5
  obtain ⟨y6, e6⟩ := open_sl (R := RM) 8 Tryz.underlying24 Tryz.cells36 (by omega) (fun _ _ _ h => open_mthC h) h6
  simp at e0 e1 e2 e3
  subst e0 e1 e2 e3
  exact ⟨⟨y0, y1, y2, y3, y4, y5, y6⟩, c4, c5, c6, rfl, e4, e5, e6⟩
set_option maxRecDepth 100000 in
theorem open_cls {b0 : Nat} {r : Reach} {v : Value} {d : DataW H} {p : List MemPlace} (hv : Value.okWide Tryz.prog w r b0 26 v) (h : DataW.Trod enc Tryz.prog w 0 (fun _ => true) true 26 v d p) :
    ∃ (c : Cls) (vi vf vm : Value), v = .agg #[.string c.n, .string c.s, .bool c.it, .bool c.ab, vi, vf, vm] ∧ ClsAt w c vi vf vm := by
  obtain ⟨cs, rfl, _⟩ := okWide_struct Tryz.underlying26 hv
  obtain ⟨fuel, hf⟩ := h
  obtain ⟨c, vi, vf, vm, hc, hat⟩ := open_clsC hf
  refine ⟨c, vi, vf, vm, ?_, hat⟩
  have : cs = #[.string c.n, .string c.s, .bool c.it, .bool c.ab, vi, vf, vm] := by
    simp [Value.cells] at hc
    exact Array.toList_inj.1 hc
  rw [this]

open Go.RowKit
set_option linter.unusedVariables false

def leastBs : List Int := headB [[65], [79, 98, 106, 101, 99, 116]] ++ leastB [[65], [79, 98, 106, 101, 99, 116]] nA nO
theorem leastBs_len : leastBs.length = 29 := by decide +kernel
theorem leastBs_four : strOfNums (leastBs.take 4) = ⟨#[83, 66, 67, 49]⟩ := by decide +kernel
theorem zero_enc (w : World) : Calls Tryz.prog 9 #[.agg #[.string ⟨#[]⟩, .string ⟨#[]⟩, .bool false, .bool false, .slice none 0 0, .slice none 0 0, .slice none 0 0]] w fun e w' => e = .returned (.tuple #[.slice none 0 0, .int .i64 6]) ∧ Ch w w' :=
  encode_no (leastK nE nE) _ _ _ w (least_at _ _ _) (least_fine _ _ (by decide) (by decide)) 6 least_no (by decide)
theorem same_least (w : World) : Calls Tryz.prog 18 #[.agg #[.string ⟨#[65]⟩, .string ⟨#[]⟩, .bool false, .bool false, .slice none 0 0, .slice none 0 0, .slice none 0 0], .agg #[.string ⟨#[65]⟩, .string ⟨#[]⟩, .bool false, .bool false, .slice none 0 0, .slice none 0 0, .slice none 0 0]] w fun e w' => e = .returned (.bool true) ∧ Ch w w' := by
  have h := sameC_any (leastK nA nE) (leastK nA nE) _ _ _ _ _ _ w (least_at _ _ _) (least_at _ _ _)
  have e : eqC (leastK nA nE) (leastK nA nE) = true := by decide +kernel
  rw [e] at h
  exact h
theorem least_enc' (w : World) : Calls Tryz.prog 9 #[.agg #[.string ⟨#[65]⟩, .string ⟨#[79, 98, 106, 101, 99, 116]⟩, .bool false, .bool false, .slice none 0 0, .slice none 0 0, .slice none 0 0]] w
    fun e w' => ∃ ao cb, e = .returned (.tuple #[.slice ao 29 cb, .int .i64 0]) ∧ w'.ownsRow w.heap.size 5 1 (.slice ao 29 cb) leastBs.length (leastBs.map (Value.int .u8)) ∧ Ch w w' := by
  refine (least_enc w).mono ?_
  rintro e w' ⟨v, h1, h2, h3⟩
  have h2' : w'.ownsRow w.heap.size 5 1 v leastBs.length (leastBs.map (Value.int .u8)) := h2
  obtain ⟨ao, cb, hv⟩ := own_form h2'
  rw [leastBs_len] at hv
  subst hv
  exact ⟨ao, cb, h1, h2', h3⟩

set_option maxHeartbeats 2000000 in
theorem awake_any (w : World) : Calls Tryz.prog 8 #[] w fun e w' => e = .returned (.bool true) ∧ Ch w w' := by
  go_enter Tryz.func8, Tryz.ntmps8
  go_wp2_with (first
    | (go_at_call 9; (with_reducible refine (least_enc' _).mono ?_); rintro e w2 ⟨ao, cb, rfl, ho2, hc2⟩; have hsl : ∀ W, (Instr.slice 29 (.slice ao 29 cb) none (some (.int .i64 4)) none).run Tryz.prog W = .ok (.slice ao 4 cb) W := (fun W => slice_to (c := 4) (L := 29) (by rw [leastBs_len] at ho2; exact ho2) (by omega) (by omega) W))
    | (go_at_call 9; (with_reducible refine (zero_enc _).mono ?_); rintro e w3 ⟨rfl, hc3⟩; have hcv : (convert 29 9 (.slice ao 4 cb)).run Tryz.prog w3 = .ok (.string ⟨#[83, 66, 67, 49]⟩) w3 := (by rw [row_string (row_take (c := 4) (ownsRow_keep ho2 hc3) (by rw [leastBs_len]; omega) (by rw [leastBs_len]; omega)), leastBs_four]))
    | (go_at_call 18; (with_reducible refine (same_least _).mono ?_); rintro e w4 ⟨rfl, hc4⟩))
  go_ret
  exact ⟨rfl, (hc2.trans hc3).trans hc4⟩

open Go.RowKit
set_option linter.unusedVariables false

set_option maxHeartbeats 8000000 in
theorem clsT_any (c : Cls) (vi vf vm : Value) (w : World) (h : ClsAt w c vi vf vm) :
    Calls Tryz.prog 7 #[.agg #[.string c.n, .string c.s, .bool c.it, .bool c.ab, vi, vf, vm]] w fun e w' => OkR e (clsT c) ∧ Ch w w' := by
  obtain ⟨hi, hf, hm⟩ := h
  obtain ⟨ai, ci, rfl, hi1, hi2⟩ := hi.form
  obtain ⟨af, cf, rfl, hf1, hf2⟩ := hf.form
  obtain ⟨am, cm, rfl, hm1, hm2⟩ := hm.form
  obtain ⟨B0, hB0⟩ : ∃ t, t = 1 + (c.n.size + c.s.size) := ⟨_, rfl⟩
  have HM : Hid (clsT c = B0 + (c.im.map fun s => 1 + s.size).sum + (c.fs.map fun f => 1 + f.n.size + f.d.size).sum + (c.me.map mthT).sum) := by show _ = _; rw [hB0]; rfl
  have hbox : Ch w (w.alloc (.cells (clsC c (.slice ai c.im.length ci) (.slice af c.fs.length cf) (.slice am c.me.length cm)) 26)) := (Ch.refl w).alloc _
  have HB : Hid ((w.alloc (.cells (clsC c (.slice ai c.im.length ci) (.slice af c.fs.length cf) (.slice am c.me.length cm)) 26)).heap[w.heap.size]? = some (.cells (clsC c (.slice ai c.im.length ci) (.slice af c.fs.length cf) (.slice am c.me.length cm)) 26)) := heap_alloc_new _ _
  go_enter Tryz.func7, Tryz.ntmps7
  go_wp2_with (first
    | (go_at_call 21; (with_reducible refine (sum2 _ _ _ _ _ _ _ _ (alloc_at _ _ _ (by simp)) Ok.one (Okk.nat _) (Okk.nat _)).mono ?_); rintro e w3 ⟨⟨m0, rfl, hm0⟩, hx⟩; subst hx))
  rw [← hB0] at hm0
  clear hB0
  have hstart : Ch (w.alloc (.cells (clsC c (.slice ai c.im.length ci) (.slice af c.fs.length cf) (.slice am c.me.length cm)) 26)) ((w.alloc (.cells (clsC c (.slice ai c.im.length ci) (.slice af c.fs.length cf) (.slice am c.me.length cm)) 26)).alloc (.cells #[.int .i64 (c.n.size : Int), .int .i64 (c.s.size : Int)] 3)) := (Ch.refl _).alloc _
  generalize hW : w.alloc (.cells (clsC c (.slice ai c.im.length ci) (.slice af c.fs.length cf) (.slice am c.me.length cm)) 26) = w1 at *
  unfold clsC at hW
  rw [hW]
  generalize w1.alloc (.cells #[.int .i64 (c.n.size : Int), .int .i64 (c.s.size : Int)] 3) = w2 at *
  go_loopw [3, 4] (fun nv i wr => ∃ (k : Nat) (q : Int), k ≤ c.im.length ∧ i = .int .i64 k ∧ nv = .int .i64 q ∧ Ok q (B0 + tsum (fun s => 1 + s.size) c.im k) ∧ Ch w1 wr) (fun _ i _ => c.im.length - (intOf i).toNat)
  case atStart => exact ⟨0, m0, Nat.zero_le _, rfl, rfl, by rw [tsum_zero]; exact hm0, hstart⟩
  case round =>
    obtain ⟨k, q, hk, rfl, rfl, hq, hcr⟩ := hrel
    obtain ⟨e0, e1, e2, e3, e4, e5, e6⟩ := clsC_at (kept_at hcr HB.out)
    by_cases hlt : k < c.im.length
    · obtain ⟨x, hx⟩ : ∃ a, c.im[k]? = some a := ⟨_, List.getElem?_eq_getElem hlt⟩
      obtain ⟨b, off, hao, d0⟩ := (hi.keepS (hbox.trans hcr)).atS hx
      have HX : Hid (c.im[k]? = some x) := hx
      clear hx hW
      subst hao
      go_wp2_with (first
        | (go_at_call 21; (with_reducible refine (sum2 _ _ _ _ _ _ _ _ (alloc_at _ _ _ (by simp)) hq Okk.one (Okk.nat _)).mono ?_); rintro e w4 ⟨⟨m2, rfl, hm2⟩, hx⟩; subst hx))
      go_roundw
      case rel => exact ⟨k + 1, m2, by omega, by go_num, rfl, by rw [tsum_succ _ HX.out, ← Nat.add_assoc]; exact hm2, hcr.alloc _⟩
      case measure => simp [intOf]; omega
    · obtain rfl : k = c.im.length := by omega
      rw [tsum_all] at hq
      clear hlt hk hm0 hW
      generalize B0 + (c.im.map fun s => 1 + s.size).sum = B1 at *
      go_wp2
      go_loopw [3, 5] (fun nv i wr2 => ∃ (k : Nat) (q : Int), k ≤ c.fs.length ∧ i = .int .i64 k ∧ nv = .int .i64 q ∧ Ok q (B1 + tsum (fun f => 1 + f.n.size + f.d.size) c.fs k) ∧ Ch w1 wr2) (fun _ i _ => c.fs.length - (intOf i).toNat)
      case atStart => exact ⟨0, q, Nat.zero_le _, rfl, rfl, by rw [tsum_zero]; exact hq, hcr⟩
      case round =>
        clear e0 e1 e2 e3 e4 e5 e6 hq hcr
        obtain ⟨k, q, hk, rfl, rfl, hq, hcr⟩ := hrel
        obtain ⟨e0, e1, e2, e3, e4, e5, e6⟩ := clsC_at (kept_at hcr HB.out)
        by_cases hlt : k < c.fs.length
        · obtain ⟨x, hx⟩ : ∃ a, c.fs[k]? = some a := ⟨_, List.getElem?_eq_getElem hlt⟩
          obtain ⟨b, off, hao, d0, d1, d2⟩ := (hf.keepF (hbox.trans hcr)).atF hx
          have HX : Hid (c.fs[k]? = some x) := hx
          clear hx
          subst hao
          have HT : Hid (∀ w', Ch wr w' → w'.cell? ⟨w.heap.size, 5, none⟩ = some (.slice (some ⟨b, off, none⟩) c.fs.length cf) ∧ w'.cell? ⟨b, off + k * 3, none⟩ = some (.string x.n) ∧ w'.cell? ⟨b, off + k * 3 + 1, none⟩ = some (.string x.d)) := fun w' hw => ⟨cell_keep hw e5, cell_keep hw d0, cell_keep hw d1⟩
          go_wp2_with fail
          go_region_held (fun w' => w'.cell? ⟨w.heap.size, 5, none⟩ = some (.slice (some ⟨b, off, none⟩) c.fs.length cf) ∧ w'.cell? ⟨b, off + k * 3, none⟩ = some (.string x.n) ∧ w'.cell? ⟨b, off + k * 3 + 1, none⟩ = some (.string x.d))
            ((refine HT.out _ ?_; repeat (first | exact Ch.refl _ | refine Ch.drew ?_ | refine Ch.alloc ?_ _ | refine Ch.trans ?_ (by assumption)))) (first
              | (go_at_call 21; (with_reducible refine (sum3 _ _ _ _ _ _ _ _ _ _ (alloc_at' _ _ _ (by simp)) hq Okk.one (Okk.nat _) (Okk.nat _)).mono ?_); rintro e w4 ⟨⟨m2, rfl, hm2⟩, hx⟩; subst hx))
          all_goals
            go_wp2
            go_roundw
            case rel => exact ⟨k + 1, m2, by omega, by go_num, rfl, by rw [tsum_succ _ HX.out, ← Nat.add_assoc]; exact hm2, (hcr.alloc _).drew⟩
            case measure => simp [intOf]; omega
        · obtain rfl : k = c.fs.length := by omega
          rw [tsum_all] at hq
          clear hlt hk
          generalize B1 + (c.fs.map fun f => 1 + f.n.size + f.d.size).sum = B2 at *
          go_wp2
          go_loopw [3, 6] (fun nv i wr3 => ∃ (k : Nat) (q : Int), k ≤ c.me.length ∧ i = .int .i64 k ∧ nv = .int .i64 q ∧ Ok q (B2 + tsum mthT c.me k) ∧ Ch w1 wr3) (fun _ i _ => c.me.length - (intOf i).toNat)
          case atStart => exact ⟨0, q, Nat.zero_le _, rfl, rfl, by rw [tsum_zero]; exact hq, hcr⟩
          case round =>
            clear e0 e1 e2 e3 e4 e5 e6 hq hcr
            obtain ⟨k, q, hk, rfl, rfl, hq, hcr⟩ := hrel
            obtain ⟨e0, e1, e2, e3, e4, e5, e6⟩ := clsC_at (kept_at hcr HB.out)
            by_cases hlt : k < c.me.length
            · obtain ⟨x, hx⟩ : ∃ a, c.me[k]? = some a := ⟨_, List.getElem?_eq_getElem hlt⟩
              obtain ⟨b, off, vc, vh, hao, hsc, hsh, d0, d1, d2, d3, d4, d5, d6, d7⟩ := (hm.keepM (hbox.trans hcr)).atM hx
              have HX : Hid (c.me[k]? = some x) := hx
              have HSC : Hid (Sl 6 RI _ vc x.code) := hsc
              have HSH : Hid (Sl 4 RH _ vh x.hs) := hsh
              clear hx hsc hsh
              subst hao
              go_wp2_with (first
                | (go_at_call 22; (with_reducible refine (mthT_any x vc vh _ HSC.out HSH.out).mono ?_); rintro e w3 ⟨⟨m1, rfl, hm1⟩, hc3⟩)
                | (go_at_call 21; (with_reducible refine (sum1 _ _ _ _ _ _ (alloc_at _ _ _ (by simp)) hq (Ok.okk hm1)).mono ?_); rintro e w4 ⟨⟨m2, rfl, hm2⟩, hx⟩; subst hx))
              go_roundw
              case rel => exact ⟨k + 1, m2, by omega, by go_num, rfl, by rw [tsum_succ _ HX.out, ← Nat.add_assoc]; exact hm2, (hcr.trans hc3).alloc _⟩
              case measure => simp [intOf]; omega
            · obtain rfl : k = c.me.length := by omega
              rw [tsum_all] at hq
              go_wp2
              go_ret
              exact ⟨⟨q, rfl, by rw [HM.out]; exact hq⟩, hbox.trans hcr⟩

open Go.RowKit
set_option linter.unusedVariables false

theorem Ok.small {m : Int} {t : Nat} (h : Ok m t) (hm : m ≤ 12000) : t ≤ 12000 := by have := h.1.2 hm; omega
/-- The bytes that are told of a class: none of one that may not be. -/
def bsOf (c : Cls) : List Int := if chkE c = 0 then encB c else []
theorem row_keep {w w' : World} {v : Value} {bs : List Int} (h : Row w v bs) (c : Ch w w') : Row w' v bs := by
  rcases h with h | ⟨a, cap, hv, hc⟩
  · exact Or.inl h
  · refine Or.inr ⟨a, cap, hv, fun j u hj => ?_⟩
    have h1 := hc j u hj
    rw [World.cell?_of_block (w := w) (c.block _ (World.block_lt_of_cell? _ _ h1))]
    exact h1
theorem enc_both (c : Cls) (vi vf vm : Value) (w : World) (h : ClsAt w c vi vf vm) (hT : clsT c ≤ 12000) :
    Calls Tryz.prog 9 #[.agg #[.string c.n, .string c.s, .bool c.it, .bool c.ab, vi, vf, vm]] w fun e w' => ∃ v, e = .returned (.tuple #[v, .int .i64 (chkE c)]) ∧ Row w' v (bsOf c) ∧ Ch w w' := by
  unfold bsOf
  by_cases h0 : chkE c = 0
  · rw [if_pos h0, h0]
    exact (encode_ok c vi vf vm w h hT h0).mono fun e w' ⟨v, h1, h2, h3⟩ => ⟨v, h1, row_of_owns h2, h3⟩
  · rw [if_neg h0]
    exact (encode_no c vi vf vm w h (fine_of c hT) _ rfl h0).mono fun e w' ⟨h1, h3⟩ => ⟨_, h1, Or.inl ⟨rfl, rfl⟩, h3⟩
theorem ref_both (c : Cls) (vi vf vm : Value) (w : World) (h : ClsAt w c vi vf vm) (hT : clsT c ≤ 12000) :
    Calls Tryz.prog 10 #[.agg #[.string c.n, .string c.s, .bool c.it, .bool c.ab, vi, vf, vm]] w fun e w' => ∃ v, e = .returned (.tuple #[v, .int .i64 (chkE c)]) ∧ Row w' v (bsOf c) ∧ Ch w w' := by
  unfold bsOf
  by_cases h0 : chkE c = 0
  · rw [if_pos h0, h0]
    exact (refEncode_ok c vi vf vm w h hT h0).mono fun e w' ⟨v, h1, h2, h3⟩ => ⟨v, h1, row_of_owns h2, h3⟩
  · rw [if_neg h0]
    exact (refEncode_no c vi vf vm w h (fine_of c hT) _ rfl h0).mono fun e w' ⟨h1, h3⟩ => ⟨_, h1, Or.inl ⟨rfl, rfl⟩, h3⟩

set_option maxRecDepth 100000 in
set_option maxHeartbeats 16000000 in
theorem classWrites_main (c : Cls) (vi vf vm : Value) (w : World) (h : ClsAt w c vi vf vm) :
    Calls Tryz.prog 3 #[.agg #[.string c.n, .string c.s, .bool c.it, .bool c.ab, vi, vf, vm]] w fun e w' => e = .returned (.bool true) ∧ Ch w w' := by
  have hcW : Ch w (w.alloc (.cells (clsC c vi vf vm) 26)) := (Ch.refl w).alloc _
  have HB : Hid (∀ w', Ch (w.alloc (.cells (clsC c vi vf vm) 26)) w' → _) := fun w' k => clsC_at (kept_at k (heap_alloc_new w (.cells (clsC c vi vf vm) 26)))
  have hta : ∀ w0, Ch (w.alloc (.cells (clsC c vi vf vm) 26)) w0 → _ := fun w0 k => clsT_any c vi vf vm w0 (h.keep (hcW.trans k))
  have hen : ∀ w0, Ch (w.alloc (.cells (clsC c vi vf vm) 26)) w0 → clsT c ≤ 12000 → _ := fun w0 k hT => enc_both c vi vf vm w0 (h.keep (hcW.trans k)) hT
  have hre : ∀ w0, Ch (w.alloc (.cells (clsC c vi vf vm) 26)) w0 → clsT c ≤ 12000 → _ := fun w0 k hT => ref_both c vi vf vm w0 (h.keep (hcW.trans k)) hT
  have hck : ∀ w0, Ch (w.alloc (.cells (clsC c vi vf vm) 26)) w0 → clsT c ≤ 12000 → _ := fun w0 k hT => check_cls c vi vf vm w0 (h.keep (hcW.trans k)) (fine_of c hT)
  have hrk : ∀ w0, Ch (w.alloc (.cells (clsC c vi vf vm) 26)) w0 → clsT c ≤ 12000 → _ := fun w0 k hT => refCls_any c vi vf vm w0 (h.keep (hcW.trans k)) (fine_of c hT)
  have hpl : ∀ w0, Ch (w.alloc (.cells (clsC c vi vf vm) 26)) w0 → clsT c ≤ 12000 → _ := fun w0 k hT => pool_any c vi vf vm w0 (h.keep (hcW.trans k)) (fine_of c hT)
  have hrp : ∀ w0, Ch (w.alloc (.cells (clsC c vi vf vm) 26)) w0 → clsT c ≤ 12000 → _ := fun w0 k hT => refPool_any c vi vf vm w0 (h.keep (hcW.trans k)) (fine_of c hT)
  obtain ⟨a1, c1, rfl, _, _⟩ := h.1.form
  obtain ⟨a2, c2, rfl, hf1, hf2⟩ := h.2.1.form
  obtain ⟨a3, c3, rfl, hm1, hm2⟩ := h.2.2.form
  clear h
  generalize c.im.length = l1 at *
  generalize c.fs.length = l2 at *
  generalize c.me.length = l3 at *
  generalize chkE c = x at *
  generalize bsOf c = bs at *
  generalize poolL c = L at *
  unfold clsC at *
  go_enter Tryz.func3, Tryz.ntmps3
  go_wp2_with (first
    | (go_at_call 7; (with_reducible refine (hta _ (Ch.refl _)).mono ?_); rintro e w3 ⟨⟨m1, rfl, p1⟩, hc3⟩; obtain ⟨z0, z1, z2, z3, z4, z5, z6⟩ := HB.out _ hc3)
    | (go_at_call 8; (with_reducible refine (awake_any _).mono ?_); rintro e w9 ⟨rfl, hc9⟩)
    | (go_at_call 9; (with_reducible refine (hen _ hc3 (p1.small (by omega))).mono ?_); rintro e w4 ⟨v4, rfl, hr4, hc4⟩; obtain ⟨z0, z1, z2, z3, z4, z5, z6⟩ := HB.out _ (hc3.trans hc4))
    | (go_at_call 10; (with_reducible refine (hre _ (hc3.trans hc4) (p1.small (by omega))).mono ?_); rintro e w5 ⟨v5, rfl, hr5, hc5⟩))
  · go_ret
    exact ⟨rfl, hcW.trans (hc3.trans hc9)⟩
  · have hT : clsT c ≤ 12000 := p1.small (by omega)
    have hC5 := hc3.trans (hc4.trans hc5)
    have hCW := hcW.trans hC5
    have HS : Hid (∀ w', Ch w5 w' → w'.cell? ⟨w.heap.size, 0, none⟩ = some (.string c.n) ∧ w'.cell? ⟨w.heap.size, 1, none⟩ = some (.string c.s) ∧ w'.cell? ⟨w.heap.size, 2, none⟩ = some (.bool c.it) ∧ w'.cell? ⟨w.heap.size, 3, none⟩ = some (.bool c.ab) ∧ w'.cell? ⟨w.heap.size, 4, none⟩ = some (.slice a1 l1 c1) ∧ w'.cell? ⟨w.heap.size, 5, none⟩ = some (.slice a2 l2 c2) ∧ w'.cell? ⟨w.heap.size, 6, none⟩ = some (.slice a3 l3 c3) ∧
        (convert 29 9 v4).run Tryz.prog w' = .ok (.string (strOfNums bs)) w' ∧ (convert 29 9 v5).run Tryz.prog w' = .ok (.string (strOfNums bs)) w') := fun w' k => by
      obtain ⟨y0, y1, y2, y3, y4, y5, y6⟩ := HB.out w' (hC5.trans k)
      exact ⟨y0, y1, y2, y3, y4, y5, y6, row_string (row_keep hr4 (hc5.trans k)), row_string (row_keep hr5 k)⟩
    have hck' : ∀ w0, Ch w5 w0 → _ := fun w0 k => hck w0 (hC5.trans k) hT
    have hrk' : ∀ w0, Ch w5 w0 → _ := fun w0 k => hrk w0 (hC5.trans k) hT
    have hpl' : ∀ w0, Ch w5 w0 → _ := fun w0 k => hpl w0 (hC5.trans k) hT
    have hrp' : ∀ w0, Ch w5 w0 → _ := fun w0 k => hrp w0 (hC5.trans k) hT
    have hdd := HS.out w5.drew (Ch.refl w5).drew
    clear hta hen hre hck hrk hpl hrp HB z0 z1 z2 z3 z4 z5 z6 hr4 hr5 hc4 hc5 hT p1 hC5 hcW
    clear hc3
    generalize strOfNums bs = T at *
    go_region_held3 (fun w' => w'.cell? ⟨w.heap.size, 0, none⟩ = some (.string c.n) ∧ w'.cell? ⟨w.heap.size, 1, none⟩ = some (.string c.s) ∧ w'.cell? ⟨w.heap.size, 2, none⟩ = some (.bool c.it) ∧ w'.cell? ⟨w.heap.size, 3, none⟩ = some (.bool c.ab) ∧ w'.cell? ⟨w.heap.size, 4, none⟩ = some (.slice a1 l1 c1) ∧ w'.cell? ⟨w.heap.size, 5, none⟩ = some (.slice a2 l2 c2) ∧ w'.cell? ⟨w.heap.size, 6, none⟩ = some (.slice a3 l3 c3) ∧
        (convert 29 9 v4).run Tryz.prog w' = .ok (.string T) w' ∧ (convert 29 9 v5).run Tryz.prog w' = .ok (.string T) w') (first | assumption | (refine HS.out _ ?_; repeat (first | exact Ch.refl _ | refine Ch.drew ?_ | refine Ch.alloc ?_ _ | refine Ch.trans ?_ (by assumption)))) (first
      | (go_at_call 11; (with_reducible refine (hck' _ (Ch.refl w5).drew).mono ?_); rintro e w6 ⟨rfl, hc6⟩; have hC6 := (Ch.refl w5).drew.trans hc6; have hS6 := HS.out w6 hC6)
      | (go_at_call 12; (with_reducible refine (hrk' _ hC6).mono ?_); rintro e w7 ⟨rfl, hc7⟩; have hC7 := hC6.trans hc7; have hS7 := HS.out w7 hC7)
      | (go_at_call 14; (with_reducible refine (hpl' _ hC7).mono ?_); rintro e w8 ⟨v8, rfl, ho8, hc8⟩; have hC8 := hC7.trans hc8; have hS8 := HS.out w8 hC8)
      | (go_at_call 15; (with_reducible refine (hrp' _ hC8).mono ?_); rintro e w10 ⟨v10, rfl, ho10, hc10⟩; have hC10 := hC8.trans hc10; have hS10 := HS.out w10 hC10; have htx := alikeTexts_any (L.map ms) (L.map ms) v8 v10 w10 ((sl_own ho8).keepS hc10) (sl_own ho10); have heq : eqL eqT (L.map ms) (L.map ms) = true := eqL_refl eqT (fun x => by simp [eqT]) _; rw [heq] at htx)
      | (go_at_call 13; (with_reducible refine htx.mono ?_); rintro e w11 ⟨rfl, hc11⟩; have hC11 := hC10.trans hc11; have hS11 := HS.out w11 hC11)
      | (go_at_call 8; (with_reducible refine (awake_any _).mono ?_); rintro e w12 ⟨rfl, hc12⟩; have hC12 := hC11.trans hc12; have hS12 := HS.out w12 hC12))
    go_wp2
    go_ret
    exact ⟨rfl, hCW.trans hC12⟩

open Go.ChangeShapes Go.WideShapes Go.ChangeAt Go.RowKit
set_option linter.unusedVariables false

set_option maxRecDepth 100000 in
theorem classWrites_lifted (os : Os) (started : os.Started) (H : Type) (enc : TypeId × Value → H) :
    ReturnsInHanded {} Tryz.checked os 3 .any (Rows.classWritesSpec.pre6 enc Tryz.prog Tryz.f3 Rows.classWritesRow.domain false) (Rows.classWritesSpec.post enc Tryz.prog Tryz.f3 false true false false) := by
  refine returnsInHanded_of_change (C := Tryz.checked) cls_own started (by kernel_rfl) Tryz.func3
    (ChangeSpec.witness6 (enc := enc) (C := Tryz.checked) false ⟨#[], #[.agg #[.string ByteArray.empty, .string ByteArray.empty, .bool false, .bool false, .slice none 0 0, .slice none 0 0, .slice none 0 0]], []⟩ 8 (by kernel_rfl) (by kernel_rfl) (by kernel_rfl) (by kernel_rfl)) ?_
  intro W base args ds gs before hval0 hW hcnd _
  have hval : ∀ (j : Nat) t v, Tryz.f3.params[j]? = some t → args[j]? = some v → Value.okWide Tryz.prog W .any base t v := hval0
  have hW' := hW
  obtain ⟨p, q, hA0, hV, rfl, hfz, hnd⟩ := hW
  have hA : DataW.TrodAll enc Tryz.prog W 0 (fun _ => true) true Tryz.f3.params.toList args.toList ds p := hA0
  rw [Tryz.params3] at hA hval
  obtain ⟨v0, vs0, d0, ds0, p0, q0, hargs, rfl, rfl, h0, r0⟩ := trodAll_cons hA
  obtain ⟨rfl, rfl, rfl⟩ := trodAll_nil r0
  obtain rfl : args = #[v0] := by cases args; simp_all
  obtain ⟨rfl, rfl⟩ := trodVars_none hV
  have k0 := h0
  have lt0 : ∀ x ∈ p0, x.block < W.heap.size := by obtain ⟨m, hm⟩ := k0; exact DataW.trod_lt m _ _ _ hm
  obtain ⟨x, vi, vf, vm, rfl, hx⟩ := open_cls (hval 0 26 v0 rfl rfl) h0
  clear hA0 hval0
  refine (classWrites_main x vi vf vm W hx).mono fun e W' ⟨he, hch⟩ => ?_
  have bel := hch.below
  subst he
  exact ⟨_, rfl, _, _, _, [], _, [], hW', trodAll_mk1 (shut_bool Tryz.underlying4 _), (trodAll_cons_mk (Below.trod cls_laidOut (by kernel_rfl) (of_decide_eq_true (by kernel_rfl)) k0 bel lt0) trodAll_mk0), rfl, bel.frame _, fun h => by cases h⟩

theorem classWrites_proved : Rows.ClassWritesSaid :=
  OpenClaim.holds_of_wide 3 Tryz.f3 rfl rfl rfl rfl rfl rfl rfl ⟨rfl, rfl, rfl, rfl, rfl⟩ rfl rfl rfl rfl rfl (by kernel_rfl) Tryz.func3 (by kernel_rfl)
    (of_decide_eq_true (by kernel_rfl)) (by unfold Func.isWrapper; first | (rw [if_pos (by decide +kernel)]; kernel_rfl) | (rw [if_neg (by decide +kernel)]; exact ⟨rfl, rfl⟩))
    (fun os started H enc _ => classWrites_lifted os started H enc)
#print axioms classWrites_proved
end Go.Proofs.YtdalibfgkkgcpaaGreat
