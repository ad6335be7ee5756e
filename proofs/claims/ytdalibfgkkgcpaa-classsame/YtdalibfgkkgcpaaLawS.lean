/- The walk of the law ClassSame. -/
import Derived.Test.YtdalibfgkkgcpaaEqR
import Derived.Test.YtdalibfgkkgcpaaAwC
import Derived.Test.YtdalibfgkkgcpaaBulkC
namespace Go.Proofs.Ytdalibfgkkgcpaa
open Go.RowKit
set_option linter.unusedVariables false

theorem eqF_refl (x : Fld) : eqF x x = true := by simp [eqF]
theorem eqH_refl (x : Hnd) : eqH x x = true := by simp [eqH]
theorem eqO_refl (x : Ins) : eqO x x = true := eqI_refl _
theorem eqM_refl (m : Mth) : eqM m m = true := by simp [eqM, eqL_refl eqO eqO_refl, eqL_refl eqH eqH_refl]
theorem eqC_refl (a : Cls) : eqC a a = true := by simp [eqC, eqL_refl eqF eqF_refl, eqL_refl eqM eqM_refl, eqL_refl eqT (fun x => by simp [eqT])]

set_option maxRecDepth 100000 in
set_option maxHeartbeats 16000000 in
theorem classSame_main (a b : Cls) (vi vf vm ui uf um : Value) (w : World) (ha : ClsAt w a vi vf vm) (hb : ClsAt w b ui uf um) :
    Calls Try.prog 3 #[.agg #[.string a.n, .string a.s, .bool a.it, .bool a.ab, vi, vf, vm], .agg #[.string b.n, .string b.s, .bool b.it, .bool b.ab, ui, uf, um]] w fun e w' => e = .returned (.bool true) ∧ Ch w w' := by
  have hcW : Ch w ((w.alloc (.cells (clsC a vi vf vm) 26)).alloc (.cells (clsC b ui uf um) 26)) := ((Ch.refl w).alloc _).alloc _
  have HB1 : Hid (∀ w', Ch ((w.alloc (.cells (clsC a vi vf vm) 26)).alloc (.cells (clsC b ui uf um) 26)) w' → _) := fun w' k => clsC_at (kept_at k (heap_alloc2_old w (.cells (clsC a vi vf vm) 26) _))
  have HB2 : Hid (∀ w', Ch ((w.alloc (.cells (clsC a vi vf vm) 26)).alloc (.cells (clsC b ui uf um) 26)) w' → _) := fun w' k => clsC_at (kept_at k (heap_alloc2_new w _ (.cells (clsC b ui uf um) 26)))
  have hta : ∀ w0, Ch ((w.alloc (.cells (clsC a vi vf vm) 26)).alloc (.cells (clsC b ui uf um) 26)) w0 → _ := fun w0 k => clsT_any a vi vf vm w0 (ha.keep (hcW.trans k))
  have htb : ∀ w0, Ch ((w.alloc (.cells (clsC a vi vf vm) 26)).alloc (.cells (clsC b ui uf um) 26)) w0 → _ := fun w0 k => clsT_any b ui uf um w0 (hb.keep (hcW.trans k))
  have hsm : ∀ w0, Ch ((w.alloc (.cells (clsC a vi vf vm) 26)).alloc (.cells (clsC b ui uf um) 26)) w0 → _ := fun w0 k => sameC_any a b vi vf vm ui uf um w0 (ha.keep (hcW.trans k)) (hb.keep (hcW.trans k))
  have hsr : ∀ w0, Ch ((w.alloc (.cells (clsC a vi vf vm) 26)).alloc (.cells (clsC b ui uf um) 26)) w0 → _ := fun w0 k => refSame_any a b vi vf vm ui uf um w0 (ha.keep (hcW.trans k)) (hb.keep (hcW.trans k))
  have hss : ∀ w0, Ch ((w.alloc (.cells (clsC a vi vf vm) 26)).alloc (.cells (clsC b ui uf um) 26)) w0 → _ := fun w0 k => sameC_any a a vi vf vm vi vf vm w0 (ha.keep (hcW.trans k)) (ha.keep (hcW.trans k))
  rw [eqC_refl] at hss
  generalize eqC a b = q at *
  obtain ⟨a1, c1, rfl, _, _⟩ := ha.1.form
  obtain ⟨a2, c2, rfl, _, _⟩ := ha.2.1.form
  obtain ⟨a3, c3, rfl, _, _⟩ := ha.2.2.form
  obtain ⟨a4, c4, rfl, _, _⟩ := hb.1.form
  obtain ⟨a5, c5, rfl, _, _⟩ := hb.2.1.form
  obtain ⟨a6, c6, rfl, _, _⟩ := hb.2.2.form
  clear ha hb
  generalize a.im.length = l1 at *
  generalize a.fs.length = l2 at *
  generalize a.me.length = l3 at *
  generalize b.im.length = l4 at *
  generalize b.fs.length = l5 at *
  generalize b.me.length = l6 at *
  unfold clsC at *
  go_enter Try.func3, Try.ntmps3
  go_wp2_with fail
  generalize (w.alloc (.cells #[.string a.n, .string a.s, .bool a.it, .bool a.ab, .slice a1 l1 c1, .slice a2 l2 c2, .slice a3 l3 c3] 26)).alloc (.cells #[.string b.n, .string b.s, .bool b.it, .bool b.ab, .slice a4 l4 c4, .slice a5 l5 c5, .slice a6 l6 c6] 26) = w1 at *
  have HT : Hid (∀ w', Ch w1 w' → w'.cell? ⟨w.heap.size, 0, none⟩ = some (.string a.n) ∧ w'.cell? ⟨w.heap.size, 1, none⟩ = some (.string a.s) ∧ w'.cell? ⟨w.heap.size, 2, none⟩ = some (.bool a.it) ∧ w'.cell? ⟨w.heap.size, 3, none⟩ = some (.bool a.ab) ∧ w'.cell? ⟨w.heap.size, 4, none⟩ = some (.slice a1 l1 c1) ∧ w'.cell? ⟨w.heap.size, 5, none⟩ = some (.slice a2 l2 c2) ∧ w'.cell? ⟨w.heap.size, 6, none⟩ = some (.slice a3 l3 c3) ∧ w'.cell? ⟨w.heap.size + 1, 0, none⟩ = some (.string b.n) ∧ w'.cell? ⟨w.heap.size + 1, 1, none⟩ = some (.string b.s) ∧ w'.cell? ⟨w.heap.size + 1, 2, none⟩ = some (.bool b.it) ∧ w'.cell? ⟨w.heap.size + 1, 3, none⟩ = some (.bool b.ab) ∧ w'.cell? ⟨w.heap.size + 1, 4, none⟩ = some (.slice a4 l4 c4) ∧ w'.cell? ⟨w.heap.size + 1, 5, none⟩ = some (.slice a5 l5 c5) ∧ w'.cell? ⟨w.heap.size + 1, 6, none⟩ = some (.slice a6 l6 c6)) := fun w' k => by
    obtain ⟨x0, x1, x2, x3, x4, x5, x6⟩ := HB1.out w' k
    obtain ⟨y0, y1, y2, y3, y4, y5, y6⟩ := HB2.out w' k
    exact ⟨x0, x1, x2, x3, x4, x5, x6, y0, y1, y2, y3, y4, y5, y6⟩
  clear HB1 HB2
  go_region_held (fun w' => w'.cell? ⟨w.heap.size, 0, none⟩ = some (.string a.n) ∧ w'.cell? ⟨w.heap.size, 1, none⟩ = some (.string a.s) ∧ w'.cell? ⟨w.heap.size, 2, none⟩ = some (.bool a.it) ∧ w'.cell? ⟨w.heap.size, 3, none⟩ = some (.bool a.ab) ∧ w'.cell? ⟨w.heap.size, 4, none⟩ = some (.slice a1 l1 c1) ∧ w'.cell? ⟨w.heap.size, 5, none⟩ = some (.slice a2 l2 c2) ∧ w'.cell? ⟨w.heap.size, 6, none⟩ = some (.slice a3 l3 c3) ∧ w'.cell? ⟨w.heap.size + 1, 0, none⟩ = some (.string b.n) ∧ w'.cell? ⟨w.heap.size + 1, 1, none⟩ = some (.string b.s) ∧ w'.cell? ⟨w.heap.size + 1, 2, none⟩ = some (.bool b.it) ∧ w'.cell? ⟨w.heap.size + 1, 3, none⟩ = some (.bool b.ab) ∧ w'.cell? ⟨w.heap.size + 1, 4, none⟩ = some (.slice a4 l4 c4) ∧ w'.cell? ⟨w.heap.size + 1, 5, none⟩ = some (.slice a5 l5 c5) ∧ w'.cell? ⟨w.heap.size + 1, 6, none⟩ = some (.slice a6 l6 c6)) ((refine HT.out _ ?_; repeat (first | exact Ch.refl _ | refine Ch.drew ?_ | refine Ch.alloc ?_ _ | refine Ch.trans ?_ (by assumption)))) (first
      | (go_at_call 6; (with_reducible refine (hta _ (by repeat (first | exact Ch.refl _ | refine Ch.drew ?_ | refine Ch.alloc ?_ _ | refine Ch.trans ?_ (by assumption)))).mono ?_); rintro e w3 ⟨⟨m1, rfl, p1⟩, hc3⟩)
      | (go_at_call 6; (with_reducible refine (htb _ (by repeat (first | exact Ch.refl _ | refine Ch.drew ?_ | refine Ch.alloc ?_ _ | refine Ch.trans ?_ (by assumption)))).mono ?_); rintro e w4 ⟨⟨m2, rfl, p2⟩, hc4⟩)
      | (go_at_call 5; (with_reducible refine (sum1 _ _ _ _ _ _ (by first | exact alloc_at _ _ _ (by simp) | exact alloc_at' _ _ _ (by simp)) p1 (Ok.okk p2)).mono ?_); rintro e w5 ⟨⟨m3, rfl, p3⟩, hx⟩; subst hx))
  by_cases hm : 12000 < m3
  · go_wp2_with (first
      | (go_at_call 7; (with_reducible refine (awake_any _).mono ?_); rintro e w9 ⟨rfl, hc9⟩))
    go_ret
    refine ⟨rfl, hcW.trans ?_⟩
    repeat (first | exact Ch.refl _ | refine Ch.drew ?_ | refine Ch.alloc ?_ _ | refine Ch.trans ?_ (by assumption))
  · have hC5 : Ch w1 (w4.alloc (.cells #[.int .i64 m2] 3)) := (by repeat (first | exact Ch.refl _ | refine Ch.drew ?_ | refine Ch.alloc ?_ _ | refine Ch.trans ?_ (by assumption)))
    have HT5 : Hid (∀ w', Ch (w4.alloc (.cells #[.int .i64 m2] 3)) w' → w'.cell? ⟨w.heap.size, 0, none⟩ = some (.string a.n) ∧ w'.cell? ⟨w.heap.size, 1, none⟩ = some (.string a.s) ∧ w'.cell? ⟨w.heap.size, 2, none⟩ = some (.bool a.it) ∧ w'.cell? ⟨w.heap.size, 3, none⟩ = some (.bool a.ab) ∧ w'.cell? ⟨w.heap.size, 4, none⟩ = some (.slice a1 l1 c1) ∧ w'.cell? ⟨w.heap.size, 5, none⟩ = some (.slice a2 l2 c2) ∧ w'.cell? ⟨w.heap.size, 6, none⟩ = some (.slice a3 l3 c3) ∧ w'.cell? ⟨w.heap.size + 1, 0, none⟩ = some (.string b.n) ∧ w'.cell? ⟨w.heap.size + 1, 1, none⟩ = some (.string b.s) ∧ w'.cell? ⟨w.heap.size + 1, 2, none⟩ = some (.bool b.it) ∧ w'.cell? ⟨w.heap.size + 1, 3, none⟩ = some (.bool b.ab) ∧ w'.cell? ⟨w.heap.size + 1, 4, none⟩ = some (.slice a4 l4 c4) ∧ w'.cell? ⟨w.heap.size + 1, 5, none⟩ = some (.slice a5 l5 c5) ∧ w'.cell? ⟨w.heap.size + 1, 6, none⟩ = some (.slice a6 l6 c6)) := fun w' k => HT.out w' (hC5.trans k)
    have hsm' : ∀ w0, Ch (w4.alloc (.cells #[.int .i64 m2] 3)) w0 → _ := fun w0 k => hsm w0 (hC5.trans k)
    have hsr' : ∀ w0, Ch (w4.alloc (.cells #[.int .i64 m2] 3)) w0 → _ := fun w0 k => hsr w0 (hC5.trans k)
    have hss' : ∀ w0, Ch (w4.alloc (.cells #[.int .i64 m2] 3)) w0 → _ := fun w0 k => hss w0 (hC5.trans k)
    have hm' : m3 ≤ 12000 := by omega
    have hCW5 := hcW.trans hC5
    clear hm hta htb hsm hsr hss hc3 hc4 HT hC5 p1 p2 p3 hcW
    generalize w4.alloc (.cells #[.int .i64 m2] 3) = w5 at *
    go_wp2_with fail
    go_region_held (fun w' => w'.cell? ⟨w.heap.size, 0, none⟩ = some (.string a.n) ∧ w'.cell? ⟨w.heap.size, 1, none⟩ = some (.string a.s) ∧ w'.cell? ⟨w.heap.size, 2, none⟩ = some (.bool a.it) ∧ w'.cell? ⟨w.heap.size, 3, none⟩ = some (.bool a.ab) ∧ w'.cell? ⟨w.heap.size, 4, none⟩ = some (.slice a1 l1 c1) ∧ w'.cell? ⟨w.heap.size, 5, none⟩ = some (.slice a2 l2 c2) ∧ w'.cell? ⟨w.heap.size, 6, none⟩ = some (.slice a3 l3 c3) ∧ w'.cell? ⟨w.heap.size + 1, 0, none⟩ = some (.string b.n) ∧ w'.cell? ⟨w.heap.size + 1, 1, none⟩ = some (.string b.s) ∧ w'.cell? ⟨w.heap.size + 1, 2, none⟩ = some (.bool b.it) ∧ w'.cell? ⟨w.heap.size + 1, 3, none⟩ = some (.bool b.ab) ∧ w'.cell? ⟨w.heap.size + 1, 4, none⟩ = some (.slice a4 l4 c4) ∧ w'.cell? ⟨w.heap.size + 1, 5, none⟩ = some (.slice a5 l5 c5) ∧ w'.cell? ⟨w.heap.size + 1, 6, none⟩ = some (.slice a6 l6 c6)) ((refine HT5.out _ ?_; repeat (first | exact Ch.refl _ | refine Ch.drew ?_ | refine Ch.alloc ?_ _ | refine Ch.trans ?_ (by assumption)))) (first
        | (go_at_call 8; (with_reducible refine (hsm' _ (by repeat (first | exact Ch.refl _ | refine Ch.drew ?_ | refine Ch.alloc ?_ _ | refine Ch.trans ?_ (by assumption)))).mono ?_); rintro e w6 ⟨rfl, hc6⟩)
        | (go_at_call 9; (with_reducible refine (hsr' _ (by repeat (first | exact Ch.refl _ | refine Ch.drew ?_ | refine Ch.alloc ?_ _ | refine Ch.trans ?_ (by assumption)))).mono ?_); rintro e w7 ⟨rfl, hc7⟩)
        | (go_at_call 8; (with_reducible refine (hss' _ (by repeat (first | exact Ch.refl _ | refine Ch.drew ?_ | refine Ch.alloc ?_ _ | refine Ch.trans ?_ (by assumption)))).mono ?_); rintro e w8 ⟨rfl, hc8⟩)
        | (go_at_call 7; (with_reducible refine (awake_any _).mono ?_); rintro e w9 ⟨rfl, hc9⟩))
    all_goals
      go_wp2
      go_ret
      refine ⟨rfl, hCW5.trans ?_⟩
      repeat (first | exact Ch.refl _ | refine Ch.drew ?_ | refine Ch.alloc ?_ _ | refine Ch.trans ?_ (by assumption))
end Go.Proofs.Ytdalibfgkkgcpaa
