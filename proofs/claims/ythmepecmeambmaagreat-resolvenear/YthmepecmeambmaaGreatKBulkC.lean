/- How much there is of a class: its walk. -/
import Derived.Test.YthmepecmeambmaaGreatKBulk
namespace Go.Proofs.YthmepecmeambmaaGreat
open Go.RowKit
set_option linter.unusedVariables false

set_option maxHeartbeats 8000000 in
theorem clsT_any (c : Cls) (vi vf vm : Value) (w : World) (h : ClsAt w c vi vf vm) :
    Calls Tryz.prog 77 #[.agg #[.string c.n, .string c.s, .bool c.it, .bool c.ab, vi, vf, vm]] w fun e w' => OkR e (clsT c) ∧ Ch w w' := by
  obtain ⟨hi, hf, hm⟩ := h
  obtain ⟨ai, ci, rfl, hi1, hi2⟩ := hi.form
  obtain ⟨af, cf, rfl, hf1, hf2⟩ := hf.form
  obtain ⟨am, cm, rfl, hm1, hm2⟩ := hm.form
  obtain ⟨B0, hB0⟩ : ∃ t, t = 1 + (c.n.size + c.s.size) := ⟨_, rfl⟩
  have HM : Hid (clsT c = B0 + (c.im.map fun s => 1 + s.size).sum + (c.fs.map fun f => 1 + f.n.size + f.d.size).sum + (c.me.map mthT).sum) := by show _ = _; rw [hB0]; rfl
  have hbox : Ch w (w.alloc (.cells (clsC c (.slice ai c.im.length ci) (.slice af c.fs.length cf) (.slice am c.me.length cm)) 41)) := (Ch.refl w).alloc _
  have HB : Hid ((w.alloc (.cells (clsC c (.slice ai c.im.length ci) (.slice af c.fs.length cf) (.slice am c.me.length cm)) 41)).heap[w.heap.size]? = some (.cells (clsC c (.slice ai c.im.length ci) (.slice af c.fs.length cf) (.slice am c.me.length cm)) 41)) := heap_alloc_new _ _
  go_enter Tryz.func77, Tryz.ntmps77
  go_wp2_with (first
    | (go_at_call 58; (with_reducible refine (sum2 _ _ _ _ _ _ _ _ (alloc_at _ _ _ (by simp)) Ok.one (Okk.nat _) (Okk.nat _)).mono ?_); rintro e w3 ⟨⟨m0, rfl, hm0⟩, hx⟩; subst hx))
  rw [← hB0] at hm0
  clear hB0
  have hstart : Ch (w.alloc (.cells (clsC c (.slice ai c.im.length ci) (.slice af c.fs.length cf) (.slice am c.me.length cm)) 41)) ((w.alloc (.cells (clsC c (.slice ai c.im.length ci) (.slice af c.fs.length cf) (.slice am c.me.length cm)) 41)).alloc (.cells #[.int .i64 (c.n.size : Int), .int .i64 (c.s.size : Int)] 3)) := (Ch.refl _).alloc _
  generalize hW : w.alloc (.cells (clsC c (.slice ai c.im.length ci) (.slice af c.fs.length cf) (.slice am c.me.length cm)) 41) = w1 at *
  unfold clsC at hW
  rw [hW]
  generalize w1.alloc (.cells #[.int .i64 (c.n.size : Int), .int .i64 (c.s.size : Int)] 3) = w2 at *
  go_loopw [3, 4] (fun nv i wr => ∃ (k : Nat) (q : Int), k ≤ c.im.length ∧ i = .int .i64 k ∧ nv = .int .i64 q ∧ Ok q (B0 + tsum (fun s => 1 + s.size) c.im k) ∧ Ch w1 wr) (fun _ i _ => c.im.length - (intOf i).toNat)
  case atStart => exact ⟨0, m0, Nat.zero_le _, rfl, rfl, by rw [tsum_zero]; exact hm0, hstart⟩
  case round =>
    obtain ⟨k, q, hk, rfl, rfl, hq, hcr⟩ := hrel
    obtain ⟨e0, e1, e2, e3, e4, e5, e6⟩ := clsC_at (kept_at hcr HB.out)
    by_cases hlt : k < c.im.length
    · obtain ⟨x, hx⟩ : ∃ a, c.im[k]? = some a := ⟨_, List.getElem?_eq_getElem hlt⟩
      obtain ⟨b, off, hao, d0⟩ := (hi.keepS (hbox.trans hcr)).atS hx
      have HX : Hid (c.im[k]? = some x) := hx
      clear hx hW
      subst hao
      go_wp2_with (first
        | (go_at_call 58; (with_reducible refine (sum2 _ _ _ _ _ _ _ _ (alloc_at _ _ _ (by simp)) hq Okk.one (Okk.nat _)).mono ?_); rintro e w4 ⟨⟨m2, rfl, hm2⟩, hx⟩; subst hx))
      go_roundw
      case rel => exact ⟨k + 1, m2, by omega, by go_num, rfl, by rw [tsum_succ _ HX.out, ← Nat.add_assoc]; exact hm2, hcr.alloc _⟩
      case measure => simp [intOf]; omega
    · obtain rfl : k = c.im.length := by omega
      rw [tsum_all] at hq
      clear hlt hk hm0 hW
      generalize B0 + (c.im.map fun s => 1 + s.size).sum = B1 at *
      go_wp2
      go_loopw [3, 5] (fun nv i wr2 => ∃ (k : Nat) (q : Int), k ≤ c.fs.length ∧ i = .int .i64 k ∧ nv = .int .i64 q ∧ Ok q (B1 + tsum (fun f => 1 + f.n.size + f.d.size) c.fs k) ∧ Ch w1 wr2) (fun _ i _ => c.fs.length - (intOf i).toNat)
      case atStart => exact ⟨0, q, Nat.zero_le _, rfl, rfl, by rw [tsum_zero]; exact hq, hcr⟩
      case round =>
        clear e0 e1 e2 e3 e4 e5 e6 hq hcr
        obtain ⟨k, q, hk, rfl, rfl, hq, hcr⟩ := hrel
        obtain ⟨e0, e1, e2, e3, e4, e5, e6⟩ := clsC_at (kept_at hcr HB.out)
        by_cases hlt : k < c.fs.length
        · obtain ⟨x, hx⟩ : ∃ a, c.fs[k]? = some a := ⟨_, List.getElem?_eq_getElem hlt⟩
          obtain ⟨b, off, hao, d0, d1, d2⟩ := (hf.keepF (hbox.trans hcr)).atF hx
          have HX : Hid (c.fs[k]? = some x) := hx
          clear hx
          subst hao
          have HT : Hid (∀ w', Ch wr w' → w'.cell? ⟨w.heap.size, 5, none⟩ = some (.slice (some ⟨b, off, none⟩) c.fs.length cf) ∧ w'.cell? ⟨b, off + k * 3, none⟩ = some (.string x.n) ∧ w'.cell? ⟨b, off + k * 3 + 1, none⟩ = some (.string x.d)) := fun w' hw => ⟨cell_keep hw e5, cell_keep hw d0, cell_keep hw d1⟩
          go_wp2_with fail
          go_region_held (fun w' => w'.cell? ⟨w.heap.size, 5, none⟩ = some (.slice (some ⟨b, off, none⟩) c.fs.length cf) ∧ w'.cell? ⟨b, off + k * 3, none⟩ = some (.string x.n) ∧ w'.cell? ⟨b, off + k * 3 + 1, none⟩ = some (.string x.d))
            ((refine HT.out _ ?_; repeat (first | exact Ch.refl _ | refine Ch.drew ?_ | refine Ch.alloc ?_ _ | refine Ch.trans ?_ (by assumption)))) (first
              | (go_at_call 58; (with_reducible refine (sum3 _ _ _ _ _ _ _ _ _ _ (alloc_at' _ _ _ (by simp)) hq Okk.one (Okk.nat _) (Okk.nat _)).mono ?_); rintro e w4 ⟨⟨m2, rfl, hm2⟩, hx⟩; subst hx))
          all_goals
            go_wp2
            go_roundw
            case rel => exact ⟨k + 1, m2, by omega, by go_num, rfl, by rw [tsum_succ _ HX.out, ← Nat.add_assoc]; exact hm2, (hcr.alloc _).drew⟩
            case measure => simp [intOf]; omega
        · obtain rfl : k = c.fs.length := by omega
          rw [tsum_all] at hq
          clear hlt hk
          generalize B1 + (c.fs.map fun f => 1 + f.n.size + f.d.size).sum = B2 at *
          go_wp2
          go_loopw [3, 6] (fun nv i wr3 => ∃ (k : Nat) (q : Int), k ≤ c.me.length ∧ i = .int .i64 k ∧ nv = .int .i64 q ∧ Ok q (B2 + tsum mthT c.me k) ∧ Ch w1 wr3) (fun _ i _ => c.me.length - (intOf i).toNat)
          case atStart => exact ⟨0, q, Nat.zero_le _, rfl, rfl, by rw [tsum_zero]; exact hq, hcr⟩
          case round =>
            clear e0 e1 e2 e3 e4 e5 e6 hq hcr
            obtain ⟨k, q, hk, rfl, rfl, hq, hcr⟩ := hrel
            obtain ⟨e0, e1, e2, e3, e4, e5, e6⟩ := clsC_at (kept_at hcr HB.out)
            by_cases hlt : k < c.me.length
            · obtain ⟨x, hx⟩ : ∃ a, c.me[k]? = some a := ⟨_, List.getElem?_eq_getElem hlt⟩
              obtain ⟨b, off, vc, vh, hao, hsc, hsh, d0, d1, d2, d3, d4, d5, d6, d7⟩ := (hm.keepM (hbox.trans hcr)).atM hx
              have HX : Hid (c.me[k]? = some x) := hx
              have HSC : Hid (Sl 6 RI _ vc x.code) := hsc
              have HSH : Hid (Sl 4 RH _ vh x.hs) := hsh
              clear hx hsc hsh
              subst hao
              go_wp2_with (first
                | (go_at_call 141; (with_reducible refine (mthT_any x vc vh _ HSC.out HSH.out).mono ?_); rintro e w3 ⟨⟨m1, rfl, hm1⟩, hc3⟩)
                | (go_at_call 58; (with_reducible refine (sum1 _ _ _ _ _ _ (alloc_at _ _ _ (by simp)) hq (Ok.okk hm1)).mono ?_); rintro e w4 ⟨⟨m2, rfl, hm2⟩, hx⟩; subst hx))
              go_roundw
              case rel => exact ⟨k + 1, m2, by omega, by go_num, rfl, by rw [tsum_succ _ HX.out, ← Nat.add_assoc]; exact hm2, (hcr.trans hc3).alloc _⟩
              case measure => simp [intOf]; omega
            · obtain rfl : k = c.me.length := by omega
              rw [tsum_all] at hq
              go_wp2
              go_ret
              exact ⟨⟨q, rfl, by rw [HM.out]; exact hq⟩, hbox.trans hcr⟩
end Go.Proofs.YthmepecmeambmaaGreat
