/- The walk of the law ClassPool. -/
import Derived.Test.YtdalibfgkkgcpabPlA
import Derived.Test.YtdalibfgkkgcpabAwC
import Derived.Test.YtdalibfgkkgcpabBulkC
import Derived.Deep.QuietTactic
import Derived.BigQuiet
namespace Go.Proofs.Ytdalibfgkkgcpab
open Go.RowKit
set_option linter.unusedVariables false

theorem slice_texts {w : World} {ao : Option Addr} {n cap k : Nat} {xs : List ByteArray} (h : Sl 1 RS w (.slice ao n cap) xs) (hk : k < n) (W : World) :
    (Instr.slice 22 (.slice ao n cap) none (some (.int .i64 (k : Int))) none).run Try.prog W = .ok (.slice ao k cap) W := by
  obtain ⟨ao', cap', hv, h1, h2, h3⟩ := h
  obtain ⟨rfl, rfl, rfl⟩ : ao = ao' ∧ n = xs.length ∧ cap = cap' := by simpa using hv
  obtain ⟨b, off, rfl, _⟩ := h3 (by omega)
  have q1 : (0 : Int) ≤ (k : Int) := by omega
  have q2 : (k : Int) ≤ (cap : Int) := by omega
  have := Try.underlying22
  go_simp

theorem Ok.small {m : Int} {t : Nat} (h : Ok m t) (hm : m ≤ 12000) : t ≤ 12000 := by have := h.1.2 hm; omega
theorem hasB_mem {L : List (List UInt8)} {s : ByteArray} (h : bl s ∈ L) : hasB (L.map ms) s = true := by
  simp only [hasB, isIn]
  rw [ms_bl_map]
  simp [h]
theorem hasB_take {L : List (List UInt8)} (hn : L.Nodup) {k : Nat} {x : ByteArray} (hk : (L.map ms)[k]? = some x) : hasB ((L.map ms).take k) x = false := by
  simp only [hasB, isIn]
  rw [← List.map_take, ms_bl_map]
  have : L[k]? = some (bl x) := by
    rw [List.getElem?_map] at hk
    cases hh : L[k]? with
    | none => rw [hh] at hk; cases hk
    | some l => rw [hh] at hk; simp at hk; rw [← hk, bl_ms]
  simp [take_not_in hn this]
theorem mem_m {c : Cls} {m : Mth} (h : m ∈ c.me) : bl m.n ∈ poolL c ∧ bl m.d ∈ poolL c := by
  rw [poolL_mem, poolL_mem]
  unfold clsX
  constructor <;>
  · refine List.mem_append_right _ (List.mem_append_right _ (List.mem_append_right _ (List.mem_flatMap.2 ⟨m, h, ?_⟩)))
    simp [mthX]
theorem mem_f {c : Cls} {f : Fld} (h : f ∈ c.fs) : bl f.n ∈ poolL c ∧ bl f.d ∈ poolL c := by
  rw [poolL_mem, poolL_mem]
  unfold clsX
  constructor <;>
  · refine List.mem_append_right _ (List.mem_append_right _ (List.mem_append_left _ (List.mem_flatMap.2 ⟨f, h, ?_⟩)))
    simp [fldX]
theorem mem_s (c : Cls) : bl c.s ∈ poolL c := by rw [poolL_mem]; simp [clsX]

set_option maxRecDepth 100000 in
set_option maxHeartbeats 16000000 in
theorem classPool_main (c : Cls) (vi vf vm : Value) (w : World) (h : ClsAt w c vi vf vm) :
    Calls Try.prog 3 #[.agg #[.string c.n, .string c.s, .bool c.it, .bool c.ab, vi, vf, vm]] w fun e w' => e = .returned (.bool true) ∧ Ch w w' := by
  have hcW : Ch w (w.alloc (.cells (clsC c vi vf vm) 26)) := (Ch.refl w).alloc _
  have HB : Hid (∀ w', Ch (w.alloc (.cells (clsC c vi vf vm) 26)) w' → _) := fun w' k => clsC_at (kept_at k (heap_alloc_new w (.cells (clsC c vi vf vm) 26)))
  have hta : ∀ w0, Ch (w.alloc (.cells (clsC c vi vf vm) 26)) w0 → _ := fun w0 k => clsT_any c vi vf vm w0 (h.keep (hcW.trans k))
  have hpl : ∀ w0, Ch (w.alloc (.cells (clsC c vi vf vm) 26)) w0 → clsT c ≤ 12000 → _ := fun w0 k hT => pool_any c vi vf vm w0 (h.keep (hcW.trans k)) (fine_of c hT)
  have HK : Hid (∀ w0, Ch (w.alloc (.cells (clsC c vi vf vm) 26)) w0 → ClsAt w0 c vi vf vm) := fun w0 k => h.keep (hcW.trans k)
  obtain ⟨a1, c1, rfl, _, _⟩ := h.1.form
  obtain ⟨a2, c2, rfl, hf1, hf2⟩ := h.2.1.form
  obtain ⟨a3, c3, rfl, hm1, hm2⟩ := h.2.2.form
  clear h
  unfold clsC at *
  go_enter Try.func3, Try.ntmps3
  go_wp2_with (first
    | (go_at_call 4; (with_reducible refine (hta _ (Ch.refl _)).mono ?_); rintro e w3 ⟨⟨m1, rfl, p1⟩, hc3⟩; obtain ⟨z0, z1, z2, z3, z4, z5, z6⟩ := HB.out _ hc3)
    | (go_at_call 5; (with_reducible refine (awake_any _).mono ?_); rintro e w9 ⟨rfl, hc9⟩)
    | (go_at_call 6; (with_reducible refine (hpl _ hc3 (p1.small (by omega))).mono ?_); rintro e w4 ⟨v4, rfl, ho4, hc4⟩; obtain ⟨a4, c4, rfl⟩ := own_form ho4))
  · go_ret
    exact ⟨rfl, hcW.trans (hc3.trans hc9)⟩
  · have hCW : Ch w w4 := hcW.trans (hc3.trans hc4)
    have hCB : Hid (∀ w', Ch w4 w' → _) := fun w' k => HB.out w' (hc3.trans (hc4.trans k))
    have HK4 := HK.out w4 (hc3.trans hc4)
    have hS4 := sl_own ho4
    clear hpl hta HB HK hc3 hc4 z0 z1 z2 z3 z4 z5 z6 p1 hcW ho4
    have HND : Hid ((poolL c).Nodup) := poolL_nodup c
    obtain ⟨hp0, hp1⟩ := poolL_first c
    have HMS : Hid (bl c.s ∈ poolL c) := mem_s c
    have HMM : Hid (∀ m ∈ c.me, bl m.n ∈ poolL c ∧ bl m.d ∈ poolL c) := fun m h => mem_m h
    have HMF : Hid (∀ m ∈ c.fs, bl m.n ∈ poolL c ∧ bl m.d ∈ poolL c) := fun m h => mem_f h
    generalize poolL c = L at *
    have hLm : L.length ≤ 9223372036854775807 := by obtain ⟨_, _, e, h1, h2⟩ := hS4.form; simp at h1 e; omega
    go_loopw [4] (fun i wr => ∃ k : Nat, k ≤ L.length ∧ i = .int .i64 k ∧ Ch w4 wr) (fun i _ => L.length - (intOf i).toNat)
    case atStart => exact ⟨0, Nat.zero_le _, rfl, Ch.refl _⟩
    case round =>
      obtain ⟨k, hk, rfl, hcr⟩ := hrel
      by_cases hlt : k < L.length
      · obtain ⟨x, hx⟩ : ∃ a, (L.map ms)[k]? = some a := ⟨_, List.getElem?_eq_getElem (by simpa using hlt)⟩
        have hSr := hS4.keepS hcr
        obtain ⟨b, off, hao, d0⟩ := hSr.atS hx
        have hsl := slice_texts hSr (k := k) (by simpa using hlt)
        have hh : ∀ n, Calls Try.prog 7 #[.slice a4 k c4, .string x] (wr.drewN n) fun e w' => e = .returned (.bool false) ∧ w' = wr.drewN n := fun n => by
          have h1 := has_any ((L.map ms).take k) x (.slice a4 k c4) (wr.drewN n) ((hSr.takeS (k := k) (by omega)).keepS ((Ch.refl wr).drewN n))
          rw [hasB_take HND.out hx] at h1
          exact h1
        have hkl : k < (L.map ms).length := by simpa using hlt
        clear hSr hx hp0 hp1
        subst hao
        go_wp2_with fail
        go_quiet ((go_at_call 7; exact Calls.quiet_of_same (hh _)))
        go_wp2
        go_roundw
        case rel => exact ⟨k + 1, by omega, by go_num, hcr.drewN _⟩
        case measure => simp [intOf]; omega
      · obtain rfl : k = L.length := by omega
        obtain ⟨z0, z1, z2, z3, z4, z5, z6⟩ := hCB.out wr hcr
        have hSr := hS4.keepS hcr
        have hx0 : (L.map ms)[0]? = some c.n := by rw [List.getElem?_map, hp0]; simp [ms_bl]
        obtain ⟨b, off, hao, d0⟩ := hSr.atS hx0
        have hl1 : 1 ≤ L.length := by have := (List.getElem?_eq_some_iff.1 hp0).1; omega
        have hl1' : 0 < L.length := by omega
        have hl1i : (0 : Int) < (L.length : Int) := by omega
        have d0' : wr.cell? ⟨b, off, none⟩ = some (.string c.n) := d0
        have t0 : ((L.length : Int) == 0) = false := by rw [beq_eq_false_iff_ne]; omega
        have hh : ∀ n, Calls Try.prog 7 #[.slice a4 L.length c4, .string c.s] (wr.drewN n) fun e w' => e = .returned (.bool true) ∧ w' = wr.drewN n := fun n => by
          have h1 := has_any (L.map ms) c.s (.slice a4 L.length c4) (wr.drewN n) (hSr.keepS ((Ch.refl wr).drewN n))
          rw [hasB_mem HMS.out] at h1
          exact h1
        have HS : Hid (Sl 1 RS wr (.slice a4 L.length c4) (L.map ms)) := hSr
        obtain ⟨q, hq⟩ : ∃ q, (c.s.toList == c.n.toList) = q := ⟨_, rfl⟩
        cases q
        · have HN : Hid (bl c.s ≠ bl c.n) := fun e => by rw [bl_toList, bl_toList, e] at hq; simp at hq
          have hx1 : (L.map ms)[1]? = some c.s := by rw [List.getElem?_map, hp1 HN.out]; simp [ms_bl]
          obtain ⟨b2, off2, hao2, d1⟩ := hSr.atS hx1
          have hl2 : 2 ≤ L.length := by have := (List.getElem?_eq_some_iff.1 (hp1 HN.out)).1; omega
          obtain ⟨rfl, rfl⟩ : b2 = b ∧ off2 = off := by rw [hao] at hao2; simpa using hao2.symm
          have hl2' : 1 < L.length := by omega
          have hl2i : (1 : Int) < (L.length : Int) := by omega
          have t1 : decide ((L.length : Int) < 2) = false := by simp; omega
          have t2 : (c.s.toList != c.n.toList) = true := by rw [bne, hq]; rfl
          clear hSr hx0 hx1 hp0 hp1 hao2 hlt hk
          subst hao
          go_wp2
          go_quiet ((go_at_call 7; exact Calls.quiet_of_same (hh _)))
          go_wp2
          clear hh d0 d0' d1 z0 z1 z2 z3 z4 z5 z6
          go_loopw [5] (fun i wr2 => ∃ k : Nat, k ≤ c.me.length ∧ i = .int .i64 k ∧ Ch w4 wr2) (fun i _ => c.me.length - (intOf i).toNat)
          case atStart => exact ⟨0, Nat.zero_le _, rfl, hcr.drewN _⟩
          case round =>
            clear hcr
            obtain ⟨k, hk, rfl, hcr⟩ := hrel
            obtain ⟨z0, z1, z2, z3, z4, z5, z6⟩ := hCB.out wr hcr
            have hSr := hS4.keepS hcr
            by_cases hlt : k < c.me.length
            · obtain ⟨m, hx⟩ : ∃ a, c.me[k]? = some a := ⟨_, List.getElem?_eq_getElem hlt⟩
              obtain ⟨hmn, hmd⟩ := HMM.out m (List.mem_of_getElem? hx)
              obtain ⟨b3, off3, vc, vh, hao3, _, _, d0, d1, _⟩ := (HK4.2.2.keepM hcr).atM hx
              have hh1 := has_any (L.map ms) m.n _ wr hSr
              have hh2 := has_any (L.map ms) m.d _ wr hSr
              rw [hasB_mem hmn] at hh1
              rw [hasB_mem hmd] at hh2
              clear hx hmn hmd hSr
              subst hao3
              go_wp2_with (first
                | (go_at_call 7; (with_reducible refine hh1.mono ?_); rintro e w5 ⟨rfl, hw⟩; have hw := hw.symm; subst hw)
                | (go_at_call 7; (with_reducible refine hh2.mono ?_); rintro e w5 ⟨rfl, hw⟩; have hw := hw.symm; subst hw))
              go_roundw
              case rel => exact ⟨k + 1, by omega, by go_num, hcr⟩
              case measure => simp [intOf]; omega
            · obtain rfl : k = c.me.length := by omega
              clear hlt hk
              go_wp2
              clear z0 z1 z2 z3 z4 z5 z6
              go_loopw [6] (fun i wr2 => ∃ k : Nat, k ≤ c.fs.length ∧ i = .int .i64 k ∧ Ch w4 wr2) (fun i _ => c.fs.length - (intOf i).toNat)
              case atStart => exact ⟨0, Nat.zero_le _, rfl, hcr⟩
              case round =>
                clear hcr hSr
                obtain ⟨k, hk, rfl, hcr⟩ := hrel
                obtain ⟨z0, z1, z2, z3, z4, z5, z6⟩ := hCB.out wr hcr
                have hSr := hS4.keepS hcr
                by_cases hlt : k < c.fs.length
                · obtain ⟨m, hx⟩ : ∃ a, c.fs[k]? = some a := ⟨_, List.getElem?_eq_getElem hlt⟩
                  obtain ⟨hmn, hmd⟩ := HMF.out m (List.mem_of_getElem? hx)
                  obtain ⟨b3, off3, hao3, d0, d1, _⟩ := (HK4.2.1.keepF hcr).atF hx
                  have hh1 := has_any (L.map ms) m.n _ wr hSr
                  have hh2 := has_any (L.map ms) m.d _ wr hSr
                  rw [hasB_mem hmn] at hh1
                  rw [hasB_mem hmd] at hh2
                  clear hx hmn hmd hSr
                  subst hao3
                  go_wp2_with (first
                    | (go_at_call 7; (with_reducible refine hh1.mono ?_); rintro e w5 ⟨rfl, hw⟩; have hw := hw.symm; subst hw)
                    | (go_at_call 7; (with_reducible refine hh2.mono ?_); rintro e w5 ⟨rfl, hw⟩; have hw := hw.symm; subst hw))
                  go_roundw
                  case rel => exact ⟨k + 1, by omega, by go_num, hcr⟩
                  case measure => simp [intOf]; omega
                · obtain rfl : k = c.fs.length := by omega
                  clear hlt hk
                  go_wp2_with (first
                    | (go_at_call 5; (with_reducible refine (awake_any _).mono ?_); rintro e w9 ⟨rfl, hc9⟩))
                  go_ret
                  exact ⟨rfl, hCW.trans (hcr.trans hc9)⟩
        · have t2 : (c.s.toList != c.n.toList) = false := by rw [bne, hq]; rfl
          clear hSr hx0 hp0 hp1 hlt hk
          subst hao
          go_wp2
          go_quiet ((go_at_call 7; exact Calls.quiet_of_same (hh _)))
          go_wp2
          clear hh d0 d0' z0 z1 z2 z3 z4 z5 z6
          go_loopw [5] (fun i wr2 => ∃ k : Nat, k ≤ c.me.length ∧ i = .int .i64 k ∧ Ch w4 wr2) (fun i _ => c.me.length - (intOf i).toNat)
          case atStart => exact ⟨0, Nat.zero_le _, rfl, hcr.drewN _⟩
          case round =>
            clear hcr
            obtain ⟨k, hk, rfl, hcr⟩ := hrel
            obtain ⟨z0, z1, z2, z3, z4, z5, z6⟩ := hCB.out wr hcr
            have hSr := hS4.keepS hcr
            by_cases hlt : k < c.me.length
            · obtain ⟨m, hx⟩ : ∃ a, c.me[k]? = some a := ⟨_, List.getElem?_eq_getElem hlt⟩
              obtain ⟨hmn, hmd⟩ := HMM.out m (List.mem_of_getElem? hx)
              obtain ⟨b3, off3, vc, vh, hao3, _, _, d0, d1, _⟩ := (HK4.2.2.keepM hcr).atM hx
              have hh1 := has_any (L.map ms) m.n _ wr hSr
              have hh2 := has_any (L.map ms) m.d _ wr hSr
              rw [hasB_mem hmn] at hh1
              rw [hasB_mem hmd] at hh2
              clear hx hmn hmd hSr
              subst hao3
              go_wp2_with (first
                | (go_at_call 7; (with_reducible refine hh1.mono ?_); rintro e w5 ⟨rfl, hw⟩; have hw := hw.symm; subst hw)
                | (go_at_call 7; (with_reducible refine hh2.mono ?_); rintro e w5 ⟨rfl, hw⟩; have hw := hw.symm; subst hw))
              go_roundw
              case rel => exact ⟨k + 1, by omega, by go_num, hcr⟩
              case measure => simp [intOf]; omega
            · obtain rfl : k = c.me.length := by omega
              clear hlt hk
              go_wp2
              clear z0 z1 z2 z3 z4 z5 z6
              go_loopw [6] (fun i wr2 => ∃ k : Nat, k ≤ c.fs.length ∧ i = .int .i64 k ∧ Ch w4 wr2) (fun i _ => c.fs.length - (intOf i).toNat)
              case atStart => exact ⟨0, Nat.zero_le _, rfl, hcr⟩
              case round =>
                clear hcr hSr
                obtain ⟨k, hk, rfl, hcr⟩ := hrel
                obtain ⟨z0, z1, z2, z3, z4, z5, z6⟩ := hCB.out wr hcr
                have hSr := hS4.keepS hcr
                by_cases hlt : k < c.fs.length
                · obtain ⟨m, hx⟩ : ∃ a, c.fs[k]? = some a := ⟨_, List.getElem?_eq_getElem hlt⟩
                  obtain ⟨hmn, hmd⟩ := HMF.out m (List.mem_of_getElem? hx)
                  obtain ⟨b3, off3, hao3, d0, d1, _⟩ := (HK4.2.1.keepF hcr).atF hx
                  have hh1 := has_any (L.map ms) m.n _ wr hSr
                  have hh2 := has_any (L.map ms) m.d _ wr hSr
                  rw [hasB_mem hmn] at hh1
                  rw [hasB_mem hmd] at hh2
                  clear hx hmn hmd hSr
                  subst hao3
                  go_wp2_with (first
                    | (go_at_call 7; (with_reducible refine hh1.mono ?_); rintro e w5 ⟨rfl, hw⟩; have hw := hw.symm; subst hw)
                    | (go_at_call 7; (with_reducible refine hh2.mono ?_); rintro e w5 ⟨rfl, hw⟩; have hw := hw.symm; subst hw))
                  go_roundw
                  case rel => exact ⟨k + 1, by omega, by go_num, hcr⟩
                  case measure => simp [intOf]; omega
                · obtain rfl : k = c.fs.length := by omega
                  clear hlt hk
                  go_wp2_with (first
                    | (go_at_call 5; (with_reducible refine (awake_any _).mono ?_); rintro e w9 ⟨rfl, hc9⟩))
                  go_ret
                  exact ⟨rfl, hCW.trans (hcr.trans hc9)⟩
end Go.Proofs.Ytdalibfgkkgcpab
