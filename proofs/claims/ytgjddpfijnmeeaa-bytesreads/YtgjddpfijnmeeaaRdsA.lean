/- The walk of the law BytesReads: its loop. -/
import Derived.Test.YtgjddpfijnmeeaaText
import Derived.Test.YtgjddpfijnmeeaaNumW
namespace Go.Proofs.Ytgjddpfijnmeeaa
open Go.RowKit
set_option linter.unusedVariables false

theorem getU_at (g off a m c : Nat) (bs : List Int) (size : Nat) (s : Int) (wr : World) (o : Obj) (hclr : ∀ k, k < bs.length → wr.cell? ⟨g, off + k, none⟩ = some (.int .u8 (bs.getD k 0))) (hb : ∀ x ∈ bs, 0 ≤ x ∧ x < 256) (hm : m = bs.length - a) (hs : a + size ≤ bs.length) (hs4 : size ≤ 4) (hss : (size : Int) = s := by rfl) :
    Calls Try.prog 15 #[.slice (some ⟨g, off + a, none⟩) m c, .int .i64 s] (wr.alloc o) fun e w' => e = .returned (.int .i64 (getU (bs.drop a) size)) ∧ w' = wr.alloc o := by
  subst hss
  refine getU_any g (off + a) m c (bs.drop a) size (wr.alloc o) (fun k hk => ?_) (fun x hx => hb x (List.mem_of_mem_drop hx)) (by rw [List.length_drop]; omega) (by rw [List.length_drop]; omega) hs4
  rw [List.length_drop] at hk
  have h1 := hclr (a + k) (by omega)
  rw [World.cell?_alloc_lt _ _ _ (by have := World.block_lt_of_cell? _ _ h1; exact this), Nat.add_assoc, h1]
  simp [List.getD]

theorem row_cut_off {w : World} {g off cap : Nat} {bs : List Int} {lo n c : Nat} (hlo : lo + n ≤ bs.length) (hcap : bs.length ≤ cap) (h : ∀ k, k < bs.length → w.cell? ⟨g, off + k, none⟩ = some (.int .u8 (bs.getD k 0))) :
    Row w (.slice (if cap = lo then some ⟨g, off, none⟩ else some ⟨g, off + lo, none⟩) n c) ((bs.drop lo).take n) := by
  split
  · have hn : n = 0 := by omega
    subst hn
    exact Or.inr ⟨⟨g, off, none⟩, c, by simp, fun j u hj => by simp at hj⟩
  · have hl : ((bs.drop lo).take n).length = n := by rw [List.length_take, List.length_drop]; omega
    refine Or.inr ⟨⟨g, off + lo, none⟩, c, by rw [hl], fun j u hj => ?_⟩
    have hadd : (⟨g, off + lo, none⟩ : Addr).add j = ⟨g, off + (lo + j), none⟩ := by unfold Addr.add; split <;> simp_all [Nat.add_assoc]
    have hjl : j < n := by
      rcases Nat.lt_or_ge j n with hlt | hge
      · exact hlt
      · rw [List.getElem?_eq_none (by rw [List.length_map, hl]; exact hge)] at hj; cases hj
    rw [hadd, h (lo + j) (by omega)]
    rw [List.getElem?_map, List.getElem?_take_of_lt hjl, List.getElem?_drop] at hj
    rw [List.getElem?_eq_getElem (by omega)] at hj
    simp at hj
    rw [← hj]
    simp [List.getD, List.getElem?_eq_getElem (show lo + j < bs.length by omega)]

set_option maxRecDepth 100000 in
set_option maxHeartbeats 4000000 in
theorem reads_main (a0 a1 : Option Addr) (cap0 len1 cap1 : Nat) (bs ks : List Int) (w : World) (hrow : Row w (.slice a0 bs.length cap0) bs) (hsm : ∀ x ∈ bs, 0 ≤ x ∧ x < 256) (hl0 : bs.length ≤ 2000) (hcap0 : bs.length ≤ cap0) (hcm : cap0 ≤ 9223372036854775807)
    (hb0 : 0 < bs.length → ∃ g off, a0 = some ⟨g, off, none⟩ ∧ ∀ k, k < bs.length → w.cell? ⟨g, off + k, none⟩ = some (.int .u8 (bs.getD k 0)))
    (hl1 : len1 ≤ 60) (hk : ∀ k, k < len1 → ∃ b off, a1 = some ⟨b, off, none⟩ ∧ w.cell? ⟨b, off + k, none⟩ = some (.int .i64 (ks.getD k 0))) :
    Calls Try.prog 4 #[.slice a0 bs.length cap0, .slice a1 len1 cap1] w fun e w' => e = .returned (.bool true) ∧ Ch (fun _ => False) w w' := by
  have t0 : decide (2000 < (bs.length : Int)) = false := by simp; omega
  have t1 : decide (60 < (len1 : Int)) = false := by simp; omega
  go_enter Try.func4, Try.ntmps4
  go_wp2_with fail
  refine (newReader_any _ bs w hrow hsm (by omega)).mono ?_
  rintro e w1 ⟨r, v, rfl, hrd, hc1, hr1, hg1⟩
  go_wp2
  go_loopw [6, 7, 8] (fun at_ f i wr => ∃ (k a : Nat) (fb : Bool), k ≤ len1 ∧ i = .int .i64 k ∧ at_ = .int .i64 a ∧ f = .bool fb ∧ Rd wr r v bs a fb ∧ Ch (fun _ => False) w wr) (fun _ _ i _ => len1 - (intOf i).toNat)
  case atStart => exact ⟨0, 0, false, Nat.zero_le _, rfl, rfl, rfl, hrd, hc1⟩
  case round =>
    obtain ⟨k, a, fb, hk1, rfl, rfl, rfl, hrdr, hcr⟩ := hrel
    have hale := hrdr.le
    by_cases hlt : k < len1
    · obtain ⟨b1, off1, rfl, hcell⟩ := hk k hlt
      generalize ks.getD k 0 = kv at hcell
      have hcellr : wr.cell? ⟨b1, off1 + k, none⟩ = some (.int .i64 kv) := (World.cell?_of_block (hcr.block b1 (World.block_lt_of_cell? _ _ hcell) (fun x => x))).trans hcell
      have hq : rnd kv 4 = 0 ∨ rnd kv 4 = 1 ∨ rnd kv 4 = 2 ∨ rnd kv 4 = 3 := by have := rnd_bd kv 4 (by omega); omega
      have hrn := round_any kv 4 wr (by omega) (by omega)
      clear hk hcell
      rcases hq with hq | hq | hq | hq
      · -- kind 1
        cases fb with
        | true =>
          rw [hq] at hrn
          clear hq
          go_wp2_with fail
          refine hrn.mono ?_
          rintro e w2 ⟨rfl, hw2⟩
          have hw2 := hw2.symm
          subst hw2

          go_wp2_with fail
          refine (u1_fail r v bs a true _ (hrdr.alloc _) (by simp)).mono ?_
          rintro e w3 ⟨rfl, hrd3, hc3⟩
          go_wp2_with fail
          refine (err_failed r v bs a _ hrd3).mono ?_
          rintro e w4 ⟨rfl, nq, rfl⟩
          have hrd4 := hrd3.drewN nq
          go_wp2_with fail
          refine (at_any r v bs a true _ hrd4).mono ?_
          rintro e w5 ⟨rfl, hw5⟩
          have hw5 := hw5.symm
          subst hw5
          go_wp2_with fail
          refine (left_failed r v bs a _ hrd4).mono ?_
          rintro e w6 ⟨rfl, hw6⟩
          have hw6 := hw6.symm
          subst hw6
          go_wp2
          go_roundw
          case rel => exact ⟨k + 1, a, true, by omega, by go_num, rfl, rfl, hrd4, ((hcr.alloc _).chain hc3 (fun i hi x => by have := hr1; omega)).drewN nq⟩
          case measure => simp [intOf]; omega
        | false =>
          by_cases hsz : (bs.length : Int) - a < 1
          · have hok : decide (1 ≤ (bs.length : Int) - (a : Int)) = false := by simp; omega
            rw [hq] at hrn
            clear hq
            go_wp2_with fail
            refine hrn.mono ?_
            rintro e w2 ⟨rfl, hw2⟩
            have hw2 := hw2.symm
            subst hw2

            go_wp2_with fail
            refine (u1_fail r v bs a false _ (hrdr.alloc _) (by simpa using hsz)).mono ?_
            rintro e w3 ⟨rfl, hrd3, hc3⟩
            go_wp2_with fail
            refine (err_failed r v bs a _ hrd3).mono ?_
            rintro e w4 ⟨rfl, nq, rfl⟩
            have hrd4 := hrd3.drewN nq
            go_wp2_with fail
            refine (at_any r v bs a true _ hrd4).mono ?_
            rintro e w5 ⟨rfl, hw5⟩
            have hw5 := hw5.symm
            subst hw5
            go_wp2_with fail
            refine (left_failed r v bs a _ hrd4).mono ?_
            rintro e w6 ⟨rfl, hw6⟩
            have hw6 := hw6.symm
            subst hw6
            go_wp2
            go_roundw
            case rel => exact ⟨k + 1, a, true, by omega, by go_num, rfl, rfl, hrd4, ((hcr.alloc _).chain hc3 (fun i hi x => by have := hr1; omega)).drewN nq⟩
            case measure => simp [intOf]; omega
          · have hok : decide (1 ≤ (bs.length : Int) - (a : Int)) = true := by simp; omega
            obtain ⟨g, off, rfl, hcl⟩ := hb0 (by omega)
            have hclr : ∀ k, k < bs.length → wr.cell? ⟨g, off + k, none⟩ = some (.int .u8 (bs.getD k 0)) := fun k hk => (World.cell?_of_block (hcr.block g (World.block_lt_of_cell? _ _ (hcl k hk)) (fun x => x))).trans (hcl k hk)
            have hgu := getU_at g off a (bs.length - a) (cap0 - a) bs 1 1 wr (.cells #[.int .i64 0, .int .i64 1, .int .i64 2, .int .i64 4, .int .i64 2] 3) hclr hsm rfl (by omega) (by omega)
            have hrdx := u1_ok r v bs a _ (hrdr.alloc (.cells #[.int .i64 0, .int .i64 1, .int .i64 2, .int .i64 4, .int .i64 2] 3)) (by omega)
            have hval : getU (bs.drop a) 1 = num ((bs.drop a).take 1) := by simp [getU]
            rw [hval] at hgu
            clear hval hclr hcl hb0
            generalize num ((bs.drop a).take 1) = N at hgu hrdx

            rw [hq] at hrn
            clear hq
            go_wp2_with fail
            refine hrn.mono ?_
            rintro e w2 ⟨rfl, hw2⟩
            have hw2 := hw2.symm
            subst hw2

            go_wp2_with fail
            refine hgu.mono ?_
            rintro e w7 ⟨rfl, hw7⟩
            have hw7 := hw7.symm
            subst hw7

            go_wp2_with fail
            refine (hrdx).mono ?_
            rintro e w3 ⟨rfl, hrd3, hc3⟩
            go_wp2_with fail
            refine (err_ok r v bs (a + 1) _ hrd3).mono ?_
            rintro e w4 ⟨rfl, nq, rfl⟩
            have hrd4 := hrd3.drewN nq
            go_wp2_with fail
            refine (at_any r v bs (a + 1) false _ hrd4).mono ?_
            rintro e w5 ⟨rfl, hw5⟩
            have hw5 := hw5.symm
            subst hw5
            go_wp2_with fail
            refine (left_any' r v bs (a + 1) false _ hrd4 ((bs.length : Int) - ((a : Int) + 1)) (by simp)).mono ?_
            rintro e w6 ⟨rfl, nq2, rfl⟩
            go_wp2
            go_roundw
            case rel => exact ⟨k + 1, a + 1, false, by omega, by go_num, by go_num, rfl, hrd3.drewN _, ((hcr.alloc _).chain hc3 (fun i hi x => by have := hr1; omega)).drewN _⟩
            case measure => simp [intOf]; omega
      · -- kind 2
        cases fb with
        | true =>
          rw [hq] at hrn
          clear hq
          go_wp2_with fail
          refine hrn.mono ?_
          rintro e w2 ⟨rfl, hw2⟩
          have hw2 := hw2.symm
          subst hw2

          go_wp2_with fail
          refine (u2_fail r v bs a true _ (hrdr.alloc _) (by simp)).mono ?_
          rintro e w3 ⟨rfl, hrd3, hc3⟩
          go_wp2_with fail
          refine (err_failed r v bs a _ hrd3).mono ?_
          rintro e w4 ⟨rfl, nq, rfl⟩
          have hrd4 := hrd3.drewN nq
          go_wp2_with fail
          refine (at_any r v bs a true _ hrd4).mono ?_
          rintro e w5 ⟨rfl, hw5⟩
          have hw5 := hw5.symm
          subst hw5
          go_wp2_with fail
          refine (left_failed r v bs a _ hrd4).mono ?_
          rintro e w6 ⟨rfl, hw6⟩
          have hw6 := hw6.symm
          subst hw6
          go_wp2
          go_roundw
          case rel => exact ⟨k + 1, a, true, by omega, by go_num, rfl, rfl, hrd4, ((hcr.alloc _).chain hc3 (fun i hi x => by have := hr1; omega)).drewN nq⟩
          case measure => simp [intOf]; omega
        | false =>
          by_cases hsz : (bs.length : Int) - a < 2
          · have hok : decide (2 ≤ (bs.length : Int) - (a : Int)) = false := by simp; omega
            rw [hq] at hrn
            clear hq
            go_wp2_with fail
            refine hrn.mono ?_
            rintro e w2 ⟨rfl, hw2⟩
            have hw2 := hw2.symm
            subst hw2

            go_wp2_with fail
            refine (u2_fail r v bs a false _ (hrdr.alloc _) (by simpa using hsz)).mono ?_
            rintro e w3 ⟨rfl, hrd3, hc3⟩
            go_wp2_with fail
            refine (err_failed r v bs a _ hrd3).mono ?_
            rintro e w4 ⟨rfl, nq, rfl⟩
            have hrd4 := hrd3.drewN nq
            go_wp2_with fail
            refine (at_any r v bs a true _ hrd4).mono ?_
            rintro e w5 ⟨rfl, hw5⟩
            have hw5 := hw5.symm
            subst hw5
            go_wp2_with fail
            refine (left_failed r v bs a _ hrd4).mono ?_
            rintro e w6 ⟨rfl, hw6⟩
            have hw6 := hw6.symm
            subst hw6
            go_wp2
            go_roundw
            case rel => exact ⟨k + 1, a, true, by omega, by go_num, rfl, rfl, hrd4, ((hcr.alloc _).chain hc3 (fun i hi x => by have := hr1; omega)).drewN nq⟩
            case measure => simp [intOf]; omega
          · have hok : decide (2 ≤ (bs.length : Int) - (a : Int)) = true := by simp; omega
            obtain ⟨g, off, rfl, hcl⟩ := hb0 (by omega)
            have hclr : ∀ k, k < bs.length → wr.cell? ⟨g, off + k, none⟩ = some (.int .u8 (bs.getD k 0)) := fun k hk => (World.cell?_of_block (hcr.block g (World.block_lt_of_cell? _ _ (hcl k hk)) (fun x => x))).trans (hcl k hk)
            have hgu := getU_at g off a (bs.length - a) (cap0 - a) bs 2 2 wr (.cells #[.int .i64 0, .int .i64 1, .int .i64 2, .int .i64 4, .int .i64 2] 3) hclr hsm rfl (by omega) (by omega)
            have hrdx := u2_ok r v bs a _ (hrdr.alloc (.cells #[.int .i64 0, .int .i64 1, .int .i64 2, .int .i64 4, .int .i64 2] 3)) (by omega)
            have hval : getU (bs.drop a) 2 = num ((bs.drop a).take 2) := by simp [getU]
            rw [hval] at hgu
            clear hval hclr hcl hb0
            generalize num ((bs.drop a).take 2) = N at hgu hrdx

            rw [hq] at hrn
            clear hq
            go_wp2_with fail
            refine hrn.mono ?_
            rintro e w2 ⟨rfl, hw2⟩
            have hw2 := hw2.symm
            subst hw2

            go_wp2_with fail
            refine hgu.mono ?_
            rintro e w7 ⟨rfl, hw7⟩
            have hw7 := hw7.symm
            subst hw7

            go_wp2_with fail
            refine (hrdx).mono ?_
            rintro e w3 ⟨rfl, hrd3, hc3⟩
            go_wp2_with fail
            refine (err_ok r v bs (a + 2) _ hrd3).mono ?_
            rintro e w4 ⟨rfl, nq, rfl⟩
            have hrd4 := hrd3.drewN nq
            go_wp2_with fail
            refine (at_any r v bs (a + 2) false _ hrd4).mono ?_
            rintro e w5 ⟨rfl, hw5⟩
            have hw5 := hw5.symm
            subst hw5
            go_wp2_with fail
            refine (left_any' r v bs (a + 2) false _ hrd4 ((bs.length : Int) - ((a : Int) + 2)) (by simp)).mono ?_
            rintro e w6 ⟨rfl, nq2, rfl⟩
            go_wp2
            go_roundw
            case rel => exact ⟨k + 1, a + 2, false, by omega, by go_num, by go_num, rfl, hrd3.drewN _, ((hcr.alloc _).chain hc3 (fun i hi x => by have := hr1; omega)).drewN _⟩
            case measure => simp [intOf]; omega
      · -- kind 3
        cases fb with
        | true =>
          rw [hq] at hrn
          clear hq
          go_wp2_with fail
          refine hrn.mono ?_
          rintro e w2 ⟨rfl, hw2⟩
          have hw2 := hw2.symm
          subst hw2

          go_wp2_with fail
          refine (i4_fail r v bs a true _ (hrdr.alloc _) (by simp)).mono ?_
          rintro e w3 ⟨rfl, hrd3, hc3⟩
          go_wp2_with fail
          refine (err_failed r v bs a _ hrd3).mono ?_
          rintro e w4 ⟨rfl, nq, rfl⟩
          have hrd4 := hrd3.drewN nq
          go_wp2_with fail
          refine (at_any r v bs a true _ hrd4).mono ?_
          rintro e w5 ⟨rfl, hw5⟩
          have hw5 := hw5.symm
          subst hw5
          go_wp2_with fail
          refine (left_failed r v bs a _ hrd4).mono ?_
          rintro e w6 ⟨rfl, hw6⟩
          have hw6 := hw6.symm
          subst hw6
          go_wp2
          go_roundw
          case rel => exact ⟨k + 1, a, true, by omega, by go_num, rfl, rfl, hrd4, ((hcr.alloc _).chain hc3 (fun i hi x => by have := hr1; omega)).drewN nq⟩
          case measure => simp [intOf]; omega
        | false =>
          by_cases hsz : (bs.length : Int) - a < 4
          · have hok : decide (4 ≤ (bs.length : Int) - (a : Int)) = false := by simp; omega
            rw [hq] at hrn
            clear hq
            go_wp2_with fail
            refine hrn.mono ?_
            rintro e w2 ⟨rfl, hw2⟩
            have hw2 := hw2.symm
            subst hw2

            go_wp2_with fail
            refine (i4_fail r v bs a false _ (hrdr.alloc _) (by simpa using hsz)).mono ?_
            rintro e w3 ⟨rfl, hrd3, hc3⟩
            go_wp2_with fail
            refine (err_failed r v bs a _ hrd3).mono ?_
            rintro e w4 ⟨rfl, nq, rfl⟩
            have hrd4 := hrd3.drewN nq
            go_wp2_with fail
            refine (at_any r v bs a true _ hrd4).mono ?_
            rintro e w5 ⟨rfl, hw5⟩
            have hw5 := hw5.symm
            subst hw5
            go_wp2_with fail
            refine (left_failed r v bs a _ hrd4).mono ?_
            rintro e w6 ⟨rfl, hw6⟩
            have hw6 := hw6.symm
            subst hw6
            go_wp2
            go_roundw
            case rel => exact ⟨k + 1, a, true, by omega, by go_num, rfl, rfl, hrd4, ((hcr.alloc _).chain hc3 (fun i hi x => by have := hr1; omega)).drewN nq⟩
            case measure => simp [intOf]; omega
          · have hok : decide (4 ≤ (bs.length : Int) - (a : Int)) = true := by simp; omega
            obtain ⟨g, off, rfl, hcl⟩ := hb0 (by omega)
            have hclr : ∀ k, k < bs.length → wr.cell? ⟨g, off + k, none⟩ = some (.int .u8 (bs.getD k 0)) := fun k hk => (World.cell?_of_block (hcr.block g (World.block_lt_of_cell? _ _ (hcl k hk)) (fun x => x))).trans (hcl k hk)
            have hgu := getU_at g off a (bs.length - a) (cap0 - a) bs 4 4 wr (.cells #[.int .i64 0, .int .i64 1, .int .i64 2, .int .i64 4, .int .i64 2] 3) hclr hsm rfl (by omega) (by omega)
            have hrdx := i4_ok r v bs a _ (hrdr.alloc (.cells #[.int .i64 0, .int .i64 1, .int .i64 2, .int .i64 4, .int .i64 2] 3)) (by omega)
            have hval : getU (bs.drop a) 4 = sgn (num ((bs.drop a).take 4)) := by simp [getU]
            rw [hval] at hgu
            clear hval hclr hcl hb0
            generalize sgn (num ((bs.drop a).take 4)) = N at hgu hrdx

            rw [hq] at hrn
            clear hq
            go_wp2_with fail
            refine hrn.mono ?_
            rintro e w2 ⟨rfl, hw2⟩
            have hw2 := hw2.symm
            subst hw2

            go_wp2_with fail
            refine hgu.mono ?_
            rintro e w7 ⟨rfl, hw7⟩
            have hw7 := hw7.symm
            subst hw7

            go_wp2_with fail
            refine (hrdx).mono ?_
            rintro e w3 ⟨rfl, hrd3, hc3⟩
            go_wp2_with fail
            refine (err_ok r v bs (a + 4) _ hrd3).mono ?_
            rintro e w4 ⟨rfl, nq, rfl⟩
            have hrd4 := hrd3.drewN nq
            go_wp2_with fail
            refine (at_any r v bs (a + 4) false _ hrd4).mono ?_
            rintro e w5 ⟨rfl, hw5⟩
            have hw5 := hw5.symm
            subst hw5
            go_wp2_with fail
            refine (left_any' r v bs (a + 4) false _ hrd4 ((bs.length : Int) - ((a : Int) + 4)) (by simp)).mono ?_
            rintro e w6 ⟨rfl, nq2, rfl⟩
            go_wp2
            go_roundw
            case rel => exact ⟨k + 1, a + 4, false, by omega, by go_num, by go_num, rfl, hrd3.drewN _, ((hcr.alloc _).chain hc3 (fun i hi x => by have := hr1; omega)).drewN _⟩
            case measure => simp [intOf]; omega
      · -- kind 4
        cases fb with
        | true =>
          rw [hq] at hrn
          clear hq
          go_wp2_with fail
          refine hrn.mono ?_
          rintro e w2 ⟨rfl, hw2⟩
          have hw2 := hw2.symm
          subst hw2

          go_wp2_with fail
          refine (text_fail1 r v bs a true _ (hrdr.alloc _) (by simp)).mono ?_
          rintro e w3 ⟨rfl, hrd3, hc3⟩
          go_wp2_with fail
          refine (err_failed r v bs a _ hrd3).mono ?_
          rintro e w4 ⟨rfl, nq, rfl⟩
          have hrd4 := hrd3.drewN nq
          go_wp2_with fail
          refine (at_any r v bs a true _ hrd4).mono ?_
          rintro e w5 ⟨rfl, hw5⟩
          have hw5 := hw5.symm
          subst hw5
          go_wp2_with fail
          refine (left_failed r v bs a _ hrd4).mono ?_
          rintro e w6 ⟨rfl, hw6⟩
          have hw6 := hw6.symm
          subst hw6
          go_wp2
          go_roundw
          case rel => exact ⟨k + 1, a, true, by omega, by go_num, rfl, rfl, hrd4, ((hcr.alloc _).chain hc3 (fun i hi x => by have := hr1; omega)).drewN nq⟩
          case measure => simp [intOf]; omega
        | false =>
          by_cases hsz : (bs.length : Int) - a < 2
          · have hok : decide (2 ≤ (bs.length : Int) - (a : Int)) = false := by simp; omega
            rw [hq] at hrn
            clear hq
            go_wp2_with fail
            refine hrn.mono ?_
            rintro e w2 ⟨rfl, hw2⟩
            have hw2 := hw2.symm
            subst hw2

            go_wp2_with fail
            refine (text_fail1 r v bs a false _ (hrdr.alloc _) (by simpa using hsz)).mono ?_
            rintro e w3 ⟨rfl, hrd3, hc3⟩
            go_wp2_with fail
            refine (err_failed r v bs a _ hrd3).mono ?_
            rintro e w4 ⟨rfl, nq, rfl⟩
            have hrd4 := hrd3.drewN nq
            go_wp2_with fail
            refine (at_any r v bs a true _ hrd4).mono ?_
            rintro e w5 ⟨rfl, hw5⟩
            have hw5 := hw5.symm
            subst hw5
            go_wp2_with fail
            refine (left_failed r v bs a _ hrd4).mono ?_
            rintro e w6 ⟨rfl, hw6⟩
            have hw6 := hw6.symm
            subst hw6
            go_wp2
            go_roundw
            case rel => exact ⟨k + 1, a, true, by omega, by go_num, rfl, rfl, hrd4, ((hcr.alloc _).chain hc3 (fun i hi x => by have := hr1; omega)).drewN nq⟩
            case measure => simp [intOf]; omega
          · have hok : decide (2 ≤ (bs.length : Int) - (a : Int)) = true := by simp; omega
            obtain ⟨g, off, rfl, hcl⟩ := hb0 (by omega)
            have hclr : ∀ k, k < bs.length → wr.cell? ⟨g, off + k, none⟩ = some (.int .u8 (bs.getD k 0)) := fun k hk => (World.cell?_of_block (hcr.block g (World.block_lt_of_cell? _ _ (hcl k hk)) (fun x => x))).trans (hcl k hk)
            have hgu := getU_at g off a (bs.length - a) (cap0 - a) bs 2 2 wr (.cells #[.int .i64 0, .int .i64 1, .int .i64 2, .int .i64 4, .int .i64 2] 3) hclr hsm rfl (by omega) (by omega)
            have hval : getU (bs.drop a) 2 = num ((bs.drop a).take 2) := by simp [getU]
            rw [hval] at hgu
            have hbd := num_take_bd bs a 2 hsm (by omega)
            obtain ⟨n, hn⟩ := Int.eq_ofNat_of_zero_le hbd.1
            rw [hn] at hgu
            clear hval hb0
            by_cases hfit : a + 2 + n ≤ bs.length
            · have hok2 : decide ((n : Int) ≤ (bs.length : Int) - (a : Int) - 2) = true := by simp; omega
              have hrdx := text_ok r v bs a n _ (hrdr.alloc (.cells #[.int .i64 0, .int .i64 1, .int .i64 2, .int .i64 4, .int .i64 2] 3)) (by omega) hn hfit
              clear hn hbd
              have hrow2 : ∀ c, Row (wr.alloc (.cells #[.int .i64 0, .int .i64 1, .int .i64 2, .int .i64 4, .int .i64 2] 3)) (.slice (if cap0 = a + 2 then some ⟨g, off, none⟩ else some ⟨g, off + (a + 2), none⟩) n c) ((bs.drop (a + 2)).take n) := fun c => row_cut_off hfit hcap0 (fun k hk => (World.cell?_alloc_lt _ _ _ (by have := World.block_lt_of_cell? _ _ (hclr k hk); exact this)).trans (hclr k hk))
              have hconv := fun c => row_string (hrow2 c)
              clear hrow2 hclr hcl
              generalize strOfNums ((bs.drop (a + 2)).take n) = S at hconv hrdx
              by_cases hca : cap0 = a + 2
              · simp only [if_pos hca] at hconv
                have hca1 : cap0 ≤ a + 2 := by omega
                have hca2 : a + 2 ≤ cap0 := by omega
                have HC : Hid (cap0 = a + 2) := hca
                clear hca
                rw [hq] at hrn
                clear hq
                go_wp2_with fail
                refine hrn.mono ?_
                rintro e w2 ⟨rfl, hw2⟩
                have hw2 := hw2.symm
                subst hw2
                -- EQ
                go_wp2_with fail
                refine hgu.mono ?_
                rintro e w7 ⟨rfl, hw7⟩
                have hw7 := hw7.symm
                subst hw7

                go_wp2_with fail
                refine (hrdx).mono ?_
                rintro e w3 ⟨rfl, hrd3, hc3⟩
                go_wp2_with fail
                refine (err_ok r v bs (a + 2 + n) _ hrd3).mono ?_
                rintro e w4 ⟨rfl, nq, rfl⟩
                have hrd4 := hrd3.drewN nq
                go_wp2_with fail
                refine (at_any r v bs (a + 2 + n) false _ hrd4).mono ?_
                rintro e w5 ⟨rfl, hw5⟩
                have hw5 := hw5.symm
                subst hw5
                go_wp2_with fail
                refine (left_any' r v bs (a + 2 + n) false _ hrd4 ((bs.length : Int) - ((a : Int) + (2 + (n : Int)))) (by simp <;> omega)).mono ?_
                rintro e w6 ⟨rfl, nq2, rfl⟩
                go_wp2
                go_roundw
                case rel => exact ⟨k + 1, a + 2 + n, false, by omega, by go_num, by go_num, rfl, hrd3.drewN _, ((hcr.alloc _).chain hc3 (fun i hi x => by have := hr1; omega)).drewN _⟩
                case measure => simp [intOf]; omega
              · simp only [if_neg hca] at hconv
                rw [hq] at hrn
                clear hq
                go_wp2_with fail
                refine hrn.mono ?_
                rintro e w2 ⟨rfl, hw2⟩
                have hw2 := hw2.symm
                subst hw2
                -- NEQ
                go_wp2_with fail
                refine hgu.mono ?_
                rintro e w7 ⟨rfl, hw7⟩
                have hw7 := hw7.symm
                subst hw7

                go_wp2_with fail
                refine (hrdx).mono ?_
                rintro e w3 ⟨rfl, hrd3, hc3⟩
                go_wp2_with fail
                refine (err_ok r v bs (a + 2 + n) _ hrd3).mono ?_
                rintro e w4 ⟨rfl, nq, rfl⟩
                have hrd4 := hrd3.drewN nq
                go_wp2_with fail
                refine (at_any r v bs (a + 2 + n) false _ hrd4).mono ?_
                rintro e w5 ⟨rfl, hw5⟩
                have hw5 := hw5.symm
                subst hw5
                go_wp2_with fail
                refine (left_any' r v bs (a + 2 + n) false _ hrd4 ((bs.length : Int) - ((a : Int) + (2 + (n : Int)))) (by simp <;> omega)).mono ?_
                rintro e w6 ⟨rfl, nq2, rfl⟩
                go_wp2
                go_roundw
                case rel => exact ⟨k + 1, a + 2 + n, false, by omega, by go_num, by go_num, rfl, hrd3.drewN _, ((hcr.alloc _).chain hc3 (fun i hi x => by have := hr1; omega)).drewN _⟩
                case measure => simp [intOf]; omega
            · have hok2 : decide ((n : Int) ≤ (bs.length : Int) - (a : Int) - 2) = false := by simp; omega
              have hrdx := text_fail2 r v bs a _ (hrdr.alloc (.cells #[.int .i64 0, .int .i64 1, .int .i64 2, .int .i64 4, .int .i64 2] 3)) (by omega) (by rw [hn]; omega)
              clear hn hbd hclr hcl
              rw [hq] at hrn
              clear hq
              go_wp2_with fail
              refine hrn.mono ?_
              rintro e w2 ⟨rfl, hw2⟩
              have hw2 := hw2.symm
              subst hw2

              go_wp2_with fail
              refine hgu.mono ?_
              rintro e w7 ⟨rfl, hw7⟩
              have hw7 := hw7.symm
              subst hw7

              go_wp2_with fail
              refine (hrdx).mono ?_
              rintro e w3 ⟨rfl, hrd3, hc3⟩
              go_wp2_with fail
              refine (err_failed r v bs a _ hrd3).mono ?_
              rintro e w4 ⟨rfl, nq, rfl⟩
              have hrd4 := hrd3.drewN nq
              go_wp2_with fail
              refine (at_any r v bs a true _ hrd4).mono ?_
              rintro e w5 ⟨rfl, hw5⟩
              have hw5 := hw5.symm
              subst hw5
              go_wp2_with fail
              refine (left_failed r v bs a _ hrd4).mono ?_
              rintro e w6 ⟨rfl, hw6⟩
              have hw6 := hw6.symm
              subst hw6
              go_wp2
              go_roundw
              case rel => exact ⟨k + 1, a, true, by omega, by go_num, rfl, rfl, hrd4, ((hcr.alloc _).chain hc3 (fun i hi x => by have := hr1; omega)).drewN nq⟩
              case measure => simp [intOf]; omega
    · obtain rfl : k = len1 := by omega
      go_wp2_with (first | (go_at_call 20; refine (err_nil _).mono ?_; rintro e w2 ⟨rfl, rfl⟩) | (go_at_call 16; refine (u1_nil _).mono ?_; rintro e w2 ⟨rfl, rfl⟩) | (go_at_call 19; refine (text_nil _).mono ?_; rintro e w2 ⟨rfl, rfl⟩) | (go_at_call 22; refine (left_nil _).mono ?_; rintro e w2 ⟨rfl, rfl⟩) | (go_at_call 21; refine (at_nil _).mono ?_; rintro e w2 ⟨rfl, rfl⟩) | (go_at_call 8; refine (awake_any _).mono ?_; rintro e w9 ⟨rfl, h9⟩))
      go_ret
      exact ⟨rfl, hcr.chain h9 (fun _ _ x => x)⟩

end Go.Proofs.Ytgjddpfijnmeeaa
