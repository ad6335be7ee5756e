/- ResolveNear, walked. -/
/- Classes that came in, opened. -/
/- Bools that came in, opened. -/
import Derived.Test.YthmepecmeambmaaGreatKLnB
import Derived.Test.YthmepecmeambmaaGreatKLyG
import Derived.Test.YthmepecmeambmaaGreatKLoB
import Derived.Test.YthmepecmeambmaaGreatRows
import Derived.Test.YthmepecmeambmaaGreatKLkL
import Derived.Test.YthmepecmeambmaaGreatKClP
import Derived.WalkKit
import Derived.ProofKit
import Derived.OpenShut
import Derived.ShutString
import Derived.ChangeOld
import Derived.Below
import Derived.Deep.Slices
namespace Go.Proofs.YthmepecmeambmaaGreat
open Go.RowKit
set_option linter.unusedVariables false

theorem set_keep {w : World} {g i b : Nat} {u : Value} {o : Obj} (h : w.heap[b]? = some o) (hne : b ≠ g) : (w.setCell ⟨g, i, none⟩ u).heap[b]? = some o := (Below.heap_setCell _ _ _ _ (fun e => hne e)).trans h

theorem nameK_ne : ∀ i, i < 15 → nameK i ≠ ⟨#[]⟩ := by decide +kernel
theorem empty_of2 {W : ByteArray} (h : W.data.toList = []) : W = ⟨#[]⟩ := by
  cases W with
  | mk d => cases d; simp_all
theorem empty_of {W : ByteArray} (h : W.toList = []) : W = ⟨#[]⟩ := empty_of2 ((ByteArray.toList_eq W).symm.trans h)

set_option maxHeartbeats 32000000 in
set_option maxRecDepth 100000 in
theorem near_walk21 (hs : List Bool) (at' : Int) (st : Bool) (v : Value) (w : World) (hv : Sl 1 RB w v hs) : Calls Tryz.prog 21 #[v, .int .i64 at', .bool st] w fun e w' => e = .returned (.bool true) ∧ Ch w w' := by
  have HV : Hid (∀ w', Ch w w' → Sl 1 RB w' v hs) := fun w' k => hv.keep (fun _ _ x => x) k
  obtain ⟨ao, cl, rfl, _, _⟩ := hv.form
  clear hv
  by_cases hz : hs.length = 0
  · have t0 : ((hs.length : Int) == 0) = true := by rw [hz]; rfl
    clear hz
    go_enter Tryz.func21, Tryz.ntmps21
    go_wp2_with (first
      | (go_at_call 60; (with_reducible refine (awake8 _).mono ?_); rintro e w2 ⟨rfl, c2⟩)
      | fail)
    go_ret
    exact ⟨rfl, c2⟩
  have t0 : ((hs.length : Int) == 0) = false := by rw [beq_eq_false_iff_ne]; omega
  by_cases hb : 15 < hs.length
  · have t1 : decide ((15 : Int) < (hs.length : Int)) = true := by simp; omega
    go_enter Tryz.func21, Tryz.ntmps21
    go_wp2_with (first
      | (go_at_call 60; (with_reducible refine (awake8 _).mono ?_); rintro e w2 ⟨rfl, c2⟩)
      | fail)
    go_ret
    exact ⟨rfl, c2⟩
  have t1 : decide ((15 : Int) < (hs.length : Int)) = false := by simp; omega
  have hn : hs.length ≤ 15 := by omega
  have hn0 : 0 < hs.length := by omega
  obtain ⟨h, hh⟩ : ∃ h : Nat → Bool, h = fun i => hs.getD i false := ⟨_, rfl⟩
  have HB : Hid (∀ i, i < hs.length → hs[i]? = some (h i)) := fun i hi => by subst hh; simp [List.getD, hi]
  clear hh hb hz
  go_enter Tryz.func21, Tryz.ntmps21
  go_wp2_with fail
  go_loopw [8, 9, 10] (fun s l i wr => ∃ j : Nat, j ≤ hs.length ∧ i = .int .i64 j ∧ s = .string (supK j) ∧ Oc w.heap.size wr l (near st h j) ∧ Ch w wr) (fun _ _ i _ => hs.length - (intOf i).toNat)
  case atStart => exact ⟨0, Nat.zero_le _, rfl, rfl, Ow.nil, Ch.refl _⟩
  case round =>
    obtain ⟨j, hj, rfl, rfl, hO, hcr⟩ := hrel
    by_cases hlt : j < hs.length
    · obtain ⟨ai, ci, hform⟩ := Ow.form hO
      rw [near_len] at hform
      subst hform
      have hsz := hcr.size
      have HO : Hid (Oc w.heap.size wr (.slice ai j ci) (near st h j)) := hO
      have HC : Hid (Ch w wr) := hcr
      have hbj := HB.out j hlt
      have HNM : Hid (∀ w', Calls Tryz.prog 76 #[.int .i64 (j : Int)] w' fun e w2 => e = .returned (.string (nameK j)) ∧ Ch w' w2) := fun w' => nmN_any j w' (by omega)
      have HJ : Hid (j + 1 ≤ hs.length) := (by omega : j + 1 ≤ hs.length)
      have z1 := nameK_size j
      have HSV : Hid (∀ w', Ch w w' → ∃ g off, ao = some ⟨g, off, none⟩ ∧ w'.cell? ⟨g, off + j, none⟩ = some (.bool (h j))) := fun w' k => (HV.out w' k).atB hbj
      obtain ⟨gb, offb, eb, _⟩ := HSV.out wr hcr
      subst eb
      have HSB : Hid (∀ w', Ch w w' → w'.cell? ⟨gb, offb + j, none⟩ = some (.bool (h j))) := fun w' k => by
        obtain ⟨g', o', e, q⟩ := HSV.out w' k
        cases e
        exact q
      have HSC : Hid (near st h (j + 1) = near st h j ++ [nearB st (h j) j]) := near_succ st h j
      have HLN : Hid ((near st h j).length + 1 ≤ 1000) := (show _ ≤ _ by rw [near_len]; omega)
      clear hO hcr hbj HSV
      generalize h j = bj at *
      cases bj with
      | false =>
        go_wp2_with (first
          | (go_at_call 76; have ho7 := o6; (with_reducible refine (HNM.out _).mono ?_); rintro e w7 ⟨rfl, c7⟩)
          | (go_at_call 76; (with_reducible refine (HNM.out _).mono ?_); rintro e w3 ⟨rfl, c3⟩; have T0 := Bo.new (HC.out.trans c3) #[.string ⟨#[]⟩, .string ⟨#[]⟩, .bool false, .bool false, .slice none 0 0, .slice none 0 0, .slice none 0 0] 41)
          | (refine wpList_store_row rfl 41 (.tmp 11) (.tmp 49) rfl w3.heap.size #[.string (nameK j), .string (supK j), .bool false, .bool false, .slice none 0 0, .slice none 0 0, .slice none 0 0] rfl rfl 41 _ T0.b infoC rfl (one7 _ _ _ _ _ _ _ _ _ _ _ _ _) ?_; have T1 := T0.setRow #[.string (nameK j), .string (supK j), .bool false, .bool false, .slice none 0 0, .slice none 0 0, .slice none 0 0]; have kc : Ch wr ((w3.alloc (.cells #[.string ⟨#[]⟩, .string ⟨#[]⟩, .bool false, .bool false, .slice none 0 0, .slice none 0 0, .slice none 0 0] 41)).setRow w3.heap.size #[.string (nameK j), .string (supK j), .bool false, .bool false, .slice none 0 0, .slice none 0 0, .slice none 0 0]) := (c3.alloc _).setRow w3.heap.size #[.string (nameK j), .string (supK j), .bool false, .bool false, .slice none 0 0, .slice none 0 0, .slice none 0 0] c3.size; have sb := HSB.out _ T1.ch; have HT1 : Hid (Ch w ((w3.alloc (.cells #[.string ⟨#[]⟩, .string ⟨#[]⟩, .bool false, .bool false, .slice none 0 0, .slice none 0 0, .slice none 0 0] 41)).setRow w3.heap.size #[.string (nameK j), .string (supK j), .bool false, .bool false, .slice none 0 0, .slice none 0 0, .slice none 0 0])) := T1.ch; have q0 := T1.c 0 rfl; have q1 := T1.c 1 rfl; have q2 := T1.c 2 rfl; have q3 := T1.c 3 rfl; have q4 := T1.c 4 rfl; have q5 := T1.c 5 rfl; have q6 := T1.c 6 rfl; have hs1 := T1.ch.size; clear T0 T1)
          | (at_builtin; refine (Oc.keep (Oc.keep HO.out kc) ((Ch.refl _).alloc _)).append (NL := [nearB st false j]) rfl (.tmp 64) (.tmp 66) rfl rfl (fun _ => [.string (nameK j), .string (supK j), .bool false, .bool false, .slice none 0 0, .slice none 0 0, .slice none 0 0]) (fun i c' hi => ?_) (fun _ => rfl) _ 1 1 rfl rfl (alloc_at _ _ _ (by simp)) HLN.out (Nat.le_trans hs1 ((Ch.refl _).alloc _).size) (Nat.le_refl _) (HT1.out.alloc _) ?_; (match i, hi with | 0, hi => cases hi; exact ⟨_, _, _, rfl, ⟨Ow.nil, Ow.nil, Ow.nil⟩⟩); intro v6 w6 o6 c6 b6)
          | fail)
        exact ⟨⟨j + 1, HJ.out, by go_num, rfl, by rw [HSC.out]; exact o6.keep c7, c6.trans c7⟩, by simp [intOf]; omega⟩
      | true =>
        go_wp2_with (first
          | (go_at_call 76; have ho7 := o6; (with_reducible refine (HNM.out _).mono ?_); rintro e w7 ⟨rfl, c7⟩)
          | (go_at_call 76; (with_reducible refine (HNM.out _).mono ?_); rintro e w3 ⟨rfl, c3⟩; have T0 := Bo.new (HC.out.trans c3) #[.string ⟨#[]⟩, .string ⟨#[]⟩, .bool false, .bool false, .slice none 0 0, .slice none 0 0, .slice none 0 0] 41)
          | (refine wpList_store_row rfl 41 (.tmp 11) (.tmp 49) rfl w3.heap.size #[.string (nameK j), .string (supK j), .bool false, .bool false, .slice none 0 0, .slice none 0 0, .slice none 0 0] rfl rfl 41 _ T0.b infoC rfl (one7 _ _ _ _ _ _ _ _ _ _ _ _ _) ?_; have T1 := T0.setRow #[.string (nameK j), .string (supK j), .bool false, .bool false, .slice none 0 0, .slice none 0 0, .slice none 0 0]; have k1 : Ch wr ((w3.alloc (.cells #[.string ⟨#[]⟩, .string ⟨#[]⟩, .bool false, .bool false, .slice none 0 0, .slice none 0 0, .slice none 0 0] 41)).setRow w3.heap.size #[.string (nameK j), .string (supK j), .bool false, .bool false, .slice none 0 0, .slice none 0 0, .slice none 0 0]) := (c3.alloc (.cells #[.string ⟨#[]⟩, .string ⟨#[]⟩, .bool false, .bool false, .slice none 0 0, .slice none 0 0, .slice none 0 0] 41)).setRow w3.heap.size #[.string (nameK j), .string (supK j), .bool false, .bool false, .slice none 0 0, .slice none 0 0, .slice none 0 0] c3.size; have hs0 : ((w3.alloc (.cells #[.string ⟨#[]⟩, .string ⟨#[]⟩, .bool false, .bool false, .slice none 0 0, .slice none 0 0, .slice none 0 0] 41)).setRow w3.heap.size #[.string (nameK j), .string (supK j), .bool false, .bool false, .slice none 0 0, .slice none 0 0, .slice none 0 0]).heap.size = w3.heap.size + 1 := (by simp); clear T0; generalize ((w3.alloc (.cells #[.string ⟨#[]⟩, .string ⟨#[]⟩, .bool false, .bool false, .slice none 0 0, .slice none 0 0, .slice none 0 0] 41)).setRow w3.heap.size #[.string (nameK j), .string (supK j), .bool false, .bool false, .slice none 0 0, .slice none 0 0, .slice none 0 0]) = x1 at *; have sb := HSB.out _ T1.ch; have hwb := (HC.out.trans c3).size; have hw3 := c3.size; have T2 := T1.call ((Ch.refl _).alloc (.cells #[.string nF, .string nI, .bool st] 103)); have p5 := T2.c 5 rfl; have f5 := T2.fz 5; have T3 := T2.set 5 (.slice (some ⟨x1.heap.size, 0, none⟩) 1 1); have T4 := T3.call ((Ch.refl _).alloc (.cells #[.int .i64 36, .int .i64 0, .int .i64 0, .string ⟨#[]⟩, .string ⟨#[]⟩, .string ⟨#[]⟩] 62)); have T5 := T4.call ((Ch.refl _).alloc (.cells #[.string nM, .string wV, .bool st, .bool false, .int .i64 0, .int .i64 1, .slice (some ⟨x1.heap.size + 1, 0, none⟩) 1 1, .slice none 0 0] 66)); have p6 := T5.c 6 rfl; have f6 := T5.fz 6; have T6 := T5.set 6 (.slice (some ⟨x1.heap.size + 2, 0, none⟩) 1 1); have q0 := T6.c 0 rfl; have q1 := T6.c 1 rfl; have q2 := T6.c 2 rfl; have q3 := T6.c 3 rfl; have q4 := T6.c 4 rfl; have q5 := T6.c 5 rfl; have q6 := T6.c 6 rfl;
              have F2 : (x1.alloc (.cells #[.string nF, .string nI, .bool st] 103)).heap[x1.heap.size]? = some (.cells #[.string nF, .string nI, .bool st] 103) := alloc_at _ _ _ rfl; have F6 : (((((x1.alloc (.cells #[.string nF, .string nI, .bool st] 103)).setCell ⟨w3.heap.size, 5, none⟩ (.slice (some ⟨x1.heap.size, 0, none⟩) 1 1)).alloc (.cells #[.int .i64 36, .int .i64 0, .int .i64 0, .string ⟨#[]⟩, .string ⟨#[]⟩, .string ⟨#[]⟩] 62)).alloc (.cells #[.string nM, .string wV, .bool st, .bool false, .int .i64 0, .int .i64 1, .slice (some ⟨x1.heap.size + 1, 0, none⟩) 1 1, .slice none 0 0] 66)).setCell ⟨w3.heap.size, 6, none⟩ (.slice (some ⟨x1.heap.size + 2, 0, none⟩) 1 1)).heap[x1.heap.size]? = some (.cells #[.string nF, .string nI, .bool st] 103) := set_keep (al_keep (al_keep (set_keep F2 (by omega)))) (by omega);
              have I4 : (((x1.alloc (.cells #[.string nF, .string nI, .bool st] 103)).setCell ⟨w3.heap.size, 5, none⟩ (.slice (some ⟨x1.heap.size, 0, none⟩) 1 1)).alloc (.cells #[.int .i64 36, .int .i64 0, .int .i64 0, .string ⟨#[]⟩, .string ⟨#[]⟩, .string ⟨#[]⟩] 62)).heap[x1.heap.size + 1]? = some (.cells #[.int .i64 36, .int .i64 0, .int .i64 0, .string ⟨#[]⟩, .string ⟨#[]⟩, .string ⟨#[]⟩] 62) := alloc_at _ _ _ (by simp); have I6 : (((((x1.alloc (.cells #[.string nF, .string nI, .bool st] 103)).setCell ⟨w3.heap.size, 5, none⟩ (.slice (some ⟨x1.heap.size, 0, none⟩) 1 1)).alloc (.cells #[.int .i64 36, .int .i64 0, .int .i64 0, .string ⟨#[]⟩, .string ⟨#[]⟩, .string ⟨#[]⟩] 62)).alloc (.cells #[.string nM, .string wV, .bool st, .bool false, .int .i64 0, .int .i64 1, .slice (some ⟨x1.heap.size + 1, 0, none⟩) 1 1, .slice none 0 0] 66)).setCell ⟨w3.heap.size, 6, none⟩ (.slice (some ⟨x1.heap.size + 2, 0, none⟩) 1 1)).heap[x1.heap.size + 1]? = some (.cells #[.int .i64 36, .int .i64 0, .int .i64 0, .string ⟨#[]⟩, .string ⟨#[]⟩, .string ⟨#[]⟩] 62) := set_keep (al_keep I4) (by omega);
              have M5 : ((((x1.alloc (.cells #[.string nF, .string nI, .bool st] 103)).setCell ⟨w3.heap.size, 5, none⟩ (.slice (some ⟨x1.heap.size, 0, none⟩) 1 1)).alloc (.cells #[.int .i64 36, .int .i64 0, .int .i64 0, .string ⟨#[]⟩, .string ⟨#[]⟩, .string ⟨#[]⟩] 62)).alloc (.cells #[.string nM, .string wV, .bool st, .bool false, .int .i64 0, .int .i64 1, .slice (some ⟨x1.heap.size + 1, 0, none⟩) 1 1, .slice none 0 0] 66)).heap[x1.heap.size + 2]? = some (.cells #[.string nM, .string wV, .bool st, .bool false, .int .i64 0, .int .i64 1, .slice (some ⟨x1.heap.size + 1, 0, none⟩) 1 1, .slice none 0 0] 66) := alloc_at _ _ _ (by simp); have M6 : (((((x1.alloc (.cells #[.string nF, .string nI, .bool st] 103)).setCell ⟨w3.heap.size, 5, none⟩ (.slice (some ⟨x1.heap.size, 0, none⟩) 1 1)).alloc (.cells #[.int .i64 36, .int .i64 0, .int .i64 0, .string ⟨#[]⟩, .string ⟨#[]⟩, .string ⟨#[]⟩] 62)).alloc (.cells #[.string nM, .string wV, .bool st, .bool false, .int .i64 0, .int .i64 1, .slice (some ⟨x1.heap.size + 1, 0, none⟩) 1 1, .slice none 0 0] 66)).setCell ⟨w3.heap.size, 6, none⟩ (.slice (some ⟨x1.heap.size + 2, 0, none⟩) 1 1)).heap[x1.heap.size + 2]? = some (.cells #[.string nM, .string wV, .bool st, .bool false, .int .i64 0, .int .i64 1, .slice (some ⟨x1.heap.size + 1, 0, none⟩) 1 1, .slice none 0 0] 66) := set_keep M5 (by omega);
              have OWf : Ow 3 103 RF w.heap.size (((((x1.alloc (.cells #[.string nF, .string nI, .bool st] 103)).setCell ⟨w3.heap.size, 5, none⟩ (.slice (some ⟨x1.heap.size, 0, none⟩) 1 1)).alloc (.cells #[.int .i64 36, .int .i64 0, .int .i64 0, .string ⟨#[]⟩, .string ⟨#[]⟩, .string ⟨#[]⟩] 62)).alloc (.cells #[.string nM, .string wV, .bool st, .bool false, .int .i64 0, .int .i64 1, .slice (some ⟨x1.heap.size + 1, 0, none⟩) 1 1, .slice none 0 0] 66)).setCell ⟨w3.heap.size, 6, none⟩ (.slice (some ⟨x1.heap.size + 2, 0, none⟩) 1 1)) (.slice (some ⟨x1.heap.size, 0, none⟩) 1 1) [nearF st] := Ow.one F6 (by omega) rfl rfl; have OWi : Ow 6 62 RI w.heap.size (((((x1.alloc (.cells #[.string nF, .string nI, .bool st] 103)).setCell ⟨w3.heap.size, 5, none⟩ (.slice (some ⟨x1.heap.size, 0, none⟩) 1 1)).alloc (.cells #[.int .i64 36, .int .i64 0, .int .i64 0, .string ⟨#[]⟩, .string ⟨#[]⟩, .string ⟨#[]⟩] 62)).alloc (.cells #[.string nM, .string wV, .bool st, .bool false, .int .i64 0, .int .i64 1, .slice (some ⟨x1.heap.size + 1, 0, none⟩) 1 1, .slice none 0 0] 66)).setCell ⟨w3.heap.size, 6, none⟩ (.slice (some ⟨x1.heap.size + 2, 0, none⟩) 1 1)) (.slice (some ⟨x1.heap.size + 1, 0, none⟩) 1 1) [wIns] := Ow.one I6 (by omega) rfl rfl; have OWm : Ow 8 66 (RMo w.heap.size) w.heap.size (((((x1.alloc (.cells #[.string nF, .string nI, .bool st] 103)).setCell ⟨w3.heap.size, 5, none⟩ (.slice (some ⟨x1.heap.size, 0, none⟩) 1 1)).alloc (.cells #[.int .i64 36, .int .i64 0, .int .i64 0, .string ⟨#[]⟩, .string ⟨#[]⟩, .string ⟨#[]⟩] 62)).alloc (.cells #[.string nM, .string wV, .bool st, .bool false, .int .i64 0, .int .i64 1, .slice (some ⟨x1.heap.size + 1, 0, none⟩) 1 1, .slice none 0 0] 66)).setCell ⟨w3.heap.size, 6, none⟩ (.slice (some ⟨x1.heap.size + 2, 0, none⟩) 1 1)) (.slice (some ⟨x1.heap.size + 2, 0, none⟩) 1 1) [nearM st] := Ow.one M6 (by omega) rfl ⟨_, _, rfl, OWi, Ow.nil⟩;
              have OWC : Hid (OwC w.heap.size (((((x1.alloc (.cells #[.string nF, .string nI, .bool st] 103)).setCell ⟨w3.heap.size, 5, none⟩ (.slice (some ⟨x1.heap.size, 0, none⟩) 1 1)).alloc (.cells #[.int .i64 36, .int .i64 0, .int .i64 0, .string ⟨#[]⟩, .string ⟨#[]⟩, .string ⟨#[]⟩] 62)).alloc (.cells #[.string nM, .string wV, .bool st, .bool false, .int .i64 0, .int .i64 1, .slice (some ⟨x1.heap.size + 1, 0, none⟩) 1 1, .slice none 0 0] 66)).setCell ⟨w3.heap.size, 6, none⟩ (.slice (some ⟨x1.heap.size + 2, 0, none⟩) 1 1)) (nearB st true j) (.slice none 0 0) (.slice (some ⟨x1.heap.size, 0, none⟩) 1 1) (.slice (some ⟨x1.heap.size + 2, 0, none⟩) 1 1)) := ⟨Ow.nil, OWf, OWm⟩; have HT6 : Hid (Ch w (((((x1.alloc (.cells #[.string nF, .string nI, .bool st] 103)).setCell ⟨w3.heap.size, 5, none⟩ (.slice (some ⟨x1.heap.size, 0, none⟩) 1 1)).alloc (.cells #[.int .i64 36, .int .i64 0, .int .i64 0, .string ⟨#[]⟩, .string ⟨#[]⟩, .string ⟨#[]⟩] 62)).alloc (.cells #[.string nM, .string wV, .bool st, .bool false, .int .i64 0, .int .i64 1, .slice (some ⟨x1.heap.size + 1, 0, none⟩) 1 1, .slice none 0 0] 66)).setCell ⟨w3.heap.size, 6, none⟩ (.slice (some ⟨x1.heap.size + 2, 0, none⟩) 1 1))) := T6.ch; have HS1 : Hid (w.heap.size ≤ (((((x1.alloc (.cells #[.string nF, .string nI, .bool st] 103)).setCell ⟨w3.heap.size, 5, none⟩ (.slice (some ⟨x1.heap.size, 0, none⟩) 1 1)).alloc (.cells #[.int .i64 36, .int .i64 0, .int .i64 0, .string ⟨#[]⟩, .string ⟨#[]⟩, .string ⟨#[]⟩] 62)).alloc (.cells #[.string nM, .string wV, .bool st, .bool false, .int .i64 0, .int .i64 1, .slice (some ⟨x1.heap.size + 1, 0, none⟩) 1 1, .slice none 0 0] 66)).setCell ⟨w3.heap.size, 6, none⟩ (.slice (some ⟨x1.heap.size + 2, 0, none⟩) 1 1)).heap.size) := T6.ch.size; have KC : Hid (Ch wr (((((x1.alloc (.cells #[.string nF, .string nI, .bool st] 103)).setCell ⟨w3.heap.size, 5, none⟩ (.slice (some ⟨x1.heap.size, 0, none⟩) 1 1)).alloc (.cells #[.int .i64 36, .int .i64 0, .int .i64 0, .string ⟨#[]⟩, .string ⟨#[]⟩, .string ⟨#[]⟩] 62)).alloc (.cells #[.string nM, .string wV, .bool st, .bool false, .int .i64 0, .int .i64 1, .slice (some ⟨x1.heap.size + 1, 0, none⟩) 1 1, .slice none 0 0] 66)).setCell ⟨w3.heap.size, 6, none⟩ (.slice (some ⟨x1.heap.size + 2, 0, none⟩) 1 1))) := ((((k1.alloc (.cells #[.string nF, .string nI, .bool st] 103)).put (.slice (some ⟨x1.heap.size, 0, none⟩) 1 1) c3.size).alloc (.cells #[.int .i64 36, .int .i64 0, .int .i64 0, .string ⟨#[]⟩, .string ⟨#[]⟩, .string ⟨#[]⟩] 62)).alloc (.cells #[.string nM, .string wV, .bool st, .bool false, .int .i64 0, .int .i64 1, .slice (some ⟨x1.heap.size + 1, 0, none⟩) 1 1, .slice none 0 0] 66)).put (.slice (some ⟨x1.heap.size + 2, 0, none⟩) 1 1) c3.size; clear T1 T2 T3 T4 T5 T6 F2 F6 I4 I6 M5 M6 OWf OWi OWm k1 hs0 hwb hw3)
          | (at_builtin; refine (Oc.keep (Oc.keep HO.out KC.out) ((Ch.refl _).alloc _)).append (NL := [nearB st true j]) rfl (.tmp 64) (.tmp 66) rfl rfl (fun _ => [.string (nameK j), .string (supK j), .bool false, .bool false, .slice none 0 0, (.slice (some ⟨x1.heap.size, 0, none⟩) 1 1), (.slice (some ⟨x1.heap.size + 2, 0, none⟩) 1 1)]) (fun i c' hi => ?_) (fun _ => rfl) _ 1 1 rfl rfl (alloc_at _ _ _ (by simp)) HLN.out (Nat.le_trans HS1.out ((Ch.refl _).alloc _).size) (Nat.le_refl _) (HT6.out.alloc _) ?_; (match i, hi with | 0, hi => cases hi; exact ⟨_, _, _, rfl, OWC.out.keep ((Ch.refl _).alloc _)⟩); intro v6 w6 o6 c6 b6)
          | fail)
        exact ⟨⟨j + 1, HJ.out, by go_num, rfl, by rw [HSC.out]; exact o6.keep c7, c6.trans c7⟩, by simp [intOf]; omega⟩
    · obtain rfl : j = hs.length := by omega
      have hcl := classes_any (near st h hs.length) _ wr (Oc.rc hO) (near_okc hn)
      rw [near_yes hn] at hcl
      have hO0 := hO
      obtain ⟨ai, ci, rfl⟩ := Ow.form hO
      have HTP : Hid (okCs (prog (near st h hs.length))) := okc_prog (near_okc hn)
      have HGD : Hid (Gd (prog (near st h hs.length))) := near_gd hn
      have hkl := pl_lt at' hs.length hn0
      have hrd := place_any at' hs.length
      have HF1 := near_F (st := st) (h := h) hn hkl
      have HF2 := near_Fs (st := st) (h := h) hn hkl
      have HF3 := near_Fc (st := st) (h := h) hn hkl
      have HM1 := near_M (st := st) (h := h) hn hkl
      have HD1 := near_D (st := st) (h := h) hn hkl
      generalize hP : prog (near st h hs.length) = P at *
      generalize pl at' hs.length = k at *
      have HRD : Hid (∀ w, Calls Tryz.prog 38 #[.int .i64 at', .int .i64 (hs.length : Int)] w fun e w' => e = .returned (.int .i64 (k : Int)) ∧ w' = w) := fun w => hrd w hn0 (by omega)
      have H1 : Hid _ := HF1
      have H2 : Hid _ := HF2
      have H3 : Hid _ := HF3
      have H4 : Hid _ := HM1
      have H5 : Hid _ := HD1
      have HC : Hid (Ch w wr) := hcr
      clear HF1 HF2 HF3 HM1 HD1 hrd hP hO hO0 hcr
      go_wp2_with (first
        | (go_at_call 24; (with_reducible refine hcl.mono ?_); clear hcl; rintro e w2 ⟨u, rfl, ⟨gp, bp, rfl, hm⟩, c2⟩)
        | (go_at_call 38; (with_reducible refine (HRD.out _).mono ?_); rintro e w4 ⟨rfl, hw⟩; have hw := hw.symm; subst hw)
        | fail)
      have HPm : Hid (∀ w', Ch w2 w' → Pm w' gp bp P) := fun w' kk => hm.keep kk
      have HW2 : Hid (Ch w w2) := HC.out.trans c2
      clear hm c2 HRD
      go_loopw [16, 17] (fun wv i wr => ∃ j : Nat, j ≤ k + 1 ∧ i = .int .i64 j ∧ wv = .string (wantP h j) ∧ Ch w2 wr) (fun _ i _ => k + 1 - (intOf i).toNat)
      case atStart => exact ⟨0, Nat.zero_le _, rfl, rfl, Ch.refl _⟩
      case round =>
        obtain ⟨j, hj, rfl, rfl, hcr⟩ := hrel
        by_cases hlt2 : j < k + 1
        · have hjl : j < hs.length := by omega
          have hle : (j : Int) ≤ (k : Int) := by omega
          have tle : decide ((j : Int) ≤ (k : Int)) = true := by simpa using hle
          obtain ⟨gb, offb, eb, sb⟩ := (HV.out wr (HW2.out.trans hcr)).atB (HB.out j hjl)
          subst eb
          have HNM : Hid (∀ w', Calls Tryz.prog 76 #[.int .i64 (j : Int)] w' fun e w2 => e = .returned (.string (nameK j)) ∧ Ch w' w2) := fun w' => nmN_any j w' (by omega)
          have HWS : Hid (wantP h (j + 1) = if h j then nameK j else wantP h j) := rfl
          generalize h j = bj at *
          cases bj with
          | false =>
            go_wp2_with fail
            go_roundw
            case rel => exact ⟨j + 1, by omega, by go_num, by rw [HWS.out]; rfl, hcr⟩
            case measure => simp [intOf]; omega
          | true =>
            go_wp2_with (first
              | (go_at_call 76; (with_reducible refine (HNM.out _).mono ?_); rintro e w5 ⟨rfl, c5⟩)
              | fail)
            go_roundw
            case rel => exact ⟨j + 1, by omega, by go_num, by rw [HWS.out]; rfl, hcr.trans c5⟩
            case measure => simp [intOf]; omega
        · obtain rfl : j = k + 1 := by omega
          have t2 : decide (((k + 1 : Nat) : Int) ≤ (k : Int)) = false := decide_eq_false (by omega)
          have t3 : decide ((k : Int) + 1 ≤ (k : Int)) = false := decide_eq_false (by omega)
          have HNK : Hid (∀ w', Calls Tryz.prog 76 #[.int .i64 (k : Int)] w' fun e w2 => e = .returned (.string (nameK k)) ∧ Ch w' w2) := fun w' => nmN_any k w' (by omega)
          have F1 := H1.out
          have F2 := H2.out
          have F3 := H3.out
          have F4 := H4.out
          have F5 := H5.out
          have hA0 : anyP h (k + 1) = false → wantP h (k + 1) = ⟨#[]⟩ := fun e => wantP_no e
          have hA1 : anyP h (k + 1) = true → ∃ i, i < k + 1 ∧ wantP h (k + 1) = nameK i := fun e => wantP_is e
          generalize anyP h (k + 1) = a at *
          generalize wantP h (k + 1) = W at *
          have hA1' : a = true → W ≠ ⟨#[]⟩ := fun e => by
            obtain ⟨i, hi, rfl⟩ := hA1 e
            exact nameK_ne i (by omega)
          clear hA1 H1 H2 H3 H4 H5
          have K0 : Hid (Ch w2 wr) := hcr
          clear hcr
          cases a with
          | false =>
            obtain rfl := hA0 rfl
            cases st with
            | false =>
              have C1 : Hid (∀ w', Ch w2 w' → Calls Tryz.prog 62 #[.pointer (some ⟨gp, 0, none⟩), .string (nameK k), .string ⟨#[102]⟩, .string ⟨#[73]⟩, .bool false] w' fun e w'' => e = .returned (.tuple #[.string ⟨#[]⟩, .int .i64 8]) ∧ Ch w' w'') := fun w' kk => by have q := fieldP_any (nameK k) nF nI false P gp bp w' (HPm.out w' kk) HTP.out HGD.out; rw [F1] at q; exact q
              have C2 : Hid (∀ w', Ch w2 w' → Calls Tryz.prog 62 #[.pointer (some ⟨gp, 0, none⟩), .string (nameK k), .string ⟨#[102]⟩, .string ⟨#[73]⟩, .bool true] w' fun e w'' => e = .returned (.tuple #[.string ⟨#[]⟩, .int .i64 8]) ∧ Ch w' w'') := fun w' kk => by have q := fieldP_any (nameK k) nF nI true P gp bp w' (HPm.out w' kk) HTP.out HGD.out; rw [show fst2 (fldF P nF nI true) (abv P (nameK k)) = (⟨#[]⟩, none) from F2] at q; exact q
              have C3 : Hid (∀ w', Ch w2 w' → Calls Tryz.prog 62 #[.pointer (some ⟨gp, 0, none⟩), .string (nameK k), .string ⟨#[102]⟩, .string ⟨#[67]⟩, .bool false] w' fun e w'' => e = .returned (.tuple #[.string ⟨#[]⟩, .int .i64 8]) ∧ Ch w' w'') := fun w' kk => by have q := fieldP_any (nameK k) nF ⟨#[67]⟩ false P gp bp w' (HPm.out w' kk) HTP.out HGD.out; rw [F3] at q; exact q
              have C4 : Hid (∀ w', Ch w2 w' → Calls Tryz.prog 64 #[.pointer (some ⟨gp, 0, none⟩), .string (nameK k), .string ⟨#[109]⟩, .string ⟨#[40, 41, 86]⟩] w' fun e w'' => ∃ v m, e = .returned (.tuple #[.string ⟨#[]⟩, v, .int .i64 8]) ∧ Mw w' w'' v m ∧ Ch w' w'') := fun w' kk => by have q := methodP_any (nameK k) nM wV P gp bp w' (HPm.out w' kk) HTP.out HGD.out; rw [F4] at q; exact q.mono (fun e w' ⟨v, h1, h2, h3⟩ => ⟨v, _, h1, h2, h3⟩)
              have C5 : Hid (∀ w', Ch w2 w' → Calls Tryz.prog 69 #[.pointer (some ⟨gp, 0, none⟩), .string (nameK k), .string ⟨#[109]⟩, .string ⟨#[40, 41, 86]⟩] w' fun e w'' => ∃ v m, e = .returned (.tuple #[.string ⟨#[]⟩, v, .bool false]) ∧ Mw w' w'' v m ∧ Ch w' w'') := fun w' kk => by have q := dispatch_any (nameK k) nM wV P gp bp w' (HPm.out w' kk) HTP.out; rw [F5] at q; exact q.mono (fun e w' ⟨v, h1, h2, h3⟩ => ⟨v, _, h1, h2, h3⟩)
              clear F1 F2 F3 F4 F5 hA0 hA1' HPm HTP HGD
              go_wp2_with (first
                | (go_at_call 76; (with_reducible refine (HNK.out _).mono ?_); rintro e wq ⟨rfl, cq⟩; have K0 : Hid (Ch w2 wq) := K0.out.trans cq)
                | (go_at_call 62; (with_reducible refine (C1.out _ K0.out).mono ?_); rintro e wq ⟨rfl, cq⟩; have K0 : Hid (Ch w2 wq) := K0.out.trans cq; clear C1)
                | (go_at_call 62; (with_reducible refine (C2.out _ K0.out).mono ?_); rintro e wq ⟨rfl, cq⟩; have K0 : Hid (Ch w2 wq) := K0.out.trans cq; clear C2)
                | (go_at_call 62; (with_reducible refine (C3.out _ K0.out).mono ?_); rintro e wq ⟨rfl, cq⟩; have K0 : Hid (Ch w2 wq) := K0.out.trans cq; clear C3)
                | (go_at_call 64; (with_reducible refine (C4.out _ K0.out).mono ?_); rintro e w4 ⟨v4, m4, rfl, ⟨vc4, vh4, rfl, oc, oh⟩, c4⟩; obtain ⟨p4, r4, rfl⟩ := oc.form; obtain ⟨s4, t4, rfl⟩ := oh.form; unfold mV; clear oc oh; have T4 := Bo.new (K0.out.trans c4) #[.string ⟨#[]⟩, .string ⟨#[]⟩, .bool false, .bool false, .int .i64 0, .int .i64 0, .slice none 0 0, .slice none 0 0] 66; clear C4)
                | (refine wpList_store_row rfl 66 (.tmp 21) (.tmp 115) rfl w4.heap.size #[.string m4.n, .string m4.d, .bool m4.st, .bool m4.ab, .int .i64 m4.sk, .int .i64 m4.lo, .slice p4 m4.code.length r4, .slice s4 m4.hs.length t4] rfl rfl 66 _ T4.b infoM rfl (one8 _ _ _ _ _ _ _ _ _ _ _ _) ?_; have K0 : Hid (Ch w2 _) := (T4.setRow #[.string m4.n, .string m4.d, .bool m4.st, .bool m4.ab, .int .i64 m4.sk, .int .i64 m4.lo, .slice p4 m4.code.length r4, .slice s4 m4.hs.length t4]).ch; clear T4)
                | (go_at_call 69; (with_reducible refine (C5.out _ K0.out).mono ?_); rintro e w6 ⟨v6, m6, rfl, ⟨vc6, vh6, rfl, oc, oh⟩, c6⟩; obtain ⟨p6, r6, rfl⟩ := oc.form; obtain ⟨s6, t6, rfl⟩ := oh.form; unfold mV; clear oc oh; have T6 := Bo.new (K0.out.trans c6) #[.string ⟨#[]⟩, .string ⟨#[]⟩, .bool false, .bool false, .int .i64 0, .int .i64 0, .slice none 0 0, .slice none 0 0] 66; clear C5)
                | (refine wpList_store_row rfl 66 (.tmp 24) (.tmp 124) rfl w6.heap.size #[.string m6.n, .string m6.d, .bool m6.st, .bool m6.ab, .int .i64 m6.sk, .int .i64 m6.lo, .slice p6 m6.code.length r6, .slice s6 m6.hs.length t6] rfl rfl 66 _ T6.b infoM rfl (one8 _ _ _ _ _ _ _ _ _ _ _ _) ?_; have K0 : Hid (Ch w2 _) := (T6.setRow #[.string m6.n, .string m6.d, .bool m6.st, .bool m6.ab, .int .i64 m6.sk, .int .i64 m6.lo, .slice p6 m6.code.length r6, .slice s6 m6.hs.length t6]).ch; clear T6)
                | (go_at_call 60; (with_reducible refine (awake8 _).mono ?_); rintro e wq ⟨rfl, cq⟩; have K0 : Hid (Ch w2 wq) := K0.out.trans cq)
                | fail)
              go_ret
              exact ⟨rfl, HW2.out.trans K0.out⟩
            | true =>
              have C1 : Hid (∀ w', Ch w2 w' → Calls Tryz.prog 62 #[.pointer (some ⟨gp, 0, none⟩), .string (nameK k), .string ⟨#[102]⟩, .string ⟨#[73]⟩, .bool true] w' fun e w'' => e = .returned (.tuple #[.string ⟨#[]⟩, .int .i64 8]) ∧ Ch w' w'') := fun w' kk => by have q := fieldP_any (nameK k) nF nI true P gp bp w' (HPm.out w' kk) HTP.out HGD.out; rw [F1] at q; exact q
              have C2 : Hid (∀ w', Ch w2 w' → Calls Tryz.prog 62 #[.pointer (some ⟨gp, 0, none⟩), .string (nameK k), .string ⟨#[102]⟩, .string ⟨#[73]⟩, .bool false] w' fun e w'' => e = .returned (.tuple #[.string ⟨#[]⟩, .int .i64 8]) ∧ Ch w' w'') := fun w' kk => by have q := fieldP_any (nameK k) nF nI false P gp bp w' (HPm.out w' kk) HTP.out HGD.out; rw [show fst2 (fldF P nF nI false) (abv P (nameK k)) = (⟨#[]⟩, none) from F2] at q; exact q
              have C3 : Hid (∀ w', Ch w2 w' → Calls Tryz.prog 62 #[.pointer (some ⟨gp, 0, none⟩), .string (nameK k), .string ⟨#[102]⟩, .string ⟨#[67]⟩, .bool true] w' fun e w'' => e = .returned (.tuple #[.string ⟨#[]⟩, .int .i64 8]) ∧ Ch w' w'') := fun w' kk => by have q := fieldP_any (nameK k) nF ⟨#[67]⟩ true P gp bp w' (HPm.out w' kk) HTP.out HGD.out; rw [F3] at q; exact q
              have C4 : Hid (∀ w', Ch w2 w' → Calls Tryz.prog 64 #[.pointer (some ⟨gp, 0, none⟩), .string (nameK k), .string ⟨#[109]⟩, .string ⟨#[40, 41, 86]⟩] w' fun e w'' => ∃ v m, e = .returned (.tuple #[.string ⟨#[]⟩, v, .int .i64 8]) ∧ Mw w' w'' v m ∧ Ch w' w'') := fun w' kk => by have q := methodP_any (nameK k) nM wV P gp bp w' (HPm.out w' kk) HTP.out HGD.out; rw [F4] at q; exact q.mono (fun e w' ⟨v, h1, h2, h3⟩ => ⟨v, _, h1, h2, h3⟩)
              have C5 : Hid (∀ w', Ch w2 w' → Calls Tryz.prog 69 #[.pointer (some ⟨gp, 0, none⟩), .string (nameK k), .string ⟨#[109]⟩, .string ⟨#[40, 41, 86]⟩] w' fun e w'' => ∃ v m, e = .returned (.tuple #[.string ⟨#[]⟩, v, .bool false]) ∧ Mw w' w'' v m ∧ Ch w' w'') := fun w' kk => by have q := dispatch_any (nameK k) nM wV P gp bp w' (HPm.out w' kk) HTP.out; rw [F5] at q; exact q.mono (fun e w' ⟨v, h1, h2, h3⟩ => ⟨v, _, h1, h2, h3⟩)
              clear F1 F2 F3 F4 F5 hA0 hA1' HPm HTP HGD
              go_wp2_with (first
                | (go_at_call 76; (with_reducible refine (HNK.out _).mono ?_); rintro e wq ⟨rfl, cq⟩; have K0 : Hid (Ch w2 wq) := K0.out.trans cq)
                | (go_at_call 62; (with_reducible refine (C1.out _ K0.out).mono ?_); rintro e wq ⟨rfl, cq⟩; have K0 : Hid (Ch w2 wq) := K0.out.trans cq; clear C1)
                | (go_at_call 62; (with_reducible refine (C2.out _ K0.out).mono ?_); rintro e wq ⟨rfl, cq⟩; have K0 : Hid (Ch w2 wq) := K0.out.trans cq; clear C2)
                | (go_at_call 62; (with_reducible refine (C3.out _ K0.out).mono ?_); rintro e wq ⟨rfl, cq⟩; have K0 : Hid (Ch w2 wq) := K0.out.trans cq; clear C3)
                | (go_at_call 64; (with_reducible refine (C4.out _ K0.out).mono ?_); rintro e w4 ⟨v4, m4, rfl, ⟨vc4, vh4, rfl, oc, oh⟩, c4⟩; obtain ⟨p4, r4, rfl⟩ := oc.form; obtain ⟨s4, t4, rfl⟩ := oh.form; unfold mV; clear oc oh; have T4 := Bo.new (K0.out.trans c4) #[.string ⟨#[]⟩, .string ⟨#[]⟩, .bool false, .bool false, .int .i64 0, .int .i64 0, .slice none 0 0, .slice none 0 0] 66; clear C4)
                | (refine wpList_store_row rfl 66 (.tmp 21) (.tmp 115) rfl w4.heap.size #[.string m4.n, .string m4.d, .bool m4.st, .bool m4.ab, .int .i64 m4.sk, .int .i64 m4.lo, .slice p4 m4.code.length r4, .slice s4 m4.hs.length t4] rfl rfl 66 _ T4.b infoM rfl (one8 _ _ _ _ _ _ _ _ _ _ _ _) ?_; have K0 : Hid (Ch w2 _) := (T4.setRow #[.string m4.n, .string m4.d, .bool m4.st, .bool m4.ab, .int .i64 m4.sk, .int .i64 m4.lo, .slice p4 m4.code.length r4, .slice s4 m4.hs.length t4]).ch; clear T4)
                | (go_at_call 69; (with_reducible refine (C5.out _ K0.out).mono ?_); rintro e w6 ⟨v6, m6, rfl, ⟨vc6, vh6, rfl, oc, oh⟩, c6⟩; obtain ⟨p6, r6, rfl⟩ := oc.form; obtain ⟨s6, t6, rfl⟩ := oh.form; unfold mV; clear oc oh; have T6 := Bo.new (K0.out.trans c6) #[.string ⟨#[]⟩, .string ⟨#[]⟩, .bool false, .bool false, .int .i64 0, .int .i64 0, .slice none 0 0, .slice none 0 0] 66; clear C5)
                | (refine wpList_store_row rfl 66 (.tmp 24) (.tmp 124) rfl w6.heap.size #[.string m6.n, .string m6.d, .bool m6.st, .bool m6.ab, .int .i64 m6.sk, .int .i64 m6.lo, .slice p6 m6.code.length r6, .slice s6 m6.hs.length t6] rfl rfl 66 _ T6.b infoM rfl (one8 _ _ _ _ _ _ _ _ _ _ _ _) ?_; have K0 : Hid (Ch w2 _) := (T6.setRow #[.string m6.n, .string m6.d, .bool m6.st, .bool m6.ab, .int .i64 m6.sk, .int .i64 m6.lo, .slice p6 m6.code.length r6, .slice s6 m6.hs.length t6]).ch; clear T6)
                | (go_at_call 60; (with_reducible refine (awake8 _).mono ?_); rintro e wq ⟨rfl, cq⟩; have K0 : Hid (Ch w2 wq) := K0.out.trans cq)
                | fail)
              go_ret
              exact ⟨rfl, HW2.out.trans K0.out⟩
          | true =>
            cases st with
            | false =>
              have C1 : Hid (∀ w', Ch w2 w' → Calls Tryz.prog 62 #[.pointer (some ⟨gp, 0, none⟩), .string (nameK k), .string ⟨#[102]⟩, .string ⟨#[73]⟩, .bool false] w' fun e w'' => e = .returned (.tuple #[.string W, .int .i64 0]) ∧ Ch w' w'') := fun w' kk => by have q := fieldP_any (nameK k) nF nI false P gp bp w' (HPm.out w' kk) HTP.out HGD.out; rw [F1] at q; exact q
              have C2 : Hid (∀ w', Ch w2 w' → Calls Tryz.prog 62 #[.pointer (some ⟨gp, 0, none⟩), .string (nameK k), .string ⟨#[102]⟩, .string ⟨#[73]⟩, .bool true] w' fun e w'' => e = .returned (.tuple #[.string ⟨#[]⟩, .int .i64 8]) ∧ Ch w' w'') := fun w' kk => by have q := fieldP_any (nameK k) nF nI true P gp bp w' (HPm.out w' kk) HTP.out HGD.out; rw [show fst2 (fldF P nF nI true) (abv P (nameK k)) = (⟨#[]⟩, none) from F2] at q; exact q
              have C3 : Hid (∀ w', Ch w2 w' → Calls Tryz.prog 62 #[.pointer (some ⟨gp, 0, none⟩), .string (nameK k), .string ⟨#[102]⟩, .string ⟨#[67]⟩, .bool false] w' fun e w'' => e = .returned (.tuple #[.string ⟨#[]⟩, .int .i64 8]) ∧ Ch w' w'') := fun w' kk => by have q := fieldP_any (nameK k) nF ⟨#[67]⟩ false P gp bp w' (HPm.out w' kk) HTP.out HGD.out; rw [F3] at q; exact q
              have C4 : Hid (∀ w', Ch w2 w' → Calls Tryz.prog 64 #[.pointer (some ⟨gp, 0, none⟩), .string (nameK k), .string ⟨#[109]⟩, .string ⟨#[40, 41, 86]⟩] w' fun e w'' => ∃ v m, e = .returned (.tuple #[.string W, v, .int .i64 0]) ∧ Mw w' w'' v m ∧ Ch w' w'') := fun w' kk => by have q := methodP_any (nameK k) nM wV P gp bp w' (HPm.out w' kk) HTP.out HGD.out; rw [F4] at q; exact q.mono (fun e w' ⟨v, h1, h2, h3⟩ => ⟨v, _, h1, h2, h3⟩)
              have C5 : Hid (∀ w', Ch w2 w' → Calls Tryz.prog 69 #[.pointer (some ⟨gp, 0, none⟩), .string (nameK k), .string ⟨#[109]⟩, .string ⟨#[40, 41, 86]⟩] w' fun e w'' => ∃ v m, e = .returned (.tuple #[.string W, v, .bool true]) ∧ Mw w' w'' v m ∧ Ch w' w'') := fun w' kk => by have q := dispatch_any (nameK k) nM wV P gp bp w' (HPm.out w' kk) HTP.out; rw [F5] at q; exact q.mono (fun e w' ⟨v, h1, h2, h3⟩ => ⟨v, _, h1, h2, h3⟩)
              have hW := hA1' rfl
              have r3 : (W.toList == []) = false := by rw [beq_eq_false_iff_ne]; intro e; exact hW (empty_of e)
              have r4 : (W.toList != []) = true := by rw [bne, r3]; rfl
              have r5 : (W.data.toList == []) = false := by rw [beq_eq_false_iff_ne]; intro e; exact hW (empty_of2 e)
              have r6 : (W.data.toList != []) = true := by rw [bne, r5]; rfl
              clear F1 F2 F3 F4 F5 hA0 hA1' HPm HTP HGD hW
              go_wp2_with (first
                | (go_at_call 76; (with_reducible refine (HNK.out _).mono ?_); rintro e wq ⟨rfl, cq⟩; have K0 : Hid (Ch w2 wq) := K0.out.trans cq)
                | (go_at_call 62; (with_reducible refine (C1.out _ K0.out).mono ?_); rintro e wq ⟨rfl, cq⟩; have K0 : Hid (Ch w2 wq) := K0.out.trans cq; clear C1)
                | (go_at_call 62; (with_reducible refine (C2.out _ K0.out).mono ?_); rintro e wq ⟨rfl, cq⟩; have K0 : Hid (Ch w2 wq) := K0.out.trans cq; clear C2)
                | (go_at_call 62; (with_reducible refine (C3.out _ K0.out).mono ?_); rintro e wq ⟨rfl, cq⟩; have K0 : Hid (Ch w2 wq) := K0.out.trans cq; clear C3)
                | (go_at_call 64; (with_reducible refine (C4.out _ K0.out).mono ?_); rintro e w4 ⟨v4, m4, rfl, ⟨vc4, vh4, rfl, oc, oh⟩, c4⟩; obtain ⟨p4, r4, rfl⟩ := oc.form; obtain ⟨s4, t4, rfl⟩ := oh.form; unfold mV; clear oc oh; have T4 := Bo.new (K0.out.trans c4) #[.string ⟨#[]⟩, .string ⟨#[]⟩, .bool false, .bool false, .int .i64 0, .int .i64 0, .slice none 0 0, .slice none 0 0] 66; clear C4)
                | (refine wpList_store_row rfl 66 (.tmp 21) (.tmp 115) rfl w4.heap.size #[.string m4.n, .string m4.d, .bool m4.st, .bool m4.ab, .int .i64 m4.sk, .int .i64 m4.lo, .slice p4 m4.code.length r4, .slice s4 m4.hs.length t4] rfl rfl 66 _ T4.b infoM rfl (one8 _ _ _ _ _ _ _ _ _ _ _ _) ?_; have K0 : Hid (Ch w2 _) := (T4.setRow #[.string m4.n, .string m4.d, .bool m4.st, .bool m4.ab, .int .i64 m4.sk, .int .i64 m4.lo, .slice p4 m4.code.length r4, .slice s4 m4.hs.length t4]).ch; clear T4)
                | (go_at_call 69; (with_reducible refine (C5.out _ K0.out).mono ?_); rintro e w6 ⟨v6, m6, rfl, ⟨vc6, vh6, rfl, oc, oh⟩, c6⟩; obtain ⟨p6, r6, rfl⟩ := oc.form; obtain ⟨s6, t6, rfl⟩ := oh.form; unfold mV; clear oc oh; have T6 := Bo.new (K0.out.trans c6) #[.string ⟨#[]⟩, .string ⟨#[]⟩, .bool false, .bool false, .int .i64 0, .int .i64 0, .slice none 0 0, .slice none 0 0] 66; clear C5)
                | (refine wpList_store_row rfl 66 (.tmp 24) (.tmp 124) rfl w6.heap.size #[.string m6.n, .string m6.d, .bool m6.st, .bool m6.ab, .int .i64 m6.sk, .int .i64 m6.lo, .slice p6 m6.code.length r6, .slice s6 m6.hs.length t6] rfl rfl 66 _ T6.b infoM rfl (one8 _ _ _ _ _ _ _ _ _ _ _ _) ?_; have K0 : Hid (Ch w2 _) := (T6.setRow #[.string m6.n, .string m6.d, .bool m6.st, .bool m6.ab, .int .i64 m6.sk, .int .i64 m6.lo, .slice p6 m6.code.length r6, .slice s6 m6.hs.length t6]).ch; clear T6)
                | (go_at_call 60; (with_reducible refine (awake8 _).mono ?_); rintro e wq ⟨rfl, cq⟩; have K0 : Hid (Ch w2 wq) := K0.out.trans cq)
                | fail)
              go_ret
              exact ⟨rfl, HW2.out.trans K0.out⟩
            | true =>
              have C1 : Hid (∀ w', Ch w2 w' → Calls Tryz.prog 62 #[.pointer (some ⟨gp, 0, none⟩), .string (nameK k), .string ⟨#[102]⟩, .string ⟨#[73]⟩, .bool true] w' fun e w'' => e = .returned (.tuple #[.string W, .int .i64 0]) ∧ Ch w' w'') := fun w' kk => by have q := fieldP_any (nameK k) nF nI true P gp bp w' (HPm.out w' kk) HTP.out HGD.out; rw [F1] at q; exact q
              have C2 : Hid (∀ w', Ch w2 w' → Calls Tryz.prog 62 #[.pointer (some ⟨gp, 0, none⟩), .string (nameK k), .string ⟨#[102]⟩, .string ⟨#[73]⟩, .bool false] w' fun e w'' => e = .returned (.tuple #[.string ⟨#[]⟩, .int .i64 8]) ∧ Ch w' w'') := fun w' kk => by have q := fieldP_any (nameK k) nF nI false P gp bp w' (HPm.out w' kk) HTP.out HGD.out; rw [show fst2 (fldF P nF nI false) (abv P (nameK k)) = (⟨#[]⟩, none) from F2] at q; exact q
              have C3 : Hid (∀ w', Ch w2 w' → Calls Tryz.prog 62 #[.pointer (some ⟨gp, 0, none⟩), .string (nameK k), .string ⟨#[102]⟩, .string ⟨#[67]⟩, .bool true] w' fun e w'' => e = .returned (.tuple #[.string ⟨#[]⟩, .int .i64 8]) ∧ Ch w' w'') := fun w' kk => by have q := fieldP_any (nameK k) nF ⟨#[67]⟩ true P gp bp w' (HPm.out w' kk) HTP.out HGD.out; rw [F3] at q; exact q
              have C4 : Hid (∀ w', Ch w2 w' → Calls Tryz.prog 64 #[.pointer (some ⟨gp, 0, none⟩), .string (nameK k), .string ⟨#[109]⟩, .string ⟨#[40, 41, 86]⟩] w' fun e w'' => ∃ v m, e = .returned (.tuple #[.string W, v, .int .i64 0]) ∧ Mw w' w'' v m ∧ Ch w' w'') := fun w' kk => by have q := methodP_any (nameK k) nM wV P gp bp w' (HPm.out w' kk) HTP.out HGD.out; rw [F4] at q; exact q.mono (fun e w' ⟨v, h1, h2, h3⟩ => ⟨v, _, h1, h2, h3⟩)
              have C5 : Hid (∀ w', Ch w2 w' → Calls Tryz.prog 69 #[.pointer (some ⟨gp, 0, none⟩), .string (nameK k), .string ⟨#[109]⟩, .string ⟨#[40, 41, 86]⟩] w' fun e w'' => ∃ v m, e = .returned (.tuple #[.string ⟨#[]⟩, v, .bool false]) ∧ Mw w' w'' v m ∧ Ch w' w'') := fun w' kk => by have q := dispatch_any (nameK k) nM wV P gp bp w' (HPm.out w' kk) HTP.out; rw [F5] at q; exact q.mono (fun e w' ⟨v, h1, h2, h3⟩ => ⟨v, _, h1, h2, h3⟩)
              have hW := hA1' rfl
              have r3 : (W.toList == []) = false := by rw [beq_eq_false_iff_ne]; intro e; exact hW (empty_of e)
              have r4 : (W.toList != []) = true := by rw [bne, r3]; rfl
              have r5 : (W.data.toList == []) = false := by rw [beq_eq_false_iff_ne]; intro e; exact hW (empty_of2 e)
              have r6 : (W.data.toList != []) = true := by rw [bne, r5]; rfl
              clear F1 F2 F3 F4 F5 hA0 hA1' HPm HTP HGD hW
              go_wp2_with (first
                | (go_at_call 76; (with_reducible refine (HNK.out _).mono ?_); rintro e wq ⟨rfl, cq⟩; have K0 : Hid (Ch w2 wq) := K0.out.trans cq)
                | (go_at_call 62; (with_reducible refine (C1.out _ K0.out).mono ?_); rintro e wq ⟨rfl, cq⟩; have K0 : Hid (Ch w2 wq) := K0.out.trans cq; clear C1)
                | (go_at_call 62; (with_reducible refine (C2.out _ K0.out).mono ?_); rintro e wq ⟨rfl, cq⟩; have K0 : Hid (Ch w2 wq) := K0.out.trans cq; clear C2)
                | (go_at_call 62; (with_reducible refine (C3.out _ K0.out).mono ?_); rintro e wq ⟨rfl, cq⟩; have K0 : Hid (Ch w2 wq) := K0.out.trans cq; clear C3)
                | (go_at_call 64; (with_reducible refine (C4.out _ K0.out).mono ?_); rintro e w4 ⟨v4, m4, rfl, ⟨vc4, vh4, rfl, oc, oh⟩, c4⟩; obtain ⟨p4, r4, rfl⟩ := oc.form; obtain ⟨s4, t4, rfl⟩ := oh.form; unfold mV; clear oc oh; have T4 := Bo.new (K0.out.trans c4) #[.string ⟨#[]⟩, .string ⟨#[]⟩, .bool false, .bool false, .int .i64 0, .int .i64 0, .slice none 0 0, .slice none 0 0] 66; clear C4)
                | (refine wpList_store_row rfl 66 (.tmp 21) (.tmp 115) rfl w4.heap.size #[.string m4.n, .string m4.d, .bool m4.st, .bool m4.ab, .int .i64 m4.sk, .int .i64 m4.lo, .slice p4 m4.code.length r4, .slice s4 m4.hs.length t4] rfl rfl 66 _ T4.b infoM rfl (one8 _ _ _ _ _ _ _ _ _ _ _ _) ?_; have K0 : Hid (Ch w2 _) := (T4.setRow #[.string m4.n, .string m4.d, .bool m4.st, .bool m4.ab, .int .i64 m4.sk, .int .i64 m4.lo, .slice p4 m4.code.length r4, .slice s4 m4.hs.length t4]).ch; clear T4)
                | (go_at_call 69; (with_reducible refine (C5.out _ K0.out).mono ?_); rintro e w6 ⟨v6, m6, rfl, ⟨vc6, vh6, rfl, oc, oh⟩, c6⟩; obtain ⟨p6, r6, rfl⟩ := oc.form; obtain ⟨s6, t6, rfl⟩ := oh.form; unfold mV; clear oc oh; have T6 := Bo.new (K0.out.trans c6) #[.string ⟨#[]⟩, .string ⟨#[]⟩, .bool false, .bool false, .int .i64 0, .int .i64 0, .slice none 0 0, .slice none 0 0] 66; clear C5)
                | (refine wpList_store_row rfl 66 (.tmp 24) (.tmp 124) rfl w6.heap.size #[.string m6.n, .string m6.d, .bool m6.st, .bool m6.ab, .int .i64 m6.sk, .int .i64 m6.lo, .slice p6 m6.code.length r6, .slice s6 m6.hs.length t6] rfl rfl 66 _ T6.b infoM rfl (one8 _ _ _ _ _ _ _ _ _ _ _ _) ?_; have K0 : Hid (Ch w2 _) := (T6.setRow #[.string m6.n, .string m6.d, .bool m6.st, .bool m6.ab, .int .i64 m6.sk, .int .i64 m6.lo, .slice p6 m6.code.length r6, .slice s6 m6.hs.length t6]).ch; clear T6)
                | (go_at_call 60; (with_reducible refine (awake8 _).mono ?_); rintro e wq ⟨rfl, cq⟩; have K0 : Hid (Ch w2 wq) := K0.out.trans cq)
                | fail)
              go_ret
              exact ⟨rfl, HW2.out.trans K0.out⟩
end Go.Proofs.YthmepecmeambmaaGreat
namespace Go.Proofs.YthmepecmeambmaaGreat
open Go.ChangeShapes Go.WideShapes Go.ChangeAt Go.RowKit
set_option linter.unusedVariables false

theorem Tryz.cells3 : Tryz.prog.cellsOf 3 = 1 := by kernel_rfl
theorem Tryz.cells4 : Tryz.prog.cellsOf 4 = 1 := by kernel_rfl
theorem Tryz.cells9 : Tryz.prog.cellsOf 9 = 1 := by kernel_rfl
theorem Tryz.cells22 : Tryz.prog.cellsOf 32 = 1 := by kernel_rfl
theorem Tryz.cells23 : Tryz.prog.cellsOf 38 = 1 := by kernel_rfl
theorem Tryz.cells24 : Tryz.prog.cellsOf 39 = 1 := by kernel_rfl
theorem Tryz.cells33 : Tryz.prog.cellsOf 63 = 1 := by kernel_rfl
theorem Tryz.cells34 : Tryz.prog.cellsOf 64 = 1 := by kernel_rfl
theorem Tryz.cells26 : Tryz.prog.cellsOf 41 = 7 := by kernel_rfl
theorem Tryz.cells32 : Tryz.prog.cellsOf 62 = 6 := by kernel_rfl
theorem Tryz.cells36 : Tryz.prog.cellsOf 66 = 8 := by kernel_rfl
theorem Tryz.cells39 : Tryz.prog.cellsOf 103 = 3 := by kernel_rfl
theorem Tryz.cells41 : Tryz.prog.cellsOf 124 = 4 := by kernel_rfl

theorem len3 {α : Type} {l : List α} (h : l.length = 3) : ∃ a b c, l = [a, b, c] := by
  match l, h with
  | [a, b, c], _ => exact ⟨a, b, c, rfl⟩
theorem len4 {α : Type} {l : List α} (h : l.length = 4) : ∃ a b c d, l = [a, b, c, d] := by
  match l, h with
  | [a, b, c, d], _ => exact ⟨a, b, c, d, rfl⟩
theorem len6 {α : Type} {l : List α} (h : l.length = 6) : ∃ a b c d e f, l = [a, b, c, d, e, f] := by
  match l, h with
  | [a, b, c, d, e, f], _ => exact ⟨a, b, c, d, e, f, rfl⟩
theorem len7 {α : Type} {l : List α} (h : l.length = 7) : ∃ a b c d e f g, l = [a, b, c, d, e, f, g] := by
  match l, h with
  | [a, b, c, d, e, f, g], _ => exact ⟨a, b, c, d, e, f, g, rfl⟩
theorem len8 {α : Type} {l : List α} (h : l.length = 8) : ∃ a b c d e f g i, l = [a, b, c, d, e, f, g, i] := by
  match l, h with
  | [a, b, c, d, e, f, g, i], _ => exact ⟨a, b, c, d, e, f, g, i, rfl⟩

section
variable {H : Type} {enc : TypeId × Value → H} {w : World}
theorem add_none (b off j : Nat) : (⟨b, off, none⟩ : Addr).add j = ⟨b, off + j, none⟩ := by unfold Addr.add; split <;> simp_all
theorem open_sl {α : Type} [Inhabited α] {R : World → List Value → α → Prop} (k : Nat) {tS tE : TypeId} (hu : Tryz.prog.underlying tS = some (.slice tE)) (hk : Tryz.prog.cellsOf tE = k) (hk0 : 0 < k)
    (elem : ∀ n cs x, DataW.trod enc Tryz.prog w 0 (fun _ => true) true n tE cs = some x → ∃ a, R w cs a)
    {fuel : Nat} {v : Value} {x : DataW H × List MemPlace} (h : DataW.trod enc Tryz.prog w 0 (fun _ => true) true fuel tS [v] = some x) : ∃ xs : List α, Sl k R w v xs := by
  rcases Deep.open_slice hu h with ⟨hcs, _⟩ | ⟨ad, l, c, m, n, D, Pl, hcs, _, hl, hm, hmm, _, hx⟩
  · simp at hcs
    subst hcs
    exact ⟨[], none, 0, rfl, Nat.le_refl _, by omega, fun h => by simp at h⟩
  · simp at hcs
    subst hcs
    rw [if_pos rfl] at hmm
    subst hmm
    rw [hk] at hx
    have each : ∀ i, i < m → ∃ t : α × List Value, R w t.2 t.1 ∧ t.2.length = k ∧ ∀ j, j < k → w.cell? ((ad.add (i * k)).add j) = t.2[j]? := fun i hi => by
      obtain ⟨cs', h1, h2⟩ := hx i hi
      obtain ⟨a, ha⟩ := elem _ _ _ h2
      obtain ⟨_, hlen, hc⟩ := World.cells?_some h1
      exact ⟨(a, cs'), ha, hlen, hc⟩
    obtain ⟨T, hT⟩ := Deep.choose_lt (α := α × List Value) each
    unfold maxLen at hm
    refine ⟨(List.range l).map fun i => (T i).1, some ad, m, by simp, by simpa using hl, by omega, fun hp => ?_⟩
    have hl0 : 0 < l := by simpa using hp
    obtain ⟨b, off, spot⟩ := ad
    have hspot : spot = none := by
      obtain ⟨_, hlen, hc⟩ := hT 0 (by omega)
      obtain ⟨u, hu'⟩ : ∃ u, (T 0).2[0]? = some u := ⟨_, List.getElem?_eq_getElem (by omega)⟩
      have := World.cell?_spot ((hc 0 hk0).trans hu')
      simpa [Addr.add] using this
    subst hspot
    refine ⟨b, off, rfl, fun i a hi => ?_⟩
    have hil : i < l := by
      have := (List.getElem?_eq_some_iff.1 hi).1
      simpa using this
    rw [List.getElem?_map, List.getElem?_range hil] at hi
    simp at hi
    subst hi
    obtain ⟨h1, h2, h3⟩ := hT i (by omega)
    refine ⟨_, h1, fun j u hj => ?_⟩
    have hjk : j < k := by rw [← h2]; exact (List.getElem?_eq_some_iff.1 hj).1
    have := h3 j hjk
    rw [add_none, add_none] at this
    rw [this, hj]


theorem open_str {n : Nat} {cs : List Value} {x : DataW H × List MemPlace} (h : DataW.trod enc Tryz.prog w 0 (fun _ => true) true n 9 cs = some x) : ∃ a, RS w cs a := by
  obtain ⟨s, e, _, _⟩ := DataW.trod_string Tryz.underlying9 h
  exact ⟨s, e⟩
theorem open_insC {n : Nat} {cs : List Value} {x : DataW H × List MemPlace} (h : DataW.trod enc Tryz.prog w 0 (fun _ => true) true n 62 cs = some x) : ∃ a, RI w cs a := by
  obtain ⟨xs, n', _, _, hl, hlen, hf⟩ := DataW.trod_struct Tryz.underlying62 h
  rw [Tryz.cells32] at hl
  obtain ⟨c0, c1, c2, c3, c4, c5, rfl⟩ := len6 hl
  obtain ⟨x0, x1, x2, x3, x4, x5, rfl⟩ := len6 hlen
  have h0 := hf 0 _ rfl
  have h1 := hf 1 _ rfl
  have h2 := hf 2 _ rfl
  have h3 := hf 3 _ rfl
  have h4 := hf 4 _ rfl
  have h5 := hf 5 _ rfl
  simp [Tryz.cells3, Tryz.cells9] at h0 h1 h2 h3 h4 h5
  obtain ⟨y0, e0, _, _⟩ := DataW.trod_int Tryz.underlying3 h0
  obtain ⟨y1, e1, _, _⟩ := DataW.trod_int Tryz.underlying3 h1
  obtain ⟨y2, e2, _, _⟩ := DataW.trod_int Tryz.underlying3 h2
  obtain ⟨y3, e3, _, _⟩ := DataW.trod_string Tryz.underlying9 h3
  obtain ⟨y4, e4, _, _⟩ := DataW.trod_string Tryz.underlying9 h4
  obtain ⟨y5, e5, _, _⟩ := DataW.trod_string Tryz.underlying9 h5
  simp at e0 e1 e2 e3 e4 e5
  subst e0 e1 e2 e3 e4 e5
  exact ⟨⟨y0, y1, y2, y3, y4, y5⟩, rfl⟩
theorem open_fldC {n : Nat} {cs : List Value} {x : DataW H × List MemPlace} (h : DataW.trod enc Tryz.prog w 0 (fun _ => true) true n 103 cs = some x) : ∃ a, RF w cs a := by
  obtain ⟨xs, n', _, _, hl, hlen, hf⟩ := DataW.trod_struct Tryz.underlying103 h
  rw [Tryz.cells39] at hl
  obtain ⟨c0, c1, c2, rfl⟩ := len3 hl
  obtain ⟨x0, x1, x2, rfl⟩ := len3 hlen
  have h0 := hf 0 _ rfl
  have h1 := hf 1 _ rfl
  have h2 := hf 2 _ rfl
  simp [Tryz.cells4, Tryz.cells9] at h0 h1 h2
  obtain ⟨y0, e0, _, _⟩ := DataW.trod_string Tryz.underlying9 h0
  obtain ⟨y1, e1, _, _⟩ := DataW.trod_string Tryz.underlying9 h1
  obtain ⟨y2, e2, _⟩ := DataW.trod_bool Tryz.underlying4 h2
  simp at e0 e1 e2
  subst e0 e1 e2
  exact ⟨⟨y0, y1, y2⟩, rfl⟩
theorem open_hndC {n : Nat} {cs : List Value} {x : DataW H × List MemPlace} (h : DataW.trod enc Tryz.prog w 0 (fun _ => true) true n 124 cs = some x) : ∃ a, RH w cs a := by
  obtain ⟨xs, n', _, _, hl, hlen, hf⟩ := DataW.trod_struct Tryz.underlying124 h
  rw [Tryz.cells41] at hl
  obtain ⟨c0, c1, c2, c3, rfl⟩ := len4 hl
  obtain ⟨x0, x1, x2, x3, rfl⟩ := len4 hlen
  have h0 := hf 0 _ rfl
  have h1 := hf 1 _ rfl
  have h2 := hf 2 _ rfl
  have h3 := hf 3 _ rfl
  simp [Tryz.cells3, Tryz.cells9] at h0 h1 h2 h3
  obtain ⟨y0, e0, _, _⟩ := DataW.trod_int Tryz.underlying3 h0
  obtain ⟨y1, e1, _, _⟩ := DataW.trod_int Tryz.underlying3 h1
  obtain ⟨y2, e2, _, _⟩ := DataW.trod_int Tryz.underlying3 h2
  obtain ⟨y3, e3, _, _⟩ := DataW.trod_string Tryz.underlying9 h3
  simp at e0 e1 e2 e3
  subst e0 e1 e2 e3
  exact ⟨⟨y0, y1, y2, y3⟩, rfl⟩
theorem open_mthC {n : Nat} {cs : List Value} {x : DataW H × List MemPlace} (h : DataW.trod enc Tryz.prog w 0 (fun _ => true) true n 66 cs = some x) : ∃ a, RM w cs a := by
  obtain ⟨xs, n', _, _, hl, hlen, hf⟩ := DataW.trod_struct Tryz.underlying66 h
  rw [Tryz.cells36] at hl
  obtain ⟨c0, c1, c2, c3, c4, c5, c6, c7, rfl⟩ := len8 hl
  obtain ⟨x0, x1, x2, x3, x4, x5, x6, x7, rfl⟩ := len8 hlen
  have h0 := hf 0 _ rfl
  have h1 := hf 1 _ rfl
  have h2 := hf 2 _ rfl
  have h3 := hf 3 _ rfl
  have h4 := hf 4 _ rfl
  have h5 := hf 5 _ rfl
  have h6 := hf 6 _ rfl
  have h7 := hf 7 _ rfl
  simp [Tryz.cells3, Tryz.cells9, Tryz.cells4, Tryz.cells33, Tryz.cells34] at h0 h1 h2 h3 h4 h5 h6 h7
  obtain ⟨y0, e0, _, _⟩ := DataW.trod_string Tryz.underlying9 h0
  obtain ⟨y1, e1, _, _⟩ := DataW.trod_string Tryz.underlying9 h1
  obtain ⟨y2, e2, _⟩ := DataW.trod_bool Tryz.underlying4 h2
  obtain ⟨y3, e3, _⟩ := DataW.trod_bool Tryz.underlying4 h3
  obtain ⟨y4, e4, _, _⟩ := DataW.trod_int Tryz.underlying3 h4
  obtain ⟨y5, e5, _, _⟩ := DataW.trod_int Tryz.underlying3 h5
  haveI : Inhabited Ins := ⟨⟨0, 0, 0, ByteArray.empty, ByteArray.empty, ByteArray.empty⟩⟩
  obtain ⟨y6, e6⟩ := open_sl (R := RI) 6 Tryz.underlying63 Tryz.cells32 (by omega) (fun _ _ _ h => open_insC h) h6
  haveI : Inhabited Hnd := ⟨⟨0, 0, 0, ByteArray.empty⟩⟩
  obtain ⟨y7, e7⟩ := open_sl (R := RH) 4 Tryz.underlying64 Tryz.cells41 (by omega) (fun _ _ _ h => open_hndC h) h7
  simp at e0 e1 e2 e3 e4 e5
  subst e0 e1 e2 e3 e4 e5
  exact ⟨⟨y0, y1, y2, y3, y4, y5, y6, y7⟩, c6, c7, rfl, e6, e7⟩
theorem open_clsC {n : Nat} {cs : List Value} {x : DataW H × List MemPlace} (h : DataW.trod enc Tryz.prog w 0 (fun _ => true) true n 41 cs = some x) :
    ∃ (c : Cls) (vi vf vm : Value), cs = [.string c.n, .string c.s, .bool c.it, .bool c.ab, vi, vf, vm] ∧ ClsAt w c vi vf vm := by
  obtain ⟨xs, n', _, _, hl, hlen, hf⟩ := DataW.trod_struct Tryz.underlying41 h
  rw [Tryz.cells26] at hl
  obtain ⟨c0, c1, c2, c3, c4, c5, c6, rfl⟩ := len7 hl
  obtain ⟨x0, x1, x2, x3, x4, x5, x6, rfl⟩ := len7 hlen
  have h0 := hf 0 _ rfl
  have h1 := hf 1 _ rfl
  have h2 := hf 2 _ rfl
  have h3 := hf 3 _ rfl
  have h4 := hf 4 _ rfl
  have h5 := hf 5 _ rfl
  have h6 := hf 6 _ rfl
  simp [Tryz.cells9, Tryz.cells4, Tryz.cells22, Tryz.cells23, Tryz.cells24] at h0 h1 h2 h3 h4 h5 h6
  obtain ⟨y0, e0, _, _⟩ := DataW.trod_string Tryz.underlying9 h0
  obtain ⟨y1, e1, _, _⟩ := DataW.trod_string Tryz.underlying9 h1
  obtain ⟨y2, e2, _⟩ := DataW.trod_bool Tryz.underlying4 h2
  obtain ⟨y3, e3, _⟩ := DataW.trod_bool Tryz.underlying4 h3
  obtain ⟨y4, e4⟩ := open_sl (R := RS) 1 Tryz.underlying32 Tryz.cells9 (by omega) (fun _ _ _ h => open_str h) h4
  haveI : Inhabited Fld := ⟨⟨ByteArray.empty, ByteArray.empty, false⟩⟩
  obtain ⟨y5, e5⟩ := open_sl (R := RF) 3 Tryz.underlying38 Tryz.cells39 (by omega) (fun _ _ _ h => open_fldC h) h5
  haveI : Inhabited Mth := ⟨⟨ByteArray.empty, ByteArray.empty, false, false, 0, 0, [], []⟩⟩
  obtain ⟨y6, e6⟩ := open_sl (R := RM) 8 Tryz.underlying39 Tryz.cells36 (by omega) (fun _ _ _ h => open_mthC h) h6
  simp at e0 e1 e2 e3
  subst e0 e1 e2 e3
  exact ⟨⟨y0, y1, y2, y3, y4, y5, y6⟩, c4, c5, c6, rfl, e4, e5, e6⟩
set_option maxRecDepth 100000 in
theorem open_cls {b0 : Nat} {r : Reach} {v : Value} {d : DataW H} {p : List MemPlace} (hv : Value.okWide Tryz.prog w r b0 41 v) (h : DataW.Trod enc Tryz.prog w 0 (fun _ => true) true 41 v d p) :
    ∃ (c : Cls) (vi vf vm : Value), v = .agg #[.string c.n, .string c.s, .bool c.it, .bool c.ab, vi, vf, vm] ∧ ClsAt w c vi vf vm := by
  obtain ⟨cs, rfl, _⟩ := okWide_struct Tryz.underlying41 hv
  obtain ⟨fuel, hf⟩ := h
  obtain ⟨c, vi, vf, vm, hc, hat⟩ := open_clsC hf
  refine ⟨c, vi, vf, vm, ?_, hat⟩
  have : cs = #[.string c.n, .string c.s, .bool c.it, .bool c.ab, vi, vf, vm] := by
    simp [Value.cells] at hc
    exact Array.toList_inj.1 hc
  rw [this]
set_option maxRecDepth 100000 in
theorem open_clss {b0 : Nat} {r : Reach} {v : Value} {d : DataW H} {p : List MemPlace} (hv : Value.okWide Tryz.prog w r b0 22 v) (h : DataW.Trod enc Tryz.prog w 0 (fun _ => true) true 22 v d p) : ∃ l, Sl 7 RC w v l := by
  obtain ⟨a, n, c, rfl⟩ := okWide_slice Tryz.underlying22 hv
  obtain ⟨fuel, hf⟩ := h
  haveI : Inhabited Cls := ⟨⟨ByteArray.empty, ByteArray.empty, false, false, [], [], []⟩⟩
  exact open_sl (R := RC) 7 Tryz.underlying22 Tryz.cells26 (by omega) (fun _ _ _ h => open_clsC h) (by simpa [Value.cells] using hf)
end
end Go.Proofs.YthmepecmeambmaaGreat
namespace Go.Proofs.YthmepecmeambmaaGreat
open Go.ChangeShapes Go.WideShapes Go.ChangeAt Go.RowKit
set_option linter.unusedVariables false

set_option maxRecDepth 100000 in
theorem bools_are : Tryz.prog.underlying 101 = some (.slice 4) := by kernel_rfl
set_option maxRecDepth 100000 in
theorem open_bools {H : Type} {enc : TypeId × Value → H} {w : World} {b0 : Nat} {r : Reach} {v : Value} {d : DataW H} {p : List MemPlace} (hv : Value.okWide Tryz.prog w r b0 101 v) (h : DataW.Trod enc Tryz.prog w 0 (fun _ => true) true 101 v d p) : ∃ l : List Bool, Sl 1 RB w v l := by
  obtain ⟨a, n, c, rfl⟩ := okWide_slice bools_are hv
  obtain ⟨fuel, hf⟩ := h
  exact open_sl (R := RB) 1 bools_are Tryz.cells4 (by omega) (fun _ _ _ h => by
    obtain ⟨y, e, _⟩ := DataW.trod_bool Tryz.underlying4 h
    exact ⟨y, e⟩) (by simpa [Value.cells] using hf)
end Go.Proofs.YthmepecmeambmaaGreat
