/- How much there is of texts; the sample of chapter 7; SubtypeNothing, walked. -/
import Derived.Test.YthmepecmeambmaaGreatKLsE
import Derived.Test.YthmepecmeambmaaGreatKBulk
namespace Go.Proofs.YthmepecmeambmaaGreat
open Go.RowKit Go.Shelf
set_option linter.unusedVariables false

def totS (s : ByteArray) : Nat := s.size + 1
set_option maxHeartbeats 8000000 in
theorem total_any (xs : List ByteArray) (v : Value) (w : World) (h : Sl 1 RS w v xs) (hl : xs.length ≤ 100000) :
    Calls Tryz.prog 116 #[v, .int .i64 300] w fun e w' => (∃ m : Int, e = .returned (.int .i64 m) ∧ 0 ≤ m ∧ m ≤ 1099511627776 ∧ (m ≤ 300 → m = ((xs.map totS).sum : Nat))) ∧ Ch w w' := by
  obtain ⟨ao, c, rfl, hx1, hx2⟩ := h.form
  have HS : Hid (∀ w', Ch w w' → Sl 1 RS w' (.slice ao xs.length c) xs) := fun w' k => h.keepS k
  clear h
  go_enter Tryz.func116, Tryz.ntmps116
  go_wp2_with fail
  go_loopw [5, 6] (fun n i wr => ∃ (k : Nat) (m : Int), k ≤ xs.length ∧ i = .int .i64 k ∧ n = .int .i64 m ∧ Ok m (tsum totS xs k) ∧ Ch w wr) (fun _ i _ => xs.length - (intOf i).toNat)
  case atStart => exact ⟨0, 0, Nat.zero_le _, rfl, rfl, by rw [tsum_zero]; exact ⟨Okk.nat 0, by decide⟩, Ch.refl _⟩
  case round =>
    obtain ⟨k, m, hk, rfl, rfl, hm, hcr⟩ := hrel
    by_cases hlt : k < xs.length
    · obtain ⟨s, hs⟩ : ∃ s, xs[k]? = some s := ⟨_, List.getElem?_eq_getElem hlt⟩
      obtain ⟨b, off, rfl, q0⟩ := (HS.out wr hcr).atS hs
      have HT : Hid (tsum totS xs (k + 1) = tsum totS xs k + totS s) := tsum_succ totS hs
      have hm0 := hm.1.1
      have hm1 := hm.2
      have HM : Hid (Ok m (tsum totS xs k)) := hm
      have HSM : Hid (Calls Tryz.prog 58 #[.int .i64 m, .slice (some ⟨wr.heap.size, 0, none⟩) 2 2] (wr.alloc (.cells #[.int .i64 (s.size : Int), .int .i64 1] 3)) fun e w' => OkR e (tsum totS xs k + (s.size + 1)) ∧ w' = wr.alloc (.cells #[.int .i64 (s.size : Int), .int .i64 1] 3)) :=
        sum2 m (s.size : Int) 1 _ s.size 1 wr.heap.size _ (heap_alloc_new _ _) hm (Okk.nat _) Okk.one
      have HC : Hid (Ch w wr) := hcr
      clear hs hm hcr
      generalize tsum totS xs k = tk at *
      have hsm := HSM.out
      by_cases h300 : m ≤ 300
      · go_wp2_with (first
          | (go_at_call 58; (with_reducible refine hsm.mono ?_); clear hsm; rintro e w2 ⟨⟨m2, rfl, hk2⟩, rfl⟩)
          | fail)
        exact ⟨⟨k + 1, m2, by omega, by go_num, rfl, by rw [HT.out]; exact hk2, HC.out.alloc _⟩, by simp [intOf]; omega⟩
      · go_wp2_with fail
        go_ret
        exact ⟨⟨m, rfl, hm0, hm1, fun h => by omega⟩, HC.out⟩
    · obtain rfl : k = xs.length := by omega
      rw [tsum_all] at hm
      have HM : Hid (Ok m ((xs.map totS).sum)) := hm
      have HC : Hid (Ch w wr) := hcr
      clear hm hcr
      go_wp2_with fail
      go_ret
      exact ⟨⟨m, rfl, HM.out.1.1, HM.out.2, fun h => HM.out.1.2 (by omega)⟩, HC.out⟩
theorem two_texts (a b : ByteArray) (w : World) : Sl 1 RS (w.alloc (.cells #[.string a, .string b] 9)) (.slice (some ⟨w.heap.size, 0, none⟩) 2 2) [a, b] := by
  refine ⟨_, 2, rfl, Nat.le_refl _, by decide, fun _ => ⟨w.heap.size, 0, rfl, fun i s hi => ⟨[.string s], rfl, fun j u hj => ?_⟩⟩⟩
  have hb := heap_alloc_new w (.cells #[.string a, .string b] 9)
  have hj0 : j = 0 := by
    have := (List.getElem?_eq_some_iff.1 hj).1
    simpa using this
  subst hj0
  cases hj
  simp only [World.cell?, hb]
  match i, hi with
  | 0, hi => cases hi; rfl
  | 1, hi => cases hi; rfl
theorem small_any (a b : ByteArray) (w : World) : Calls Tryz.prog 45 #[.slice (some ⟨w.heap.size, 0, none⟩) 2 2] (w.alloc (.cells #[.string a, .string b] 9)) fun e w' =>
    (∃ r, e = .returned (.bool r) ∧ (r = true → a.size ≤ 300 ∧ b.size ≤ 300)) ∧ Ch w w' := by
  have ht := total_any [a, b] _ _ (two_texts a b w) (by simp)
  have C0 := (Ch.refl w).alloc (.cells #[.string a, .string b] 9)
  go_enter Tryz.func45, Tryz.ntmps45
  go_wp2_with (first
    | (go_at_call 116; (with_reducible refine ht.mono ?_); clear ht; rintro e w1 ⟨⟨m, rfl, h0, h1, h2⟩, c1⟩)
    | fail)
  go_ret
  refine ⟨⟨_, rfl, fun h => ?_⟩, C0.trans c1⟩
  have hm : m ≤ 300 := by simpa using h
  have h3 := h2 hm
  simp [totS] at h3
  omega

theorem imA : imIn (prog [kA nObject]) := fun c hc => by
  have h : ((prog [kA nObject]).all fun c => c.im.isEmpty) = true := by decide +kernel
  have := List.all_eq_true.1 h c hc
  have e : c.im = [] := by simpa using this
  rw [e]
  exact ⟨by simp, fun s hs => by cases hs⟩
theorem szA : ∀ s ∈ nms (prog [kA nObject]), s.size ≤ 90000 := fun s hs => by
  have h : ((nms (prog [kA nObject])).all fun s => decide (s.size ≤ 90000)) = true := by decide +kernel
  simpa using List.all_eq_true.1 h s hs
abbrev tLA : ByteArray := ⟨#[91, 76, 65, 59]⟩
abbrev tLO : ByteArray := ⟨#[91, 76, 79, 98, 106, 101, 99, 116, 59]⟩
abbrev tI : ByteArray := ⟨#[91, 73]⟩
abbrev tA : ByteArray := ⟨#[76, 65, 59]⟩
abbrev tT : ByteArray := ⟨#[76, 84, 97, 115, 107, 59]⟩
theorem ty1 : typeB (prog [kA nObject]) tLA tLO = true := by decide +kernel
theorem ty2 : typeB (prog [kA nObject]) tI tLO = false := by decide +kernel
theorem mg1 : mergeB (prog [kA nObject]) tA tT = nLObject := by decide +kernel

set_option maxHeartbeats 8000000 in
theorem awake7 (w : World) : Calls Tryz.prog 46 #[] w fun e w' => e = .returned (.bool true) ∧ Ch w w' := by
  have h1 := linkA w
  have HT1 : Hid (∀ g b w', Pm w' g b (prog [kA nObject]) → Calls Tryz.prog 54 #[.pointer (some ⟨g, 0, none⟩), .string tLA, .string tLO] w' fun e w2 => e = .returned (.bool true) ∧ Ch w' w2) := fun g b w' hm => by
    have := typeS_any tLA tLO _ g b w' hm imA (by decide) (by decide)
    rwa [ty1] at this
  have HT2 : Hid (∀ g b w', Pm w' g b (prog [kA nObject]) → Calls Tryz.prog 54 #[.pointer (some ⟨g, 0, none⟩), .string tI, .string tLO] w' fun e w2 => e = .returned (.bool false) ∧ Ch w' w2) := fun g b w' hm => by
    have := typeS_any tI tLO _ g b w' hm imA (by decide) (by decide)
    rwa [ty2] at this
  have HM : Hid (∀ g b w', Pm w' g b (prog [kA nObject]) → Calls Tryz.prog 56 #[.pointer (some ⟨g, 0, none⟩), .string tA, .string tT] w' fun e w2 => e = .returned (.string nLObject) ∧ Ch w' w2) := fun g b w' hm => by
    have := merge_any tA tT _ g b w' hm szA (by decide) (by decide)
    rwa [mg1] at this
  go_enter Tryz.func46, Tryz.ntmps46
  go_wp2_with (first
    | (go_at_call 24; (with_reducible refine h1.mono ?_); clear h1; rintro e w2 ⟨g, b, rfl, hm, c2⟩; have t1 := HT1.out g b w2 hm)
    | (go_at_call 54; (with_reducible refine t1.mono ?_); clear t1; rintro e w3 ⟨rfl, c3⟩; have t2 := HT2.out g b w3 (hm.keep c3))
    | (go_at_call 54; (with_reducible refine t2.mono ?_); clear t2; rintro e w4 ⟨rfl, c4⟩; have t3 := HM.out g b w4 (hm.keep (c3.trans c4)))
    | (go_at_call 56; (with_reducible refine t3.mono ?_); clear t3; rintro e w5 ⟨rfl, c5⟩)
    | fail)
  go_ret
  exact ⟨rfl, ((c2.trans c3).trans c4).trans c5⟩

set_option maxHeartbeats 8000000 in
theorem nothing_walk (a b : ByteArray) (w : World) : Calls Tryz.prog 15 #[.string a, .string b] w fun e w' => e = .returned (.bool true) ∧ Ch w w' := by
  have hs := small_any a b w
  go_enter Tryz.func15, Tryz.ntmps15
  go_wp2_with (first
    | (go_at_call 45; (with_reducible refine hs.mono ?_); clear hs; rintro e w1 ⟨⟨r, rfl, hr⟩, c1⟩; cases r)
    | fail)
  · go_wp2_with (first
      | (go_at_call 46; (with_reducible refine (awake7 _).mono ?_); rintro e w2 ⟨rfl, c2⟩)
      | fail)
    go_ret
    exact ⟨rfl, c1.trans c2⟩
  · obtain ⟨ha, hb⟩ := hr (by first | rfl | trivial)
    go_wp2_with (first
      | (go_at_call 48; (with_reducible refine (sub_nil a b _).mono ?_); rintro e w2 ⟨rfl, c2⟩)
      | (go_at_call 54; (with_reducible refine (typeS_nil a b _).mono ?_); rintro e w3 ⟨rfl, hw⟩; have hw := hw.symm; subst hw)
      | (go_at_call 52; (with_reducible refine (known_nil a _).mono ?_); rintro e w4 ⟨rfl, hw⟩; have hw := hw.symm; subst hw)
      | (go_at_call 50; (with_reducible refine (common_nil a b _).mono ?_); rintro e w5 ⟨rfl, hw⟩; have hw := hw.symm; subst hw)
      | (go_at_call 56; (with_reducible refine (merge_nil a b _ (by omega)).mono ?_); rintro e w6 ⟨rfl, hw⟩; have hw := hw.symm; subst hw)
      | (go_at_call 46; (with_reducible refine (awake7 _).mono ?_); rintro e w7 ⟨rfl, c7⟩)
      | fail)
    go_ret
    exact ⟨rfl, (c1.trans c2).trans c7⟩
end Go.Proofs.YthmepecmeambmaaGreat
