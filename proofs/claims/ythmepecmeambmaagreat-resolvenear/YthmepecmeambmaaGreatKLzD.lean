/- How much there is of classes, held. -/
/- LinkKin, walked. -/
import Derived.Test.YthmepecmeambmaaGreatKBulkC
import Derived.Test.YthmepecmeambmaaGreatKLkL
import Derived.Test.YthmepecmeambmaaGreatKLzB
import Derived.Test.YthmepecmeambmaaGreatKLyG
namespace Go.Proofs.YthmepecmeambmaaGreat
open Go.RowKit
set_option linter.unusedVariables false

theorem tsum_le {α : Type} (f : α → Nat) {xs : List α} {a : α} (h : a ∈ xs) : f a ≤ (xs.map f).sum := lim_sum f xs a h
/-- What the guard over classes answers. -/
def GuardR (l : List Cls) (e : Ending) : Prop := ∃ r : Bool, e = .returned (.bool r) ∧ (r = true → okCs l)
set_option maxHeartbeats 3000000 in
set_option maxRecDepth 100000 in
theorem classesT_any (l : List Cls) (v : Value) (w : World) (h : Sl 7 RC w v l) :
    Calls Tryz.prog 22 #[v, .int .i64 12000] w fun e w' => GuardR l e ∧ Ch w w' := by
  obtain ⟨ao, c, rfl, hc1, hc2⟩ := h.form
  have HS : Hid (∀ w', Ch w w' → Sl 7 RC w' (.slice ao l.length c) l) := fun w' k => h.keep (fun cs a ⟨vi, vf, vm, e, q⟩ => ⟨vi, vf, vm, e, q.keep k⟩) k
  have HO : Hid ((l.map clsT).sum ≤ 12000 → okCs l) := fun h x hx => Nat.le_trans (tsum_le clsT hx) h
  clear h
  go_enter Tryz.func22, Tryz.ntmps22
  go_wp2_with fail
  go_loopw [5, 6] (fun n i wr => ∃ (k : Nat) (m : Int), k ≤ l.length ∧ i = .int .i64 k ∧ n = .int .i64 m ∧ Ok m (tsum clsT l k) ∧ Ch w wr) (fun _ i _ => l.length - (intOf i).toNat)
  case atStart => exact ⟨0, 0, Nat.zero_le _, rfl, rfl, by rw [tsum_zero]; exact ⟨Okk.nat 0, by decide⟩, Ch.refl _⟩
  case round =>
    obtain ⟨k, m, hk, rfl, rfl, hm, hcr⟩ := hrel
    by_cases hlt : k < l.length
    · obtain ⟨x, hx⟩ : ∃ x, l[k]? = some x := ⟨_, List.getElem?_eq_getElem hlt⟩
      obtain ⟨b, off, vi, vf, vm, rfl, hat, q0, q1, q2, q3, q4, q5, q6⟩ := (HS.out wr hcr).atC hx
      have ht := clsT_any x vi vf vm wr hat
      have HT : Hid (tsum clsT l (k + 1) = tsum clsT l k + clsT x) := tsum_succ clsT hx
      have hm0 := hm.1.1
      have hm1 := hm.2
      have HSM : Hid (∀ (q : Int) (w1 : World), OkR (.returned (.int .i64 q)) (clsT x) → Calls Tryz.prog 58 #[.int .i64 m, .slice (some ⟨w1.heap.size, 0, none⟩) 1 1] (w1.alloc (.cells #[.int .i64 q] 3)) fun e w' => OkR e (tsum clsT l k + clsT x) ∧ w' = w1.alloc (.cells #[.int .i64 q] 3)) := fun q w1 ⟨q', e, hq⟩ => by
        cases e
        exact sum1 m q _ _ w1.heap.size _ (heap_alloc_new _ _) hm hq.1
      have HC : Hid (Ch w wr) := hcr
      have HM : Hid (Ok m (tsum clsT l k)) := hm
      obtain ⟨ai, ci, rfl, _, _⟩ := hat.1.form
      obtain ⟨af, cf, rfl, _, _⟩ := hat.2.1.form
      obtain ⟨am, cm, rfl, _, _⟩ := hat.2.2.form
      clear hx hm hcr hat
      generalize tsum clsT l k = tk at *
      generalize clsT x = tx at *
      by_cases h300 : m ≤ 12000
      · go_wp2_with (first
          | (go_at_call 77; (with_reducible refine ht.mono ?_); clear ht; rintro e w1 ⟨⟨q, rfl, hq⟩, c1⟩; have hsm := HSM.out q w1 ⟨q, rfl, hq⟩)
          | (go_at_call 58; (with_reducible refine hsm.mono ?_); clear hsm; rintro e w2 ⟨⟨m2, rfl, hk2⟩, rfl⟩)
          | fail)
        exact ⟨⟨k + 1, m2, by omega, by go_num, rfl, by rw [HT.out]; exact hk2, (HC.out.trans c1).alloc _⟩, by simp [intOf]; omega⟩
      · have t0 : decide (m ≤ 12000) = false := by simpa using h300
        go_wp2_with fail
        go_ret
        exact ⟨⟨false, rfl, fun h => by cases h⟩, HC.out⟩
    · obtain rfl : k = l.length := by omega
      rw [tsum_all] at hm
      have HM : Hid (Ok m ((l.map clsT).sum)) := hm
      have HC : Hid (Ch w wr) := hcr
      have hm0 := hm.1.1
      clear hm hcr
      by_cases h300 : m ≤ 12000
      · have t0 : decide (m ≤ 12000) = true := by simpa using h300
        go_wp2_with fail
        go_ret
        exact ⟨⟨true, rfl, fun _ => HO.out (by have := HM.out.1.2 h300; omega)⟩, HC.out⟩
      · have t0 : decide (m ≤ 12000) = false := by simpa using h300
        go_wp2_with fail
        go_ret
        exact ⟨⟨false, rfl, fun h => by cases h⟩, HC.out⟩
end Go.Proofs.YthmepecmeambmaaGreat
namespace Go.Proofs.YthmepecmeambmaaGreat
open Go.RowKit
set_option linter.unusedVariables false

theorem Ow.empty (w : World) : Ow 1 9 RS w.heap.size (w.alloc (.cells #[] 9)) (.slice (some ⟨w.heap.size, 0, none⟩) 0 0) ([] : List ByteArray) :=
  ⟨fun _ => [.bool false], fun _ => rfl, ⟨rfl, Or.inr ⟨w.heap.size, 0, #[], rfl, Nat.le_refl _, heap_alloc_new _ _, Nat.le_refl _, by decide, rfl, rfl⟩⟩, fun i a h => by simp at h⟩
theorem okc_prog {l : List Cls} (h : okCs l) : okCs (prog l) := fun c hc => by
  rcases List.mem_append.1 ((prog_perm l).mem_iff.1 hc) with h1 | h1
  · have h2 : (given.all fun c => decide (clsT c ≤ 12000)) = true := by decide +kernel
    simpa using List.all_eq_true.1 h2 c h1
  · exact h c h1
theorem ifl_nodup {L : ByteArray → Option Cls} : ∀ (f k : Nat) (l : List ByteArray), l.Nodup → (ifl L f k l).Nodup
  | 0, k, l, h => h
  | f + 1, k, l, h => by
    rw [ifl]
    cases hk : l[k]? with
    | none => exact h
    | some m => exact ifl_nodup f (k + 1) _ (addI_nodup h)
theorem ifc_len {P : List Cls} (g : Gd P) (n : ByteArray) : (ifcE P n).length ≤ P.length + 1 := by
  have h1 : (ifs P n).Nodup := ifl_nodup _ _ _ (addW_nodup List.nodup_nil)
  have h2 := nodup_le (k := nms P) h1 fun y hy => by
    have := ifs_if g n y hy
    unfold isIf at this
    cases hl : lk P y with
    | none => rw [hl] at this; cases this
    | some c => exact nms_lk hl
  have h3 : (nms P).length = P.length := by unfold nms; simp
  unfold ifcE
  rw [srtS_len, List.length_append]
  have h4 : (if isIf P n = true then [n] else []).length ≤ 1 := by split <;> simp
  omega
/-- One class. -/
def KinR (P : List Cls) (x : Cls) : Prop := ∀ m, m ∈ (walkN P x.n).1 ++ ifcE P x.n → hasN (subsE P m) x.n = true ∧ (∃ c, clsOf P m = (c, true)) ∧ (m ∈ ifcE P x.n → (clsOf P m).1.it = true)
theorem kin_all {P : List Cls} (g : Gd P) {x : Cls} (hx : x ∈ P) : KinR P x := fun m hm => by
  obtain ⟨_, h2, ⟨c, h3⟩, h4⟩ := abv_in g hx hm
  have hc : clsOf P m = (c, true) := by unfold clsOf; rw [h3]
  refine ⟨hasN_iff.2 h2, ⟨c, hc⟩, fun h => ?_⟩
  have := h4 h
  unfold isIf at this
  rw [h3] at this
  rw [hc]
  exact this

set_option maxHeartbeats 32000000 in
set_option maxRecDepth 100000 in
theorem kin_walk (l : List Cls) (v : Value) (w : World) (h : Sl 7 RC w v l) : Calls Tryz.prog 6 #[v] w fun e w' => e = .returned (.bool true) ∧ Ch w w' := by
  have hg := classesT_any l v w h
  have HC : Hid (∀ w', Ch w w' → okCs l → Calls Tryz.prog 24 #[v] w' fun e w2 => ∃ u, e = .returned (.tuple #[u, .int .i64 (link l).2.1, .string (link l).2.2]) ∧ Pv w2 (link l).1 u ∧ Ch w' w2) := fun w' k hT => classes_any l v w' (h.keep (fun cs a ⟨vi, vf, vm, e, q⟩ => ⟨vi, vf, vm, e, q.keep k⟩) k) hT
  obtain ⟨ao, cl, rfl, _, _⟩ := h.form
  clear h
  go_enter Tryz.func6, Tryz.ntmps6
  go_wp2_with (first
    | (go_at_call 22; (with_reducible refine hg.mono ?_); clear hg; rintro e w1 ⟨⟨r, rfl, hr⟩, c1⟩; cases r)
    | fail)
  · go_wp2_with (first
      | (go_at_call 23; (with_reducible refine (awake6 _).mono ?_); rintro e w2 ⟨rfl, c2⟩)
      | fail)
    go_ret
    exact ⟨rfl, c1.trans c2⟩
  · have hT := hr (by first | rfl | trivial)
    have hcall := HC.out w1 c1 hT
    rcases link_two l hT with ⟨er, nm, hl, hne⟩ | ⟨hl, g⟩
    · rw [hl] at hcall
      have t0 : (er != 0) = true := by simpa using hne
      go_wp2_with (first
        | (go_at_call 24; (with_reducible refine hcall.mono ?_); clear hcall; rintro e w2 ⟨u, rfl, hu, c2⟩; have hu : u = .pointer none := hu; subst hu)
        | (go_at_call 23; (with_reducible refine (awake6 _).mono ?_); rintro e w3 ⟨rfl, c3⟩)
        | fail)
      go_ret
      exact ⟨rfl, (c1.trans c2).trans c3⟩
    · rw [hl] at hcall
      have HG : Hid (Gd (prog l)) := g
      have HTP : Hid (okCs (prog l)) := okc_prog hT
      clear HC hl hr g
      generalize prog l = P at *
      have hnl : (nms P).length = P.length := by unfold nms; simp
      go_wp2_with (first
        | (go_at_call 24; (with_reducible refine hcall.mono ?_); clear hcall; rintro e w2 ⟨u, rfl, ⟨gp, bp, rfl, hm⟩, c2⟩; have hn := namesAll_any P gp bp w2 hm)
        | (go_at_call 26; (with_reducible refine hn.mono ?_); clear hn; rintro e w3 ⟨v3, rfl, o3, c3⟩; have hform : ∃ a d, v3 = .slice a P.length d := (by obtain ⟨a, d, h⟩ := o3.form; exact ⟨a, d, by rw [h, hnl]⟩); obtain ⟨a3, d3, rfl⟩ := hform)
        | fail)
      have HP : Hid (∀ w', Ch w3 w' → Pm w' gp bp P) := fun w' k => hm.keep (c3.trans k)
      have HN : Hid (∀ w', Ch w3 w' → Ow 1 9 RS w2.heap.size w' (.slice a3 P.length d3) (nms P)) := fun w' k => o3.keepS k
      have H3 : Hid (Ch w w3) := (c1.trans c2).trans c3
      have hPl := hm.2.1
      clear hm o3 c1 c2 c3 hT
      go_loopw [7] (fun i wr => ∃ k : Nat, k ≤ P.length ∧ i = .int .i64 k ∧ Ch w3 wr) (fun i _ => P.length - (intOf i).toNat)
      case atStart => exact ⟨0, Nat.zero_le _, rfl, Ch.refl _⟩
      case round =>
        obtain ⟨k, hk, rfl, hcr⟩ := hrel
        by_cases hlt : k < P.length
        · obtain ⟨x, hx⟩ : ∃ x, P[k]? = some x := ⟨_, List.getElem?_eq_getElem hlt⟩
          have hxn : (nms P)[k]? = some x.n := by unfold nms; rw [List.getElem?_map, hx]; rfl
          have hxm := List.mem_of_getElem? hx
          obtain ⟨q, hq, hlast⟩ := walk_up HG.out hxm
          have hkin := kin_all HG.out hxm
          have hconc := conc_ab HG.out hxm
          have hsu := supers_any x.n P gp bp wr (HP.out wr hcr)
          have hln := ifc_len HG.out x.n
          have hwl : (walkN P x.n).1.length ≤ P.length := by
            obtain ⟨e, _, h2, h3, _⟩ := walk_none HG.out x.n
            exact way_le h2 h3
          obtain ⟨gn, _, e1, _, _, e2, q0, _⟩ := (HN.out wr hcr).at hxn
          have e2 : _ = [Value.string x.n] := e2
          subst e1 e2
          have HNX : Hid (∀ w', Ch w3 w' → w'.cell? ⟨gn, k, none⟩ = some (.string x.n)) := fun w' kk => by
            obtain ⟨g', cs, e1, _, _, e2, q0, _⟩ := (HN.out w' kk).at hxn
            have e2 : cs = [.string x.n] := e2
            subst e2
            cases e1
            have q0 := q0 0 _ rfl
            have off0 : k * 1 + 0 = k := by omega
            rw [off0] at q0
            exact q0
          have qn := HNX.out wr hcr
          have HTI : Hid (∀ w', Ch w3 w' → Calls Tryz.prog 34 #[.pointer (some ⟨gp, 0, none⟩), .string x.n] w' fun e w2 => ∃ v, e = .returned v ∧ Ow 1 9 RS w'.heap.size w2 v (ifcE P x.n) ∧ Ch w' w2) := fun w' kk => interfaces_told x.n P gp bp w' (HP.out w' kk) HG.out.im
          have HCL : Hid (∀ w' m c, Ch w3 w' → clsOf P m = (c, true) → Calls Tryz.prog 31 #[.pointer (some ⟨gp, 0, none⟩), .string m] w' fun e w2 => ∃ vi vf vm, e = .returned (.tuple #[.agg #[.string c.n, .string c.s, .bool c.it, .bool c.ab, vi, vf, vm], .bool true]) ∧ OwC w'.heap.size w2 c vi vf vm ∧ Ch w' w2) := fun w' m c kk hc => by
            have := class_any m P gp bp w' (HP.out w' kk) HTP.out
            rw [hc] at this
            exact this
          have HSB : Hid (∀ w' m, Ch w3 w' → Calls Tryz.prog 35 #[.pointer (some ⟨gp, 0, none⟩), .string m] w' fun e w2 => ∃ v, e = .returned v ∧ Ow 1 9 RS w'.heap.size w2 v (subsE P m) ∧ Ch w' w2) := fun w' m kk => subs_any m P gp bp w' (HP.out w' kk) HG.out.im
          have HCON : Hid (∀ w', Ch w3 w' → Calls Tryz.prog 40 #[.pointer (some ⟨gp, 0, none⟩), .string x.n] w' fun e w2 => e = .returned (.bool (conc P x.n)) ∧ Ch w' w2) := fun w' kk => concrete_any x.n P gp bp w' (HP.out w' kk)
          have HXC : Hid (clsOf P x.n = (x, true)) := by show _ = _; unfold clsOf; rw [lk_of HG.out.nd hxm]
          have hw0 : 0 < (walkN P x.n).1.length := by rw [hq]; simp
          have hw1 : (walkN P x.n).1[0]? = some x.n := by rw [hq]; rfl
          have hw2 : (walkN P x.n).1[(walkN P x.n).1.length - 1]? = some nObject := by rw [← List.getLast?_eq_getElem?]; exact hlast
          unfold KinR at hkin
          clear hq hlast
          generalize (walkN P x.n).1 = W at *
          generalize ifcE P x.n = I at *
          have HK : Hid (∀ m, m ∈ W ++ I → hasN (subsE P m) x.n = true ∧ (∃ c, clsOf P m = (c, true)) ∧ (m ∈ I → (clsOf P m).1.it = true)) := hkin
          have HCB : Hid ((conc P x.n == x.ab) = false) := hconc
          obtain ⟨bc, hbc⟩ : ∃ bc, conc P x.n = bc := ⟨_, rfl⟩
          rw [hbc] at HCON HCB
          clear hkin hx hxn hxm q0 hbc hconc
          go_wp2_with (first
            | (go_at_call 33; (with_reducible refine hsu.mono ?_); clear hsu; rintro e w4 ⟨v4, rfl, o4, c4⟩; have H4 : Hid (Ch wr w4) := c4; obtain ⟨a4, d4, rfl⟩ := o4.form)
            | fail)
          obtain ⟨g8, cs8, e8, _, _, e82, p0, _⟩ := o4.at hw1
          have e82 : cs8 = [Value.string x.n] := e82
          subst e8 e82
          have p0 := p0 0 _ rfl
          obtain ⟨g9, cs9, e9, _, _, e92, p1, _⟩ := o4.at hw2
          have e92 : cs9 = [Value.string nObject] := e92
          cases e9
          subst e92
          have p1 := p1 0 _ rfl
          have off0 : (W.length - 1) * 1 + 0 = W.length - 1 := by omega
          rw [off0] at p1
          have off1 : 0 * 1 + 0 = 0 := by omega
          rw [off1] at p0
          have HO4 : Hid (∀ w', Ch w4 w' → Ow 1 9 RS wr.heap.size w' (.slice (some ⟨g8, 0, none⟩) W.length d4) W) := fun w' kk => o4.keepS kk
          generalize hn8 : W.length = n8 at *
          have HLW : Hid (W.length = n8) := hn8
          clear o4 c4 off0 off1 hw1 hw2 hn8
          obtain ⟨j8, hj8⟩ : ∃ j, n8 - 1 = j := ⟨_, rfl⟩
          rw [hj8] at p1
          have hwr : IntKind.i64.wrap ((n8 : Int) - 1) = (j8 : Int) := by rw [IntKind.wrap_i64]; omega
          have hjn : j8 < n8 := by omega
          have hnz : ((n8 : Int) == 0) = false := by rw [beq_eq_false_iff_ne]; omega
          have hq0 : (x.n.toList != x.n.toList) = false := by simp
          have kd := H4.out.trans (Ch.refl _).drew
          have s1 := cell_keep (Ch.refl w4).drew p0
          have s2 := HNX.out w4.drew (hcr.trans kd)
          have s3 := cell_keep (Ch.refl w4).drew p1
          go_region_held3 (fun w' => w'.cell? ⟨g8, 0, none⟩ = some (.string x.n) ∧ w'.cell? ⟨gn, k, none⟩ = some (.string x.n) ∧ w'.cell? ⟨g8, j8, none⟩ = some (.string nObject)) (first | (with_reducible exact ⟨s1, s2, s3⟩) | fail) (first | fail)
          go_wp2_with (first
            | (go_at_call 34; (with_reducible refine (HTI.out _ (hcr.trans kd)).mono ?_); rintro e w5 ⟨v5, rfl, o5, c5⟩; obtain ⟨a5, d5, rfl⟩ := o5.form; have k5 := (hcr.trans kd).trans c5; have o8 := HO4.out (w5.alloc (.cells #[] 9)) (((Ch.refl _).drew.trans c5).alloc _))
            | (at_builtin; refine (Ow.empty w5).catS o8 rfl (.tmp 79) (.tmp 80) rfl rfl rfl (by simp) (by rw [HLW.out]; omega) (by simp) ?_; intro v81 w81 o81 g81 b81; have c81 : Ch w5 w81 := ((Ch.refl w5).alloc _).grown g81 b81; have o5' := o5.keepS c81; have hs81 := c81.size; obtain ⟨a81, d81, rfl⟩ := o81.form)
            | (at_builtin; refine o81.catS o5' rfl (.tmp 81) (.tmp 82) rfl rfl rfl (by rw [List.nil_append, HLW.out]; omega) (by omega) (by omega) ?_; intro v83 w83 o83 g83 b83; have c83 : Ch w5 w83 := c81.grown g83 b83; obtain ⟨a83, d83, rfl⟩ := o83.form)
            | fail)
          have HI : Hid (Ch w3 w83) := k5.trans c83
          have HALL : Hid (∀ w', Ch w83 w' → Ow 1 9 RS w5.heap.size w' (.slice a83 (W.length + I.length) d83) (W ++ I)) := fun w' kk => by
            have := o83.keepS kk
            simpa using this
          clear o83 o81 o8 o5 o5' c81 c83 g81 g83 b81 b83 k5 c5 s1 s2 s3 p0 p1 hs81 kd
          have hnA : (W ++ I).length = W.length + I.length := List.length_append
          have hbd : W.length + I.length ≤ 3000 := by rw [HLW.out]; omega
          go_loopw [11] (fun i wr2 => ∃ k2 : Nat, k2 ≤ W.length + I.length ∧ i = .int .i64 k2 ∧ Ch w83 wr2) (fun i _ => W.length + I.length - (intOf i).toNat)
          case atStart => exact ⟨0, Nat.zero_le _, rfl, Ch.refl _⟩
          case round =>
            obtain ⟨k2, hk2, rfl, hc2⟩ := hrel
            have k2c := HI.out.trans hc2
            by_cases hlt2 : k2 < W.length + I.length
            · obtain ⟨m, hm⟩ : ∃ m, (W ++ I)[k2]? = some m := ⟨_, List.getElem?_eq_getElem (by rw [hnA]; exact hlt2)⟩
              obtain ⟨hk1, ⟨c, hc⟩, hk3⟩ := HK.out m (List.mem_of_getElem? hm)
              have hit : n8 ≤ k2 → c.it = true := fun h => by
                have h1 := hk3 (by
                  rw [List.getElem?_append_right (by rw [HLW.out]; exact h)] at hm
                  exact List.mem_of_getElem? hm)
                rw [hc] at h1
                exact h1
              obtain ⟨gA, csA, eA, _, _, eA2, pA, _⟩ := (HALL.out wr hc2).at hm
              have eA2 : csA = [Value.string m] := eA2
              subst eA eA2
              have pA := pA 0 _ rfl
              have offA : k2 * 1 + 0 = k2 := by omega
              rw [offA] at pA
              have HM2 : Hid (∀ w', Ch w83 w' → w'.cell? ⟨gA, k2, none⟩ = some (.string m)) := fun w' kk => by
                obtain ⟨g', cs, e1, _, _, e2, q0, _⟩ := (HALL.out w' kk).at hm
                have e2 : cs = [.string m] := e2
                subst e2
                cases e1
                have q0 := q0 0 _ rfl
                rw [offA] at q0
                exact q0
              have HHAS : Hid (∀ w' v, Sl 1 RS w' v (subsE P m) → Calls Tryz.prog 39 #[v, .string x.n] w' fun e w2 => e = .returned (.bool true) ∧ w2 = w') := fun w' v hv => by
                have := has_any (subsE P m) x.n v w' hv
                rwa [hk1] at this
              have sB := HNX.out _ k2c
              have sd1 := cell_keep (Ch.refl wr).drew pA
              have sd2 := cell_keep (Ch.refl wr).drew sB
              have HIT : Hid (n8 ≤ k2 → c.it = true) := hit
              clear hm hk1 hk3 offA hit
              go_wp2_with fail
              refine wp_region_held_drew (S := fun w' => w'.cell? ⟨gA, k2, none⟩ = some (.string m) ∧ w'.cell? ⟨gn, k, none⟩ = some (.string x.n)) (by kernel_rfl) (by exact ⟨sd1, sd2⟩) (fun hHeld => ?_)
              refine wpAnyH_take (i := 0) (oi := ({ dst := some 90, op := Go.Op.move (Go.Operand.tmp 3), type := 25, pos := "law.go:131", after := #[], guard := none } : Oper)) (v := ?_) rfl (by kernel_rfl) (by kernel_rfl) (by kernel_rfl) (fun _ _ _ h => h) (Or.inl ⟨by rfl, ?_⟩) (by assumption) ?_
              rotate_left
              focus (intro w' hSw; (try dsimp only at hSw); go_split_ands; go_simp; try with_reducible rfl)
              (try simp only [Act.put, List.setIfInBounds_toArray, List.set_cons_zero, List.set_cons_succ])
              refine wpAnyH_take (i := 1) (oi := ({ dst := some 91, op := Go.Op.move (Go.Operand.tmp 10), type := 32, pos := "law.go:131", after := #[], guard := none } : Oper)) (v := ?_) rfl (by kernel_rfl) (by kernel_rfl) (by kernel_rfl) (fun _ _ _ h => h) (Or.inl ⟨by rfl, ?_⟩) (by assumption) ?_
              rotate_left
              focus (intro w' hSw; (try dsimp only at hSw); go_split_ands; go_simp; try with_reducible rfl)
              (try simp only [Act.put, List.setIfInBounds_toArray, List.set_cons_zero, List.set_cons_succ])
              refine wpAnyH_take (i := 2) (oi := ({ dst := some 92, op := Go.Op.move (Go.Operand.tmp 11), type := 3, pos := "law.go:131", after := #[], guard := none } : Oper)) (v := ?_) rfl (by kernel_rfl) (by kernel_rfl) (by kernel_rfl) (fun _ _ _ h => h) (Or.inl ⟨by rfl, ?_⟩) (by assumption) ?_
              rotate_left
              focus (intro w' hSw; (try dsimp only at hSw); go_split_ands; go_simp; try with_reducible rfl)
              (try simp only [Act.put, List.setIfInBounds_toArray, List.set_cons_zero, List.set_cons_succ])
              refine wpAnyH_take (i := 3) (oi := ({ dst := some 93, op := Go.Op.indexAddr 32 (Go.Operand.tmp 91) (Go.Operand.tmp 92), type := 0, pos := "law.go:131", after := #[{ on := 1, ground := Go.Ground.data }, { on := 2, ground := Go.Ground.data }], guard := none } : Oper)) (v := ?_) rfl (by kernel_rfl) (by kernel_rfl) (by kernel_rfl) (fun _ _ _ h => h) (Or.inl ⟨by rfl, ?_⟩) (by assumption) ?_
              rotate_left
              focus (intro w' hSw; (try dsimp only at hSw); go_split_ands; go_simp; try with_reducible rfl)
              (try simp only [Act.put, List.setIfInBounds_toArray, List.set_cons_zero, List.set_cons_succ])
              refine wpAnyH_take (i := 4) (oi := ({ dst := some 94, op := Go.Op.load 9 (Go.Operand.tmp 93), type := 9, pos := "law.go:131", after := #[{ on := 3, ground := Go.Ground.data }], guard := none } : Oper)) (v := ?_) rfl (by kernel_rfl) (by kernel_rfl) (by kernel_rfl) (fun _ _ _ h => h) (Or.inl ⟨by rfl, ?_⟩) (by assumption) ?_
              rotate_left
              focus (intro w' hSw; (try dsimp only at hSw); go_split_ands; go_simp; try with_reducible rfl)
              (try simp only [Act.put, List.setIfInBounds_toArray, List.set_cons_zero, List.set_cons_succ])
              refine wpAnyH_take (i := 6) (oi := ({ dst := some 96, op := Go.Op.move (Go.Operand.tmp 6), type := 32, pos := "law.go:131", after := #[], guard := none } : Oper)) (v := ?_) rfl (by kernel_rfl) (by kernel_rfl) (by kernel_rfl) (fun _ _ _ h => h) (Or.inl ⟨by rfl, ?_⟩) (by assumption) ?_
              rotate_left
              focus (intro w' hSw; (try dsimp only at hSw); go_split_ands; go_simp; try with_reducible rfl)
              (try simp only [Act.put, List.setIfInBounds_toArray, List.set_cons_zero, List.set_cons_succ])
              refine wpAnyH_take (i := 7) (oi := ({ dst := some 97, op := Go.Op.move (Go.Operand.tmp 7), type := 3, pos := "law.go:131", after := #[], guard := none } : Oper)) (v := ?_) rfl (by kernel_rfl) (by kernel_rfl) (by kernel_rfl) (fun _ _ _ h => h) (Or.inl ⟨by rfl, ?_⟩) (by assumption) ?_
              rotate_left
              focus (intro w' hSw; (try dsimp only at hSw); go_split_ands; go_simp; try with_reducible rfl)
              (try simp only [Act.put, List.setIfInBounds_toArray, List.set_cons_zero, List.set_cons_succ])
              refine wpAnyH_take (i := 8) (oi := ({ dst := some 98, op := Go.Op.indexAddr 32 (Go.Operand.tmp 96) (Go.Operand.tmp 97), type := 0, pos := "law.go:131", after := #[{ on := 6, ground := Go.Ground.data }, { on := 7, ground := Go.Ground.data }], guard := none } : Oper)) (v := ?_) rfl (by kernel_rfl) (by kernel_rfl) (by kernel_rfl) (fun _ _ _ h => h) (Or.inl ⟨by rfl, ?_⟩) (by assumption) ?_
              rotate_left
              focus (intro w' hSw; (try dsimp only at hSw); go_split_ands; go_simp; try with_reducible rfl)
              (try simp only [Act.put, List.setIfInBounds_toArray, List.set_cons_zero, List.set_cons_succ])
              refine wpAnyH_take (i := 9) (oi := ({ dst := some 99, op := Go.Op.load 9 (Go.Operand.tmp 98), type := 9, pos := "law.go:131", after := #[{ on := 8, ground := Go.Ground.data }], guard := none } : Oper)) (v := ?_) rfl (by kernel_rfl) (by kernel_rfl) (by kernel_rfl) (fun _ _ _ h => h) (Or.inl ⟨by rfl, ?_⟩) (by assumption) ?_
              rotate_left
              focus (intro w' hSw; (try dsimp only at hSw); go_split_ands; go_simp; try with_reducible rfl)
              (try simp only [Act.put, List.setIfInBounds_toArray, List.set_cons_zero, List.set_cons_succ])
              refine wpAnyH_ready (rs := [5]) (by kernel_rfl) (by simp) ?_
              refine AllReadyH.cons (o := ({ dst := some 95, op := Go.Op.call { callee := Go.Callee.value (Go.Operand.func 35), args := #[Go.Operand.tmp 90, Go.Operand.tmp 94], argTypes := #[25, 9] }, type := 32, pos := "law.go:131", after := #[{ on := 0, ground := Go.Ground.data }, { on := 4, ground := Go.Ground.data }], guard := none } : Oper)) rfl (fun K hK => ?_) AllReadyH.nil
              go_simp
              go_at_call 35; (with_reducible refine (HSB.out _ m (k2c.trans (Ch.refl _).drew)).mono ?_); rintro e wa ⟨va, rfl, oa, ca⟩; have ka := (k2c.trans (Ch.refl _).drew).trans ca; have kb := (hc2.trans (Ch.refl _).drew).trans ca; have sa1 := HM2.out wa kb; have sa2 := HNX.out wa ka; have hhas := HHAS.out wa va oa.sl; have hcls := HCL.out wa m c ka hc; obtain ⟨aa, da, rfl⟩ := oa.form
              refine hK.out _ _ ?_ (fun hHeld => ?_)
              exact ⟨sa1, sa2⟩
              clear hK K
              (try simp only [Act.put, List.setIfInBounds_toArray, List.set_cons_zero, List.set_cons_succ])
              refine wpAnyH_ready (rs := [10]) (by kernel_rfl) (by simp) ?_
              refine AllReadyH.cons (o := ({ dst := some 100, op := Go.Op.call { callee := Go.Callee.value (Go.Operand.func 39), args := #[Go.Operand.tmp 95, Go.Operand.tmp 99], argTypes := #[32, 9] }, type := 4, pos := "law.go:131", after := #[{ on := 5, ground := Go.Ground.data }, { on := 9, ground := Go.Ground.data }, { on := 5, ground := Go.Ground.chain }], guard := none } : Oper)) rfl (fun K hK => ?_) AllReadyH.nil
              go_simp
              go_at_call 39; (with_reducible refine hhas.mono ?_); clear hhas; rintro e w' ⟨rfl, hw⟩; have hw := hw.symm; subst hw
              refine hK.out _ _ ?_ (fun hHeld => ?_)
              exact ⟨sa1, sa2⟩
              clear hK K
              (try simp only [Act.put, List.setIfInBounds_toArray, List.set_cons_zero, List.set_cons_succ])
              refine wpAnyH_take (i := 11) (oi := ({ dst := some 101, op := Go.Op.unOp Go.UnOp.not 4 (Go.Operand.tmp 100), type := 4, pos := "law.go:131", after := #[{ on := 10, ground := Go.Ground.data }], guard := none } : Oper)) (v := ?_) rfl (by kernel_rfl) (by kernel_rfl) (by kernel_rfl) (fun _ _ _ h => h) (Or.inl ⟨by rfl, ?_⟩) (by assumption) ?_
              rotate_left
              focus (intro w' hSw; (try dsimp only at hSw); go_split_ands; go_simp; try with_reducible rfl)
              (try simp only [Act.put, List.setIfInBounds_toArray, List.set_cons_zero, List.set_cons_succ])
              refine wpAnyH_done (by kernel_rfl) ?_ _
              go_wp2_with fail
              have hsz7 : Hid (k2 + 1 ≤ W.length + I.length) := (by omega : k2 + 1 ≤ W.length + I.length)
              by_cases hge : n8 ≤ k2
              · have hci := HIT.out hge
                have t1 : decide ((n8 : Int) ≤ (k2 : Int)) = true := by simpa using hge
                obtain ⟨cn, cu, ci, ca, cm, cf, ce⟩ := c
                have hci : ci = true := hci
                subst hci
                dsimp only at *
                go_wp2_with (first
                  | (go_at_call 31; (with_reducible refine hcls.mono ?_); clear hcls; rintro e wc ⟨vi, vf, vm, rfl, ow, cc⟩; obtain ⟨ac3, dc3, rfl⟩ := Ow.form ow.i; obtain ⟨ac4, dc4, rfl⟩ := Ow.form ow.f; obtain ⟨ac5, dc5, rfl⟩ := Ow.form ow.m; have T1 := Bo.new (kb.trans cc) #[.string ⟨#[]⟩, .string ⟨#[]⟩, .bool false, .bool false, .slice none 0 0, .slice none 0 0, .slice none 0 0] 41)
                  | (refine wpList_store_row rfl 41 (.tmp 12) (.tmp 109) rfl wc.heap.size #[.string cn, .string cu, .bool true, .bool ca, .slice ac3 cm.length dc3, .slice ac4 cf.length dc4, .slice ac5 ce.length dc5] rfl rfl 41 _ T1.b infoC rfl (one7 _ _ _ _ _ _ _ _ _ _ _ _ _) ?_; have T2 := T1.setRow #[.string cn, .string cu, .bool true, .bool ca, .slice ac3 cm.length dc3, .slice ac4 cf.length dc4, .slice ac5 ce.length dc5]; have p2 := T2.c 2 rfl)
                  | fail)
                have h7 := hsz7.out
                go_roundw
                case rel => exact ⟨k2 + 1, hsz7.out, by go_num, T2.ch⟩
                case measure => simp [intOf]; omega
              · have t1 : decide ((n8 : Int) ≤ (k2 : Int)) = false := by simpa using hge
                go_wp2_with (first
                  | (go_at_call 31; (with_reducible refine hcls.mono ?_); clear hcls; rintro e wc ⟨vi, vf, vm, rfl, ow, cc⟩; obtain ⟨ac3, dc3, rfl⟩ := Ow.form ow.i; obtain ⟨ac4, dc4, rfl⟩ := Ow.form ow.f; obtain ⟨ac5, dc5, rfl⟩ := Ow.form ow.m; have T1 := Bo.new (kb.trans cc) #[.string ⟨#[]⟩, .string ⟨#[]⟩, .bool false, .bool false, .slice none 0 0, .slice none 0 0, .slice none 0 0] 41)
                  | (refine wpList_store_row rfl 41 (.tmp 12) (.tmp 109) rfl wc.heap.size #[.string c.n, .string c.s, .bool c.it, .bool c.ab, .slice ac3 c.im.length dc3, .slice ac4 c.fs.length dc4, .slice ac5 c.me.length dc5] rfl rfl 41 _ T1.b infoC rfl (one7 _ _ _ _ _ _ _ _ _ _ _ _ _) ?_; have T2 := T1.setRow #[.string c.n, .string c.s, .bool c.it, .bool c.ab, .slice ac3 c.im.length dc3, .slice ac4 c.fs.length dc4, .slice ac5 c.me.length dc5]; have p2 := T2.c 2 rfl)
                  | fail)
                have h7 := hsz7.out
                go_roundw
                case rel => exact ⟨k2 + 1, hsz7.out, by go_num, T2.ch⟩
                case measure => simp [intOf]; omega
            · obtain rfl : k2 = W.length + I.length := by omega
              have sX := HNX.out _ k2c
              have hclx := HCL.out _ x.n x k2c HXC.out
              have hcb := HCB.out
              obtain ⟨xn, xs, xi, xa, xm, xf, xe⟩ := x
              dsimp only at *
              cases bc <;> cases xa
              · cases hcb
              · go_wp2_with (first
                  | (go_at_call 31; (with_reducible refine hclx.mono ?_); clear hclx; rintro e wf ⟨vi, vf, vm, rfl, ow, cc⟩; obtain ⟨ac3, dc3, rfl⟩ := Ow.form ow.i; obtain ⟨ac4, dc4, rfl⟩ := Ow.form ow.f; obtain ⟨ac5, dc5, rfl⟩ := Ow.form ow.m; have T1 := Bo.new (k2c.trans cc) #[.string ⟨#[]⟩, .string ⟨#[]⟩, .bool false, .bool false, .slice none 0 0, .slice none 0 0, .slice none 0 0] 41)
                  | (refine wpList_store_row rfl 41 (.tmp 14) (.tmp 131) rfl wf.heap.size #[.string xn, .string xs, .bool xi, .bool true, .slice ac3 xm.length dc3, .slice ac4 xf.length dc4, .slice ac5 xe.length dc5] rfl rfl 41 _ T1.b infoC rfl (one7 _ _ _ _ _ _ _ _ _ _ _ _ _) ?_; have T7 := (T1.setRow #[.string xn, .string xs, .bool xi, .bool true, .slice ac3 xm.length dc3, .slice ac4 xf.length dc4, .slice ac5 xe.length dc5]).call (Ch.refl _).drew)
                  | fail)
                have sg0 := HNX.out _ T7.ch
                refine wp_region_held_drew (S := fun w' => w'.cell? ⟨gn, k, none⟩ = some (.string xn) ∧ w'.cell? ⟨wf.heap.size, 3, none⟩ = some (.bool true)) (by kernel_rfl) (by exact ⟨sg0, T7.c 3 rfl⟩) (fun hHeld => ?_)
                refine wpAnyH_take (i := 0) (oi := ({ dst := some 133, op := Go.Op.move (Go.Operand.tmp 3), type := 25, pos := "law.go:140", after := #[], guard := none } : Oper)) (v := ?_) rfl (by kernel_rfl) (by kernel_rfl) (by kernel_rfl) (fun _ _ _ h => h) (Or.inl ⟨by rfl, ?_⟩) (by assumption) ?_
                rotate_left
                focus (intro w' hSw; (try dsimp only at hSw); go_split_ands; go_simp; try with_reducible rfl)
                (try simp only [Act.put, List.setIfInBounds_toArray, List.set_cons_zero, List.set_cons_succ])
                refine wpAnyH_take (i := 1) (oi := ({ dst := some 134, op := Go.Op.move (Go.Operand.tmp 6), type := 32, pos := "law.go:140", after := #[], guard := none } : Oper)) (v := ?_) rfl (by kernel_rfl) (by kernel_rfl) (by kernel_rfl) (fun _ _ _ h => h) (Or.inl ⟨by rfl, ?_⟩) (by assumption) ?_
                rotate_left
                focus (intro w' hSw; (try dsimp only at hSw); go_split_ands; go_simp; try with_reducible rfl)
                (try simp only [Act.put, List.setIfInBounds_toArray, List.set_cons_zero, List.set_cons_succ])
                refine wpAnyH_take (i := 2) (oi := ({ dst := some 135, op := Go.Op.move (Go.Operand.tmp 7), type := 3, pos := "law.go:140", after := #[], guard := none } : Oper)) (v := ?_) rfl (by kernel_rfl) (by kernel_rfl) (by kernel_rfl) (fun _ _ _ h => h) (Or.inl ⟨by rfl, ?_⟩) (by assumption) ?_
                rotate_left
                focus (intro w' hSw; (try dsimp only at hSw); go_split_ands; go_simp; try with_reducible rfl)
                (try simp only [Act.put, List.setIfInBounds_toArray, List.set_cons_zero, List.set_cons_succ])
                refine wpAnyH_take (i := 3) (oi := ({ dst := some 136, op := Go.Op.indexAddr 32 (Go.Operand.tmp 134) (Go.Operand.tmp 135), type := 0, pos := "law.go:140", after := #[{ on := 1, ground := Go.Ground.data }, { on := 2, ground := Go.Ground.data }], guard := none } : Oper)) (v := ?_) rfl (by kernel_rfl) (by kernel_rfl) (by kernel_rfl) (fun _ _ _ h => h) (Or.inl ⟨by rfl, ?_⟩) (by assumption) ?_
                rotate_left
                focus (intro w' hSw; (try dsimp only at hSw); go_split_ands; go_simp; try with_reducible rfl)
                (try simp only [Act.put, List.setIfInBounds_toArray, List.set_cons_zero, List.set_cons_succ])
                refine wpAnyH_take (i := 4) (oi := ({ dst := some 137, op := Go.Op.load 9 (Go.Operand.tmp 136), type := 9, pos := "law.go:140", after := #[{ on := 3, ground := Go.Ground.data }], guard := none } : Oper)) (v := ?_) rfl (by kernel_rfl) (by kernel_rfl) (by kernel_rfl) (fun _ _ _ h => h) (Or.inl ⟨by rfl, ?_⟩) (by assumption) ?_
                rotate_left
                focus (intro w' hSw; (try dsimp only at hSw); go_split_ands; go_simp; try with_reducible rfl)
                (try simp only [Act.put, List.setIfInBounds_toArray, List.set_cons_zero, List.set_cons_succ])
                refine wpAnyH_take (i := 6) (oi := ({ dst := some 139, op := Go.Op.fieldAddr 41 (Go.Operand.tmp 14) 3, type := 0, pos := "law.go:140", after := #[], guard := none } : Oper)) (v := ?_) rfl (by kernel_rfl) (by kernel_rfl) (by kernel_rfl) (fun _ _ _ h => h) (Or.inl ⟨by rfl, ?_⟩) (by assumption) ?_
                rotate_left
                focus (intro w' hSw; (try dsimp only at hSw); go_split_ands; go_simp; try with_reducible rfl)
                (try simp only [Act.put, List.setIfInBounds_toArray, List.set_cons_zero, List.set_cons_succ])
                refine wpAnyH_take (i := 7) (oi := ({ dst := some 140, op := Go.Op.load 4 (Go.Operand.tmp 139), type := 4, pos := "law.go:140", after := #[{ on := 6, ground := Go.Ground.data }], guard := none } : Oper)) (v := ?_) rfl (by kernel_rfl) (by kernel_rfl) (by kernel_rfl) (fun _ _ _ h => h) (Or.inl ⟨by rfl, ?_⟩) (by assumption) ?_
                rotate_left
                focus (intro w' hSw; (try dsimp only at hSw); go_split_ands; go_simp; try with_reducible rfl)
                (try simp only [Act.put, List.setIfInBounds_toArray, List.set_cons_zero, List.set_cons_succ])
                refine wpAnyH_ready (rs := [5]) (by kernel_rfl) (by simp) ?_
                refine AllReadyH.cons (o := ({ dst := some 138, op := Go.Op.call { callee := Go.Callee.value (Go.Operand.func 40), args := #[Go.Operand.tmp 133, Go.Operand.tmp 137], argTypes := #[25, 9] }, type := 4, pos := "law.go:140", after := #[{ on := 0, ground := Go.Ground.data }, { on := 4, ground := Go.Ground.data }], guard := none } : Oper)) rfl (fun K hK => ?_) AllReadyH.nil
                go_simp
                go_at_call 40; (with_reducible refine (HCON.out _ T7.ch).mono ?_); rintro e wg ⟨rfl, cg⟩; have T8 := T7.call cg; have sg1 := HNX.out wg T8.ch; have sg2 := T8.c 3 rfl
                refine hK.out _ _ ?_ (fun hHeld => ?_)
                exact ⟨sg1, sg2⟩
                clear hK K
                (try simp only [Act.put, List.setIfInBounds_toArray, List.set_cons_zero, List.set_cons_succ])
                refine wpAnyH_take (i := 8) (oi := ({ dst := some 141, op := Go.Op.binOp Go.BinOp.eql 4 (Go.Operand.tmp 138) (Go.Operand.tmp 140) 4, type := 4, pos := "law.go:140", after := #[{ on := 5, ground := Go.Ground.data }, { on := 7, ground := Go.Ground.data }], guard := none } : Oper)) (v := ?_) rfl (by kernel_rfl) (by kernel_rfl) (by kernel_rfl) (fun _ _ _ h => h) (Or.inl ⟨by rfl, ?_⟩) (by assumption) ?_
                rotate_left
                focus (intro w' hSw; (try dsimp only at hSw); go_split_ands; go_simp; try with_reducible rfl)
                (try simp only [Act.put, List.setIfInBounds_toArray, List.set_cons_zero, List.set_cons_succ])
                refine wpAnyH_done (by kernel_rfl) ?_ _
                go_wp2_with fail
                go_roundw
                case rel => exact ⟨k + 1, by omega, by go_num, T8.ch⟩
                case measure => simp [intOf]; omega
              · go_wp2_with (first
                  | (go_at_call 31; (with_reducible refine hclx.mono ?_); clear hclx; rintro e wf ⟨vi, vf, vm, rfl, ow, cc⟩; obtain ⟨ac3, dc3, rfl⟩ := Ow.form ow.i; obtain ⟨ac4, dc4, rfl⟩ := Ow.form ow.f; obtain ⟨ac5, dc5, rfl⟩ := Ow.form ow.m; have T1 := Bo.new (k2c.trans cc) #[.string ⟨#[]⟩, .string ⟨#[]⟩, .bool false, .bool false, .slice none 0 0, .slice none 0 0, .slice none 0 0] 41)
                  | (refine wpList_store_row rfl 41 (.tmp 14) (.tmp 131) rfl wf.heap.size #[.string xn, .string xs, .bool xi, .bool false, .slice ac3 xm.length dc3, .slice ac4 xf.length dc4, .slice ac5 xe.length dc5] rfl rfl 41 _ T1.b infoC rfl (one7 _ _ _ _ _ _ _ _ _ _ _ _ _) ?_; have T7 := (T1.setRow #[.string xn, .string xs, .bool xi, .bool false, .slice ac3 xm.length dc3, .slice ac4 xf.length dc4, .slice ac5 xe.length dc5]).call (Ch.refl _).drew)
                  | fail)
                have sg0 := HNX.out _ T7.ch
                refine wp_region_held_drew (S := fun w' => w'.cell? ⟨gn, k, none⟩ = some (.string xn) ∧ w'.cell? ⟨wf.heap.size, 3, none⟩ = some (.bool false)) (by kernel_rfl) (by exact ⟨sg0, T7.c 3 rfl⟩) (fun hHeld => ?_)
                refine wpAnyH_take (i := 0) (oi := ({ dst := some 133, op := Go.Op.move (Go.Operand.tmp 3), type := 25, pos := "law.go:140", after := #[], guard := none } : Oper)) (v := ?_) rfl (by kernel_rfl) (by kernel_rfl) (by kernel_rfl) (fun _ _ _ h => h) (Or.inl ⟨by rfl, ?_⟩) (by assumption) ?_
                rotate_left
                focus (intro w' hSw; (try dsimp only at hSw); go_split_ands; go_simp; try with_reducible rfl)
                (try simp only [Act.put, List.setIfInBounds_toArray, List.set_cons_zero, List.set_cons_succ])
                refine wpAnyH_take (i := 1) (oi := ({ dst := some 134, op := Go.Op.move (Go.Operand.tmp 6), type := 32, pos := "law.go:140", after := #[], guard := none } : Oper)) (v := ?_) rfl (by kernel_rfl) (by kernel_rfl) (by kernel_rfl) (fun _ _ _ h => h) (Or.inl ⟨by rfl, ?_⟩) (by assumption) ?_
                rotate_left
                focus (intro w' hSw; (try dsimp only at hSw); go_split_ands; go_simp; try with_reducible rfl)
                (try simp only [Act.put, List.setIfInBounds_toArray, List.set_cons_zero, List.set_cons_succ])
                refine wpAnyH_take (i := 2) (oi := ({ dst := some 135, op := Go.Op.move (Go.Operand.tmp 7), type := 3, pos := "law.go:140", after := #[], guard := none } : Oper)) (v := ?_) rfl (by kernel_rfl) (by kernel_rfl) (by kernel_rfl) (fun _ _ _ h => h) (Or.inl ⟨by rfl, ?_⟩) (by assumption) ?_
                rotate_left
                focus (intro w' hSw; (try dsimp only at hSw); go_split_ands; go_simp; try with_reducible rfl)
                (try simp only [Act.put, List.setIfInBounds_toArray, List.set_cons_zero, List.set_cons_succ])
                refine wpAnyH_take (i := 3) (oi := ({ dst := some 136, op := Go.Op.indexAddr 32 (Go.Operand.tmp 134) (Go.Operand.tmp 135), type := 0, pos := "law.go:140", after := #[{ on := 1, ground := Go.Ground.data }, { on := 2, ground := Go.Ground.data }], guard := none } : Oper)) (v := ?_) rfl (by kernel_rfl) (by kernel_rfl) (by kernel_rfl) (fun _ _ _ h => h) (Or.inl ⟨by rfl, ?_⟩) (by assumption) ?_
                rotate_left
                focus (intro w' hSw; (try dsimp only at hSw); go_split_ands; go_simp; try with_reducible rfl)
                (try simp only [Act.put, List.setIfInBounds_toArray, List.set_cons_zero, List.set_cons_succ])
                refine wpAnyH_take (i := 4) (oi := ({ dst := some 137, op := Go.Op.load 9 (Go.Operand.tmp 136), type := 9, pos := "law.go:140", after := #[{ on := 3, ground := Go.Ground.data }], guard := none } : Oper)) (v := ?_) rfl (by kernel_rfl) (by kernel_rfl) (by kernel_rfl) (fun _ _ _ h => h) (Or.inl ⟨by rfl, ?_⟩) (by assumption) ?_
                rotate_left
                focus (intro w' hSw; (try dsimp only at hSw); go_split_ands; go_simp; try with_reducible rfl)
                (try simp only [Act.put, List.setIfInBounds_toArray, List.set_cons_zero, List.set_cons_succ])
                refine wpAnyH_take (i := 6) (oi := ({ dst := some 139, op := Go.Op.fieldAddr 41 (Go.Operand.tmp 14) 3, type := 0, pos := "law.go:140", after := #[], guard := none } : Oper)) (v := ?_) rfl (by kernel_rfl) (by kernel_rfl) (by kernel_rfl) (fun _ _ _ h => h) (Or.inl ⟨by rfl, ?_⟩) (by assumption) ?_
                rotate_left
                focus (intro w' hSw; (try dsimp only at hSw); go_split_ands; go_simp; try with_reducible rfl)
                (try simp only [Act.put, List.setIfInBounds_toArray, List.set_cons_zero, List.set_cons_succ])
                refine wpAnyH_take (i := 7) (oi := ({ dst := some 140, op := Go.Op.load 4 (Go.Operand.tmp 139), type := 4, pos := "law.go:140", after := #[{ on := 6, ground := Go.Ground.data }], guard := none } : Oper)) (v := ?_) rfl (by kernel_rfl) (by kernel_rfl) (by kernel_rfl) (fun _ _ _ h => h) (Or.inl ⟨by rfl, ?_⟩) (by assumption) ?_
                rotate_left
                focus (intro w' hSw; (try dsimp only at hSw); go_split_ands; go_simp; try with_reducible rfl)
                (try simp only [Act.put, List.setIfInBounds_toArray, List.set_cons_zero, List.set_cons_succ])
                refine wpAnyH_ready (rs := [5]) (by kernel_rfl) (by simp) ?_
                refine AllReadyH.cons (o := ({ dst := some 138, op := Go.Op.call { callee := Go.Callee.value (Go.Operand.func 40), args := #[Go.Operand.tmp 133, Go.Operand.tmp 137], argTypes := #[25, 9] }, type := 4, pos := "law.go:140", after := #[{ on := 0, ground := Go.Ground.data }, { on := 4, ground := Go.Ground.data }], guard := none } : Oper)) rfl (fun K hK => ?_) AllReadyH.nil
                go_simp
                go_at_call 40; (with_reducible refine (HCON.out _ T7.ch).mono ?_); rintro e wg ⟨rfl, cg⟩; have T8 := T7.call cg; have sg1 := HNX.out wg T8.ch; have sg2 := T8.c 3 rfl
                refine hK.out _ _ ?_ (fun hHeld => ?_)
                exact ⟨sg1, sg2⟩
                clear hK K
                (try simp only [Act.put, List.setIfInBounds_toArray, List.set_cons_zero, List.set_cons_succ])
                refine wpAnyH_take (i := 8) (oi := ({ dst := some 141, op := Go.Op.binOp Go.BinOp.eql 4 (Go.Operand.tmp 138) (Go.Operand.tmp 140) 4, type := 4, pos := "law.go:140", after := #[{ on := 5, ground := Go.Ground.data }, { on := 7, ground := Go.Ground.data }], guard := none } : Oper)) (v := ?_) rfl (by kernel_rfl) (by kernel_rfl) (by kernel_rfl) (fun _ _ _ h => h) (Or.inl ⟨by rfl, ?_⟩) (by assumption) ?_
                rotate_left
                focus (intro w' hSw; (try dsimp only at hSw); go_split_ands; go_simp; try with_reducible rfl)
                (try simp only [Act.put, List.setIfInBounds_toArray, List.set_cons_zero, List.set_cons_succ])
                refine wpAnyH_done (by kernel_rfl) ?_ _
                go_wp2_with fail
                go_roundw
                case rel => exact ⟨k + 1, by omega, by go_num, T8.ch⟩
                case measure => simp [intOf]; omega
              · cases hcb

        · obtain rfl : k = P.length := by omega
          go_wp2_with (first
            | (go_at_call 23; (with_reducible refine (awake6 _).mono ?_); rintro e w4 ⟨rfl, c4⟩)
            | fail)
          go_ret
          exact ⟨rfl, (H3.out.trans hcr).trans c4⟩
end Go.Proofs.YthmepecmeambmaaGreat
