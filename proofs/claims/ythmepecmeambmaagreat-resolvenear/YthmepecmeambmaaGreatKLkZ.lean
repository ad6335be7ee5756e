/- Rule 7: has a class that can be made code for each abstract method that it comes by? -/
import Derived.Test.YthmepecmeambmaaGreatKLkW
import Derived.Test.YthmepecmeambmaaGreatKLkY
import Derived.Test.YthmepecmeambmaaGreatKLkP
namespace Go.Proofs.YthmepecmeambmaaGreat
open Go.RowKit
set_option linter.unusedVariables false

/-- Is the method not abstract, or answered? -/
def ansA (P : List Cls) (way : List ByteArray) (m : Mth) : Bool := !(m.ab && !answ (lk P) way m)
def ansN (P : List Cls) (way : List ByteArray) (n : ByteArray) : Bool := (meOf (lk P) n).all (ansA P way)
theorem k7_eq (P : List Cls) (c : Cls) : k7 P c = (c.ab || ((walkN P c.n).1 ++ ifs P c.n).all (ansN P (walkN P c.n).1)) := rfl
theorem all_step {α : Type} (p : α → Bool) {xs : List α} {k : Nat} {x : α} (h : xs[k]? = some x) : (xs.drop k).all p = (p x && (xs.drop (k + 1)).all p) := by
  obtain ⟨h1, h2⟩ := List.getElem?_eq_some_iff.1 h
  rw [List.drop_eq_getElem_cons h1, h2, List.all_cons]

set_option maxHeartbeats 16000000 in
set_option maxRecDepth 100000 in
theorem answersAll_any (c : Cls) (vi vf vm : Value) (P : List Cls) (g b : Nat) (w : World) (h : Pm w g b P) (hI : imIn P) (hc : ClsAt w c vi vf vm) :
    Calls Tryz.prog 161 #[.pointer (some ⟨g, 0, none⟩), .agg #[.string c.n, .string c.s, .bool c.it, .bool c.ab, vi, vf, vm]] w fun e w' => e = .returned (.bool (k7 P c)) ∧ Ch w w' := by
  obtain ⟨ai, ci, rfl, _, _⟩ := hc.1.form
  obtain ⟨af, cf, rfl, _, _⟩ := hc.2.1.form
  obtain ⟨am, cm, rfl, _, _⟩ := hc.2.2.form
  clear hc
  have B0 := Bo.new (Ch.refl w) #[.string c.n, .string c.s, .bool c.it, .bool c.ab, .slice ai c.im.length ci, .slice af c.fs.length cf, .slice am c.me.length cm] 41
  rw [k7_eq]
  cases hab : c.ab with
  | true =>
    rw [hab] at B0
    have f3 := B0.c 3 rfl
    clear h hI hab
    generalize ((walkN P c.n).1 ++ ifs P c.n).all (ansN P (walkN P c.n).1) = r
    go_enter Tryz.func161, Tryz.ntmps161
    go_wp2
    go_ret
    exact ⟨rfl, B0.ch⟩
  | false =>
    rw [hab] at B0
    rw [Bool.false_or]
    have HP : Hid (Pm w g b P) := h
    have hl := h.2.1
    have HI : Hid (imIn P) := hI
    have hwk := walk_any c.n P g b _ (h.keep B0.ch)
    have HIF : Hid (∀ w', Ch w w' → Calls Tryz.prog 97 #[.pointer (some ⟨g, 0, none⟩), .string c.n] w' fun e w2 => ∃ v, e = .returned v ∧ Ow 1 9 RS w'.heap.size w2 v (ifs P c.n) ∧ inP P (ifs P c.n) ∧ (ifs P c.n).Nodup ∧ Ch w' w2) := fun w' k => interfaces_any c.n P g b w' (h.keep k) hI
    have HF : Hid (∀ w', Ch w w' → ∀ m, Calls Tryz.prog 92 #[.pointer (some ⟨g, 0, none⟩), .string m] w' fun e w2 => e = .returned (pn b P m) ∧ Ch w' w2) := fun w' k m => find_any m P g b w' (h.keep k)
    clear h hI hab
    generalize ifs P c.n = is at *
    obtain ⟨wn, hwn⟩ : ∃ q, walkN P c.n = q := ⟨_, rfl⟩
    rw [hwn] at hwk ⊢
    clear hwn
    obtain ⟨way, again⟩ := wn
    dsimp only at hwk ⊢
    obtain ⟨r, hr⟩ : ∃ r, (way ++ is).all (ansN P way) = r := ⟨_, rfl⟩
    rw [hr]
    have HR : Hid ((way ++ is).all (ansN P way) = r) := hr
    clear hr
    have f3 := B0.c 3 rfl
    have f0 := B0.c 0 rfl
    go_enter Tryz.func161, Tryz.ntmps161
    go_wp2_with (first
      | (go_at_call 96; (with_reducible refine hwk.mono ?_); clear hwk; rintro e w1 ⟨v1, rfl, o1, i1, n1, c1⟩; have B1 := B0.call c1; have f01 := B1.c 0 rfl; have l1 := Nat.le_trans (inP_len i1 n1) hl; have hcl := cloneP b P way v1 w1 o1.sl (by omega); obtain ⟨a1, d1, rfl⟩ := o1.form)
      | (go_at_call 225; (with_reducible refine hcl.mono ?_); clear hcl; rintro e w2 ⟨v2, rfl, o2, c2⟩; have B2 := B1.call c2; have f02 := B2.c 0 rfl; obtain ⟨a2, d2, rfl⟩ := o2.form)
      | (go_at_call 97; (with_reducible refine (HIF.out _ B2.ch).mono ?_); rintro e w3 ⟨v3, rfl, o3, i3, n3, c3⟩; have B3 := B2.call c3; have l3 := Nat.le_trans (inP_len i3 n3) hl; have o2 := o2.keepP c3; obtain ⟨a3, d3, rfl⟩ := o3.form)
      | fail)
    have HO1 : Hid (∀ w', Ch w1 w' → Ow 1 117 (RP b P) (w.alloc (.cells #[.string c.n, .string c.s, .bool c.it, .bool false, .slice ai c.im.length ci, .slice af c.fs.length cf, .slice am c.me.length cm] 41)).heap.size w' (.slice a1 way.length d1) way) := fun w' k => o1.keepP k
    have HO3 : Hid (∀ w', Kp w1.heap.size [117] w3 w' → Ow 1 9 RS w2.heap.size w' (.slice a3 is.length d3) is) := fun w' k => o3.kp k (by decide) (fun _ _ x => x)
    have HB1 : Hid (Ch w w1) := B1.ch
    have HC3 : Hid (Ch w1 w3) := c2.trans c3
    have HIN : Hid (inP P way ∧ inP P is) := ⟨i1, i3⟩
    have hinf : (Tryz.prog.info? 117).map (fun i => (i.zero, i.size, i.bytes)) = some (some (.pointer none), 1, 8) := infP117
    clear o1 o3 i1 i3 n1 n3 B0 B1 B2 B3 f0 f01 f02 f3 c1 c2 c3 HIF
    go_loopw [7, 30] (fun v i wr => ∃ k : Nat, k ≤ is.length ∧ i = .int .i64 k ∧ Ow 1 117 (RP b P) w1.heap.size wr v (way ++ is.take k) ∧ Ch w1 wr ∧ Kp w1.heap.size [117] w3 wr) (fun _ i _ => is.length - (intOf i).toNat)
    case atStart => exact ⟨0, Nat.zero_le _, rfl, by simpa using o2, HC3.out, Kp.refl _ _ _⟩
    case round =>
      clear o2
      obtain ⟨k, hk, rfl, ho, hcr, hkr⟩ := hrel
      obtain ⟨a4, d4, rfl⟩ := ho.form
      by_cases hlt : k < is.length
      · obtain ⟨m, hm⟩ : ∃ m, is[k]? = some m := ⟨_, List.getElem?_eq_getElem hlt⟩
        obtain ⟨g1, cs, e1, _, _, e2, q0, _⟩ := (HO3.out wr hkr).at hm
        have e2 : cs = [.string m] := e2
        subst e1 e2
        have q0 := q0 0 _ rfl
        have off0 : k * 1 + 0 = k := by omega
        rw [off0] at q0
        obtain ⟨i, hi⟩ := HIN.out.2 m (List.mem_of_getElem? hm)
        have hfi := HF.out wr (HB1.out.trans hcr) m
        have hpn := pn_is (b := b) hi
        rw [hpn] at hfi
        have HPN : Hid (∀ w', RP b P w' [.pointer (some ⟨b, i * 7, none⟩)] m) := fun _ => by unfold RP; rw [hpn]; rfl
        unfold ptr at hfi
        clear hpn hi
        have HT : Hid (way ++ is.take (k + 1) = (way ++ is.take k) ++ [m]) := by
          obtain ⟨h1, h2⟩ := List.getElem?_eq_some_iff.1 hm
          show way ++ is.take (k + 1) = _
          rw [List.take_succ_eq_append_getElem h1, h2, List.append_assoc]
        have hlw : (way ++ is.take k).length ≤ 100000 := by simp; omega
        have HOA : Hid (Ow 1 117 (RP b P) w1.heap.size wr (.slice a4 (way ++ is.take k).length d4) (way ++ is.take k)) := ho
        have HKR : Hid (Kp w1.heap.size [117] w3 wr) := hkr
        have HCR : Hid (Ch w1 wr) := hcr
        clear off0 hm ho hkr hcr
        generalize way ++ is.take k = ab at *
        go_wp2_with (first
          | (go_at_call 92; (with_reducible refine hfi.mono ?_); clear hfi; rintro e w5 ⟨rfl, c5⟩)
          | (at_builtin; refine Ow.push (B := w1.heap.size) ((HOA.out.keepP c5).keepP ((Ch.refl w5).alloc (.cells #[.pointer (some ⟨b, i * 7, none⟩)] 117))) hinf rfl (by decide) Tryz.underlying125 rfl _ _ rfl (by rfl) (.pointer (some ⟨b, i * 7, none⟩)) m HPN.out (fun _ _ _ _ x => x) rfl w5.heap.size 1 (by rfl) (heap_alloc_new w5 _) hlw (by have h1 := HCR.out.size; have h2 := c5.size; simp; omega) ?_; intro v6 w6 o6 g6 b6)
          | fail)
        have HK6 : Kp w1.heap.size [117] w3 w6 := by
          obtain ⟨C, _, c2, _⟩ := (HOA.out.keepP c5).keepP ((Ch.refl w5).alloc (.cells #[.pointer (some ⟨b, i * 7, none⟩)] 117))
          exact ((HKR.out.chr c5).alloc _).grown c2 (by decide) g6
        exact ⟨⟨k + 1, by omega, by go_num, by rw [HT.out]; exact o6, ((HCR.out.trans c5).alloc _).grown g6 b6, HK6⟩, by simp [intOf]; omega⟩
      · obtain rfl : k = is.length := by omega
        obtain ⟨w7, hw7⟩ : ∃ q, q = wr := ⟨_, rfl⟩
        subst hw7
        rw [List.take_length] at ho
        rw [List.take_length]
        have HCR : Hid (Ch w1 w7) := hcr
        have HCW : Hid (Ch w w7) := HB1.out.trans hcr
        have HO : Hid (∀ w', Ch w7 w' → Sl 1 (RP b P) w' (.slice a4 (way ++ is).length d4) (way ++ is)) := fun w' q => (ho.keepP q).sl
        have HAN : Hid (∀ w', Ch w w' → Ch w7 w' → ∀ (m : Mth) vc vh, Sl 6 RI w' vc m.code → Sl 4 RH w' vh m.hs → Calls Tryz.prog 226 #[.slice a1 way.length d1, .agg #[.string m.n, .string m.d, .bool m.st, .bool m.ab, .int .i64 m.sk, .int .i64 m.lo, vc, vh]] w' fun e w2 => e = .returned (.bool (answ (lk P) way m)) ∧ Ch w' w2) :=
          fun w' k1 k2 m vc vh s1 s2 => answered_any m vc vh way _ P g b _ w' (HP.out.keep k1) (HO1.out w' (hcr.trans k2)) HIN.out.1 s1 s2
        have HIW : Hid (inP P (way ++ is)) := fun x hx => by
          rcases List.mem_append.1 hx with h | h
          · exact HIN.out.1 x h
          · exact HIN.out.2 x h
        have hla : (way ++ is).length ≤ 100000 := by simp; omega
        clear ho hcr hkr hlt hk HF HO1 HO3 HIN HB1 HC3 HCR
        generalize way ++ is = ab at *
        go_wp2_with fail
        go_loopw [43] (fun i w' => ∃ k : Nat, k ≤ ab.length ∧ i = .int .i64 k ∧ (ab.drop k).all (ansN P way) = r ∧ Ch w7 w') (fun i _ => ab.length - (intOf i).toNat)
        case atStart => exact ⟨0, Nat.zero_le _, rfl, HR.out, Ch.refl _⟩
        case round =>
          clear HR
          obtain ⟨k, hk, rfl, hno, hcr⟩ := hrel
          by_cases hlt : k < ab.length
          · obtain ⟨n, hn⟩ : ∃ n, ab[k]? = some n := ⟨_, List.getElem?_eq_getElem hlt⟩
            obtain ⟨i, hi⟩ := HIW.out n (List.mem_of_getElem? hn)
            obtain ⟨x, hxi, hxl, _⟩ := ix_some hi
            obtain ⟨b', off, cs, e1, e2, e3⟩ := (HO.out _ hcr).at hn
            have e2 : cs = [pn b P n] := e2
            subst e1 e2
            have q0 := e3 0 _ rfl
            rw [pn_is hi] at q0
            have off0 : off + k * 1 + 0 = off + k := by omega
            rw [off0] at q0
            have hmo : meOf (lk P) n = x.me := by unfold meOf; rw [hxl]
            rw [all_step _ hn] at hno
            have hA : ansN P way n = x.me.all (ansA P way) := by unfold ansN; rw [hmo]
            rw [hA] at hno
            clear hA
            obtain ⟨wi, vf', vm', hat, _, _, _, _, _, _, p6⟩ := (HP.out.keep (HCW.out.trans hcr)).at hxi
            have HM : Hid (∀ w', Ch wr w' → Sl 8 RM w' vm' x.me) := fun w' q => hat.2.2.keepM q
            obtain ⟨am2, cm2, rfl, _, _⟩ := hat.2.2.form
            unfold ptr at q0
            have HK : Hid (Ch w7 wr) := hcr
            clear e3 off0 hn hi hxi hxl hmo hat hcr
            obtain ⟨w8, hw8⟩ : ∃ q, q = wr := ⟨_, rfl⟩
            subst hw8
            generalize hrest : (ab.drop (k + 1)).all (ansN P way) = rest at *
            have HRE : Hid ((ab.drop (k + 1)).all (ansN P way) = rest) := hrest
            have HNO : Hid ((x.me.all (ansA P way) && rest) = r) := hno
            clear hrest hno
            go_wp2_with fail
            go_loopw [52] (fun i w' => ∃ j : Nat, j ≤ x.me.length ∧ i = .int .i64 j ∧ ((x.me.drop j).all (ansA P way) && rest) = r ∧ Ch w8 w') (fun i _ => x.me.length - (intOf i).toNat)
            case atStart => exact ⟨0, Nat.zero_le _, rfl, HNO.out, Ch.refl _⟩
            case round =>
              clear HNO
              obtain ⟨j, hj, rfl, hno, hcr⟩ := hrel
              by_cases hlj : j < x.me.length
              · obtain ⟨m, hm⟩ : ∃ m, x.me[j]? = some m := ⟨_, List.getElem?_eq_getElem hlj⟩
                obtain ⟨b2, off2, vc, vh, e1, s1, s2, p0, p1, p2, p3, p4, p5, p6', p7⟩ := (HM.out _ hcr).atM hm
                subst e1
                obtain ⟨ac, kc, rfl, _, _⟩ := s1.form
                obtain ⟨ah, kh, rfl, _, _⟩ := s2.form
                have k1 := (Ch.refl wr).alloc (.cells #[.string m.n, .string m.d, .bool m.st, .bool m.ab, .int .i64 m.sk, .int .i64 m.lo, .slice ac m.code.length kc, .slice ah m.hs.length kh] 66)
                have han := HAN.out _ (HCW.out.trans ((HK.out.trans hcr).trans k1)) ((HK.out.trans hcr).trans k1) m _ _ (s1.keepI k1) (s2.keepH k1)
                rw [all_step _ hm] at hno
                have hca : ansA P way m = !(m.ab && !answ (lk P) way m) := rfl
                rw [hca] at hno
                generalize answ (lk P) way m = an at *
                have HC : Hid (Ch w8 wr) := hcr
                clear hca s1 s2 hm hcr
                cases hab : m.ab with
                | false =>
                  rw [hab] at p3 hno k1
                  have HN : Hid (((x.me.drop (j + 1)).all (ansA P way) && rest) = r) := (show ((x.me.drop (j + 1)).all (ansA P way) && rest) = r by simpa using hno)
                  clear hno han hab
                  go_wp2_with fail
                  exact ⟨⟨j + 1, by omega, by go_num, HN.out, HC.out.trans k1⟩, by simp [intOf]; omega⟩
                | true =>
                  rw [hab] at p3 hno k1 han
                  clear hab
                  cases an with
                  | true =>
                    have HN : Hid (((x.me.drop (j + 1)).all (ansA P way) && rest) = r) := (show ((x.me.drop (j + 1)).all (ansA P way) && rest) = r by simpa using hno)
                    clear hno
                    go_wp2_with (first
                      | (go_at_call 226; (with_reducible refine han.mono ?_); clear han; rintro e w9 ⟨rfl, c9⟩)
                      | fail)
                    exact ⟨⟨j + 1, by omega, by go_num, HN.out, HC.out.trans (k1.trans c9)⟩, by simp [intOf]; omega⟩
                  | false =>
                    have HN : Hid (false = r) := (show false = r by simpa using hno)
                    clear hno
                    go_wp2_with (first
                      | (go_at_call 226; (with_reducible refine han.mono ?_); clear han; rintro e w9 ⟨rfl, c9⟩)
                      | fail)
                    go_ret
                    exact ⟨by rw [← HN.out]; rfl, (HCW.out.trans ((HK.out.trans HC.out).trans k1)).trans c9⟩
              · obtain rfl : j = x.me.length := by omega
                rw [List.drop_length, List.all_nil, Bool.true_and] at hno
                have HN : Hid (rest = r) := hno
                have HC : Hid (Ch w8 wr) := hcr
                clear hno hcr
                go_wp2_with fail
                exact ⟨⟨k + 1, by omega, by go_num, by rw [HRE.out]; exact HN.out, HK.out.trans HC.out⟩, by simp [intOf]; omega⟩
          · obtain rfl : k = ab.length := by omega
            rw [List.drop_length, List.all_nil] at hno
            subst hno
            go_wp2_with fail
            go_ret
            exact ⟨rfl, HCW.out.trans hcr⟩
end Go.Proofs.YthmepecmeambmaaGreat
