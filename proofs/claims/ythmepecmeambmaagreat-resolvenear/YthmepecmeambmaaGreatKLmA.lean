/- Classes: the walk. -/
/- Classes: the contract. -/
/- Can a class be made? The sample of chapter 6. -/
import Derived.Test.YthmepecmeambmaaGreatKLlB
namespace Go.Proofs.YthmepecmeambmaaGreat
open Go.RowKit
set_option linter.unusedVariables false

/-- What is told when a class breaks a rule, or none does. -/
def told (g : Nat) : Option Cls → Ending
  | some c => .returned (.tuple #[.pointer none, .int .i64 8, .string c.n])
  | none => .returned (.tuple #[.pointer (some ⟨g, 0, none⟩), .int .i64 0, .string ⟨#[]⟩])

set_option maxHeartbeats 16000000 in
set_option maxRecDepth 100000 in
theorem classes_gen (l : List Cls) (vl : Value) (w : World) (h : Sl 7 RC w vl l) (hT : okCs l) :
    Calls Tryz.prog 24 #[vl] w fun e w' => Ch w w' ∧
      ((30 < l.length ∧ e = .returned (.tuple #[.pointer none, .int .i64 5, .string ⟨#[]⟩])) ∨
       (l.length ≤ 30 ∧ ∃ c, (l.find? fun c => chkE c != 0) = some c ∧ e = .returned (.tuple #[.pointer none, .int .i64 (chkE c), .string c.n])) ∨
       (l.length ≤ 30 ∧ (l.find? fun c => chkE c != 0) = none ∧ ∃ g b P, P.Perm (given ++ l) ∧ Pm w' g b P ∧ e = told g (brkR P l [0, 1, 2, 3, 4, 5, 6, 7]))) := by
  obtain ⟨al, cl, rfl, _, _⟩ := h.form
  have HS : Hid (∀ w', Ch w w' → Sl 7 RC w' (.slice al l.length cl) l) := fun w' k => h.keepC k
  have HT : Hid (okCs l) := hT
  clear h hT
  by_cases hl : 30 < l.length
  · go_enter Tryz.func24, Tryz.ntmps24
    go_wp2
    go_ret3
    exact ⟨Ch.refl _, .inl ⟨hl, rfl⟩⟩
  · have hl' : l.length ≤ 30 := by omega
    clear hl
    refine Calls.mono (R := fun e w' => Ch w w' ∧ ((∃ c, (l.find? fun c => chkE c != 0) = some c ∧ e = .returned (.tuple #[.pointer none, .int .i64 (chkE c), .string c.n])) ∨
       ((l.find? fun c => chkE c != 0) = none ∧ ∃ g b P, P.Perm (given ++ l) ∧ Pm w' g b P ∧ e = told g (brkR P l [0, 1, 2, 3, 4, 5, 6, 7])))) ?_ (fun e w' ⟨h1, h2⟩ => ⟨h1, .inr (h2.imp (fun h => ⟨hl', h⟩) (fun h => ⟨hl', h⟩))⟩)
    obtain ⟨ans, hans⟩ : ∃ q, (l.find? fun c => chkE c != 0) = q := ⟨_, rfl⟩
    rw [hans]
    have HA : Hid ((l.find? fun c => chkE c != 0) = ans) := hans
    clear hans
    have hl30 : (l.length : Int) ≤ 30 := by omega
    go_enter Tryz.func24, Tryz.ntmps24
    go_wp2_with fail
    go_loopw [18] (fun i wr => ∃ k : Nat, k ≤ l.length ∧ i = .int .i64 k ∧ ((l.drop k).find? fun c => chkE c != 0) = ans ∧ Ch w wr) (fun i _ => l.length - (intOf i).toNat)
    case atStart => exact ⟨0, Nat.zero_le _, rfl, HA.out, Ch.refl _⟩
    case round =>
      clear HA
      obtain ⟨k, hk, rfl, hno, hcr⟩ := hrel
      by_cases hlt : k < l.length
      · obtain ⟨c, hc⟩ : ∃ c, l[k]? = some c := ⟨_, List.getElem?_eq_getElem hlt⟩
        obtain ⟨b', off, vi, vf, vm, e1, hat, p0, p1, p2, p3, p4, p5, p6⟩ := (HS.out _ hcr).atC hc
        subst e1
        have hbt := HT.out c (List.mem_of_getElem? hc)
        have hns : c.n.size ≤ 100000 := by have := hbt; unfold clsT at this; omega
        obtain ⟨ai, ki, rfl, _, _⟩ := hat.1.form
        obtain ⟨af, kf, rfl, _, _⟩ := hat.2.1.form
        obtain ⟨am, km, rfl, _, _⟩ := hat.2.2.form
        have k1 := (Ch.refl wr).alloc (.cells #[.string c.n, .string c.s, .bool c.it, .bool c.ab, .slice ai c.im.length ki, .slice af c.fs.length kf, .slice am c.me.length km] 41)
        have hch := check_cls c _ _ _ _ (hat.keep k1) (fine_of c hbt)
        rw [find_step _ hc] at hno
        have B1 := Bo.new (Ch.refl wr) #[.string c.n, .string c.s, .bool c.it, .bool c.ab, .slice ai c.im.length ki, .slice af c.fs.length kf, .slice am c.me.length km] 41
        have HC : Hid (Ch w wr) := hcr
        clear hat hc hcr hbt
        cases hx : (chkE c != 0) with
        | true =>
          rw [hx, if_pos rfl] at hno
          have HN : Hid (some c = ans) := hno
          clear hno
          obtain ⟨y, hy⟩ : ∃ y, chkE c = y := ⟨_, rfl⟩
          rw [hy] at hch hx
          have HY : Hid (chkE c = y) := hy
          clear hy
          go_wp2_with (first
            | (go_at_call 78; (with_reducible refine hch.mono ?_); clear hch; rintro e w3 ⟨rfl, c3⟩; have f0 := (B1.call c3).c 0 rfl)
            | (go_at_call 79; (with_reducible refine (clone_any c.n _ hns).mono ?_); rintro e w4 ⟨rfl, c4⟩)
            | fail)
          go_ret3
          exact ⟨((HC.out.trans k1).trans c3).trans c4, .inl ⟨c, HN.out.symm, by rw [HY.out]; rfl⟩⟩
        | false =>
          rw [hx, if_neg (by simp)] at hno
          have HN : Hid (((l.drop (k + 1)).find? fun c => chkE c != 0) = ans) := hno
          clear hno
          have hx0 : chkE c = 0 := by simpa using hx
          rw [hx0] at hch
          clear hx hx0
          go_wp2_with (first
            | (go_at_call 78; (with_reducible refine hch.mono ?_); clear hch; rintro e w3 ⟨rfl, c3⟩)
            | fail)
          exact ⟨⟨k + 1, by omega, by go_num, HN.out, (HC.out.trans k1).trans c3⟩, by simp [intOf]; omega⟩
      · obtain rfl : k = l.length := by omega
        rw [List.drop_length, List.find?_nil] at hno
        have htg := together_any l _ wr (HS.out _ hcr) (by omega) HT.out
        have HC : Hid (Ch w wr) := hcr
        have HANS : Hid (none = ans) := hno
        clear hno hcr
        go_wp2_with (first
          | (go_at_call 80; (with_reducible refine htg.mono ?_); clear htg; rintro e w3 ⟨g, P, rfl, hp, hs, hpg, c3⟩)
          | (go_at_call 81; (with_reducible refine (rules_any _).mono ?_); rintro e w4 ⟨v4, rfl, s4, c4⟩; obtain ⟨a4, k4, rfl, _, _⟩ := s4.form)
          | fail)
        have hpl : P.length = 12 + l.length := by rw [hp.length_eq, List.length_append]; rfl
        obtain ⟨b, hpm⟩ := (hpg.keep c4).pm (by omega) (by omega) hs
        have C4 : Hid (Ch w w4) := (HC.out.trans c3).trans c4
        have HP : Hid (∀ w', Ch w4 w' → Pm w' g b P) := fun w' k => hpm.keep k
        have HPE : Hid (P.Perm (given ++ l)) := hp
        obtain ⟨res, hres⟩ : ∃ q, brkR P l [0, 1, 2, 3, 4, 5, 6, 7] = q := ⟨_, rfl⟩
        have HRES : Hid (brkR P l [0, 1, 2, 3, 4, 5, 6, 7] = res) := hres
        have HF : Hid (∀ w', Ch w4 w' → Sl 1 RFn w' (.slice a4 8 k4) [154, 155, 156, 157, 158, 159, 160, 161]) := fun w' k => s4.keep (fun _ _ x => x) k
        clear hpm hp hs hpg c3 c4 s4 hres HC hpl
        go_loopw [35] (fun i w' => ∃ r : Nat, r ≤ 8 ∧ i = .int .i64 r ∧ (∀ q, q < r → brk P l q = none) ∧ brkR P l (([0, 1, 2, 3, 4, 5, 6, 7] : List Nat).drop r) = res ∧ Ch w4 w') (fun i _ => 8 - (intOf i).toNat)
        case atStart => exact ⟨0, by omega, rfl, fun q h => absurd h (by omega), HRES.out, Ch.refl _⟩
        case round =>
          obtain ⟨r, hr, rfl, hbr, hno, hcr⟩ := hrel
          by_cases hr8 : r < 8
          · obtain ⟨b', off, cs, e1, e2, e3⟩ := (HF.out _ hcr).at (fns_at r hr8)
            have e2 : cs = [.func (.func (154 + r)) #[] #[]] := e2
            subst e1 e2
            have p0 := e3 0 _ rfl
            have off0 : off + r * 1 + 0 = off + r := by omega
            rw [off0] at p0
            have hent := enters8 r hr8
            have HI3 : 3 ≤ r → imIn P := fun h => imIn_of HPE.out (hbr 2 (by omega)) HT.out
            have HKP : Hid (∀ w', Ch w4 w' → ∀ c ∈ l, ∀ vi vf vm, ClsAt w' c vi vf vm → Calls Tryz.prog (154 + r) #[.pointer (some ⟨g, 0, none⟩), .agg #[.string c.n, .string c.s, .bool c.it, .bool c.ab, vi, vf, vm]] w' fun e w2 => e = .returned (.bool (keeps P c r)) ∧ Ch w' w2) :=
              fun w' k c hc vi vf vm hat => keeps_any r hr8 c vi vf vm P g b w' (HP.out w' k) HI3 hat (lens_of HT.out c hc).1 (lens_of HT.out c hc).2
            rw [rs_step P l r hr8] at hno
            have HNO : Hid ((match brk P l r with | some c => some c | none => brkR P l (([0, 1, 2, 3, 4, 5, 6, 7] : List Nat).drop (r + 1))) = res) := hno
            have HBR : Hid (∀ q, q < r → brk P l q = none) := hbr
            obtain ⟨f, hf⟩ : ∃ f, 154 + r = f := ⟨_, rfl⟩
            rw [hf] at p0 hent HKP
            obtain ⟨w8, hw8⟩ : ∃ q, q = wr := ⟨_, rfl⟩
            subst hw8
            have HC8 : Hid (Ch w4 w8) := hcr
            obtain ⟨ar, har⟩ : ∃ q, brk P l r = q := ⟨_, rfl⟩
            have HAR : Hid ((l.find? fun c => !keeps P c r) = ar) := har
            rw [har] at HNO
            have HAR2 : Hid (brk P l r = ar) := har
            clear e3 off0 HI3 hno hbr hf hcr har
            go_wp2_with fail
            go_loopw [41] (fun i w' => ∃ k : Nat, k ≤ l.length ∧ i = .int .i64 k ∧ ((l.drop k).find? fun c => !keeps P c r) = ar ∧ Ch w8 w') (fun i _ => l.length - (intOf i).toNat)
            case atStart => exact ⟨0, Nat.zero_le _, rfl, HAR.out, Ch.refl _⟩
            case round =>
              clear HAR
              obtain ⟨k, hk, rfl, hno, hcr⟩ := hrel
              by_cases hlt : k < l.length
              · obtain ⟨c, hc⟩ : ∃ c, l[k]? = some c := ⟨_, List.getElem?_eq_getElem hlt⟩
                have HC : Hid (Ch w wr) := (C4.out.trans HC8.out).trans hcr
                obtain ⟨b2, off2, vi, vf, vm, e1, hat, q0, q1, q2, q3, q4, q5, q6⟩ := (HS.out _ HC.out).atC hc
                subst e1
                have hcm := List.mem_of_getElem? hc
                have hbt := HT.out c hcm
                have hns : c.n.size ≤ 100000 := by have := hbt; unfold clsT at this; omega
                obtain ⟨ai, ki, rfl, _, _⟩ := hat.1.form
                obtain ⟨af, kf, rfl, _, _⟩ := hat.2.1.form
                obtain ⟨am, km, rfl, _, _⟩ := hat.2.2.form
                have k1 := (Ch.refl wr).alloc (.cells #[.string c.n, .string c.s, .bool c.it, .bool c.ab, .slice ai c.im.length ki, .slice af c.fs.length kf, .slice am c.me.length km] 41)
                have hkp := HKP.out _ ((HC8.out.trans hcr).trans k1) c hcm _ _ _ (hat.keep k1)
                rw [find_step _ hc] at hno
                have B1 := Bo.new (Ch.refl wr) #[.string c.n, .string c.s, .bool c.it, .bool c.ab, .slice ai c.im.length ki, .slice af c.fs.length kf, .slice am c.me.length km] 41
                have HCR : Hid (Ch w8 wr) := hcr
                clear hat hc hcr hbt hcm
                cases hx : keeps P c r with
                | false =>
                  rw [hx] at hno hkp
                  have HN : Hid (some c = ar) := (show some c = ar by simpa using hno)
                  clear hno hx
                  go_wp2_with (first
                    | (go_at_fn f; (with_reducible refine hkp.mono ?_); clear hkp; rintro e w9 ⟨rfl, c9⟩; have f0 := (B1.call c9).c 0 rfl)
                    | (go_at_call 79; (with_reducible refine (clone_any c.n _ hns).mono ?_); rintro e wa ⟨rfl, ca⟩)
                    | fail)
                  go_ret3
                  have hres : res = some c := by
                    have q := HNO.out
                    rw [← HN.out] at q
                    exact q.symm
                  have hch := ((HC8.out.trans HCR.out).trans k1).trans (c9.trans ca)
                  exact ⟨C4.out.trans hch, .inr ⟨HANS.out.symm, g, b, P, HPE.out, HP.out _ hch, by rw [HRES.out, hres]; rfl⟩⟩
                | true =>
                  rw [hx] at hno hkp
                  have HN : Hid (((l.drop (k + 1)).find? fun c => !keeps P c r) = ar) := (show ((l.drop (k + 1)).find? fun c => !keeps P c r) = ar by simpa using hno)
                  clear hno hx
                  go_wp2_with (first
                    | (go_at_fn f; (with_reducible refine hkp.mono ?_); clear hkp; rintro e w9 ⟨rfl, c9⟩)
                    | fail)
                  go_roundw
                  case rel =>
                    have hd : decide ((r : Int) < 8) = true := decide_eq_true (by omega)
                    rw [hd]
                    refine ⟨_, _, _, _, _, _, _, _, _, _, _, _, _, _, _, _, _, ⟨k + 1, by omega, ?_, HN.out, (HCR.out.trans k1).trans c9⟩, rfl⟩
                    go_num
                  case measure => simp [intOf]; omega
              · obtain rfl : k = l.length := by omega
                rw [List.drop_length, List.find?_nil] at hno
                subst hno
                have HCR : Hid (Ch w8 wr) := hcr
                clear hcr
                go_wp2_with fail
                exact ⟨⟨r + 1, by omega, by go_num, fun q hq => by
                  rcases Nat.lt_or_ge q r with h | h
                  · exact HBR.out q h
                  · obtain rfl : q = r := by omega
                    exact HAR2.out, HNO.out, HC8.out.trans HCR.out⟩, by simp [intOf]; omega⟩
          · obtain rfl : r = 8 := by omega
            have hn : (none : Option Cls) = res := hno
            have HC : Hid (Ch w w4 ∧ Ch w4 wr) := ⟨C4.out, hcr⟩
            have HNR : Hid ((none : Option Cls) = res) := hn
            clear hno hn hcr
            go_wp2_with fail
            go_ret3
            exact ⟨HC.out.1.trans HC.out.2, .inr ⟨HANS.out.symm, g, b, P, HPE.out, HP.out _ HC.out.2, by rw [HRES.out, ← HNR.out]; rfl⟩⟩
end Go.Proofs.YthmepecmeambmaaGreat
namespace Go.Proofs.YthmepecmeambmaaGreat
open Go.RowKit
set_option linter.unusedVariables false

theorem brk_zero {P Q l : List Cls} (h : P.Perm Q) : brk P l 0 = brk Q l 0 := by
  unfold brk
  congr 1
  funext c
  show (!k0 P c) = (!k0 Q c)
  rw [k0_perm h]
theorem brkR_prog {P l : List Cls} (hP : P.Perm (given ++ l)) (hs : Srt P) : brkR P l [0, 1, 2, 3, 4, 5, 6, 7] = brkR (prog l) l [0, 1, 2, 3, 4, 5, 6, 7] ∧ (brkR P l [0, 1, 2, 3, 4, 5, 6, 7] = none → P = prog l) := by
  have h1 := rs_step P l 0 (by omega)
  have h2 := rs_step (prog l) l 0 (by omega)
  have e : brk P l 0 = brk (prog l) l 0 := brk_zero (hP.trans (prog_perm l).symm)
  rw [List.drop_zero] at h1 h2
  cases hb : brk P l 0 with
  | some c =>
    rw [hb] at h1
    rw [← e, hb] at h2
    exact ⟨by rw [h1, h2], fun h => by rw [h1] at h; cases h⟩
  | none =>
    have hP2 : P = prog l := srt_one (hP.trans (prog_perm l).symm) hs (prog_srt l) (nodup_of hP hb)
    exact ⟨by rw [hP2], fun _ => hP2⟩

/-- What is handed back: the program, or none. -/
def Pv (w : World) : Option (List Cls) → Value → Prop
  | none, v => v = .pointer none
  | some P, v => ∃ g b, v = .pointer (some ⟨g, 0, none⟩) ∧ Pm w g b P
theorem Pv.keep {w w' : World} {o : Option (List Cls)} {v : Value} (h : Pv w o v) (k : Ch w w') : Pv w' o v := by
  cases o with
  | none => exact h
  | some P =>
    obtain ⟨g, b, h1, h2⟩ := h
    exact ⟨g, b, h1, h2.keep k⟩

theorem classes_any (l : List Cls) (vl : Value) (w : World) (h : Sl 7 RC w vl l) (hT : okCs l) :
    Calls Tryz.prog 24 #[vl] w fun e w' => ∃ v, e = .returned (.tuple #[v, .int .i64 (link l).2.1, .string (link l).2.2]) ∧ Pv w' (link l).1 v ∧ Ch w w' := by
  refine (classes_gen l vl w h hT).mono ?_
  rintro e w' ⟨hc, ⟨h1, rfl⟩ | ⟨h1, c, h2, rfl⟩ | ⟨h1, h2, g, b, P, hP, hm, rfl⟩⟩
  · have e : link l = (none, 5, nNone) := by unfold link; rw [if_pos h1]
    rw [e]
    exact ⟨_, rfl, rfl, hc⟩
  · have e : link l = (none, chkE c, c.n) := by unfold link; rw [if_neg (by omega), h2]
    rw [e]
    exact ⟨_, rfl, rfl, hc⟩
  · obtain ⟨e1, e2⟩ := brkR_prog hP hm.2.2.1
    cases hb : brkR P l [0, 1, 2, 3, 4, 5, 6, 7] with
    | some c =>
      rw [hb] at e1
      have e : link l = (none, 8, c.n) := by unfold link; rw [if_neg (by omega), h2]; dsimp only; rw [← e1]
      rw [e]
      exact ⟨_, rfl, rfl, hc⟩
    | none =>
      obtain rfl := e2 hb
      have e : link l = (some (prog l), 0, nNone) := by unfold link; rw [if_neg (by omega), h2]; dsimp only; rw [hb]
      rw [e]
      exact ⟨_, rfl, ⟨g, b, rfl, hm⟩, hc⟩

/-- The classes of the awakes. -/
def kA (s : ByteArray) : Cls := ⟨⟨#[65]⟩, s, false, false, [], [], []⟩
theorem link_A : (link [kA nObject]).2 = (0, nNone) := by decide +kernel
theorem link_B : (link [kA ⟨#[66]⟩]).2 = (8, ⟨#[65]⟩) := by decide +kernel
end Go.Proofs.YthmepecmeambmaaGreat
namespace Go.Proofs.YthmepecmeambmaaGreat
open Go.RowKit
set_option linter.unusedVariables false

/-- Can the class of that Name be made? -/
def conc (P : List Cls) (n : ByteArray) : Bool := match lk P n with
  | none => false
  | some c => !c.it && !c.ab
set_option maxHeartbeats 4000000 in
theorem concrete_any (n : ByteArray) (P : List Cls) (g b : Nat) (w : World) (h : Pm w g b P) :
    Calls Tryz.prog 40 #[.pointer (some ⟨g, 0, none⟩), .string n] w fun e w' => e = .returned (.bool (conc P n)) ∧ Ch w w' := by
  have hf := find_any n P g b w h
  unfold conc
  cases hx : ixN P n with
  | none =>
    rw [pn_no hx] at hf
    rw [ix_none.1 hx]
    clear hx h
    go_enter Tryz.func40, Tryz.ntmps40
    go_wp2_with (first
      | (go_at_call 92; (with_reducible refine hf.mono ?_); clear hf; rintro e w2 ⟨rfl, c2⟩)
      | fail)
    go_ret
    exact ⟨rfl, c2⟩
  | some i =>
    obtain ⟨x, hxi, hxl, _⟩ := ix_some hx
    rw [pn_is hx] at hf
    unfold ptr at hf
    rw [hxl]
    dsimp only
    have HQ : Hid (∀ w', Ch w w' → w'.cell? ⟨b, i * 7 + 2, none⟩ = some (.bool x.it) ∧ w'.cell? ⟨b, i * 7 + 3, none⟩ = some (.bool x.ab)) := fun w' k => by
      obtain ⟨vi, vf, vm, _, _, _, q2, q3, _⟩ := (h.keep k).at hxi
      exact ⟨q2, q3⟩
    clear hx hxi hxl h
    generalize x.it = bi at *
    generalize x.ab = ba at *
    cases bi <;> cases ba <;>
    · go_enter Tryz.func40, Tryz.ntmps40
      go_wp2_with (first
        | (go_at_call 92; (with_reducible refine hf.mono ?_); clear hf; rintro e w2 ⟨rfl, c2⟩; obtain ⟨q2, q3⟩ := HQ.out w2 c2)
        | fail)
      go_ret
      exact ⟨rfl, c2⟩

theorem nilR {α : Type} (k : Nat) (R : World → List Value → α → Prop) (w : World) : Sl k R w (.slice none 0 0) ([] : List α) := ⟨none, 0, rfl, Nat.le_refl _, by decide, fun h => absurd h (by simp)⟩
theorem link_ok {l : List Cls} (h : (link l).1.isSome = true) : link l = (some (prog l), 0, nNone) := by
  unfold link at h ⊢
  by_cases h1 : 30 < l.length
  · rw [if_pos h1] at h; cases h
  · rw [if_neg h1] at h ⊢
    cases h2 : (l.find? fun c => chkE c != 0) with
    | some c => rw [h2] at h; cases h
    | none =>
      rw [h2] at h
      dsimp only at h ⊢
      cases h3 : brkR (prog l) l [0, 1, 2, 3, 4, 5, 6, 7] with
      | some c => rw [h3] at h; cases h
      | none => rfl
/-- One class as a row of one. -/
theorem one_row (n s : ByteArray) (w : World) : Sl 7 RC (w.alloc (.cells #[.string n, .string s, .bool false, .bool false, .slice none 0 0, .slice none 0 0, .slice none 0 0] 41)) (.slice (some ⟨w.heap.size, 0, none⟩) 1 1) [⟨n, s, false, false, [], [], []⟩] := by
  refine ⟨_, 1, rfl, Nat.le_refl _, by decide, fun _ => ⟨w.heap.size, 0, rfl, fun i a hi => ?_⟩⟩
  have hi0 : i = 0 := by
    have := (List.getElem?_eq_some_iff.1 hi).1
    simpa using this
  subst hi0
  cases hi
  refine ⟨_, ⟨_, _, _, rfl, nilR _ _ _, nilR _ _ _, nilR _ _ _⟩, fun j u hj => ?_⟩
  have hb := heap_alloc_new w (.cells #[.string n, .string s, .bool false, .bool false, .slice none 0 0, .slice none 0 0, .slice none 0 0] 41)
  simp only [World.cell?, hb]
  simpa using hj
theorem okA (s : ByteArray) (h : s.size ≤ 100) : okCs [kA s] := fun c hc => by
  rw [List.mem_singleton] at hc
  subst hc
  unfold kA clsT
  simp
  have e : (⟨#[65]⟩ : ByteArray).size = 1 := rfl
  omega
theorem link_A1 : link [kA nObject] = (some (prog [kA nObject]), 0, nNone) := link_ok (by decide +kernel)
theorem link_no {l : List Cls} {e : Int} {n : ByteArray} (h1 : (link l).1.isSome = false) (h2 : (link l).2 = (e, n)) : link l = (none, e, n) := by
  generalize link l = q at *
  obtain ⟨a, b⟩ := q
  cases a with
  | some x => cases h1
  | none => rw [show b = (e, n) from h2]
theorem link_B1 : link [kA ⟨#[66]⟩] = (none, 8, ⟨#[65]⟩) := link_no (by decide +kernel) link_B
theorem conc_A : conc (prog [kA nObject]) ⟨#[65]⟩ = true := by decide +kernel
theorem conc_S : conc (prog [kA nObject]) nSys = false := by decide +kernel
/-- The one class of the sample, linked. -/
theorem oneA (s : ByteArray) (w : World) (hs : s.size ≤ 100) : Calls Tryz.prog 24 #[.slice (some ⟨w.heap.size, 0, none⟩) 1 1] (w.alloc (.cells #[.string ⟨#[65]⟩, .string s, .bool false, .bool false, .slice none 0 0, .slice none 0 0, .slice none 0 0] 41)) fun e w' =>
    ∃ v, e = .returned (.tuple #[v, .int .i64 (link [kA s]).2.1, .string (link [kA s]).2.2]) ∧ Pv w' (link [kA s]).1 v ∧ Ch w w' :=
  (classes_any [kA s] _ _ (one_row ⟨#[65]⟩ s w) (okA s hs)).mono fun e w' ⟨v, h1, h2, h3⟩ => ⟨v, h1, h2, ((Ch.refl w).alloc _).trans h3⟩
theorem linkA (w : World) : Calls Tryz.prog 24 #[.slice (some ⟨w.heap.size, 0, none⟩) 1 1] (w.alloc (.cells #[.string ⟨#[65]⟩, .string ⟨#[79, 98, 106, 101, 99, 116]⟩, .bool false, .bool false, .slice none 0 0, .slice none 0 0, .slice none 0 0] 41)) fun e w' =>
    ∃ g b, e = .returned (.tuple #[.pointer (some ⟨g, 0, none⟩), .int .i64 0, .string ⟨#[]⟩]) ∧ Pm w' g b (prog [kA nObject]) ∧ Ch w w' :=
  (oneA nObject w (by decide)).mono fun e w' ⟨v, h1, h2, h3⟩ => by
    rw [link_A1] at h1 h2
    obtain ⟨g, b, rfl, hm⟩ := h2
    exact ⟨g, b, h1, hm, h3⟩
theorem linkB (w : World) : Calls Tryz.prog 24 #[.slice (some ⟨w.heap.size, 0, none⟩) 1 1] (w.alloc (.cells #[.string ⟨#[65]⟩, .string ⟨#[66]⟩, .bool false, .bool false, .slice none 0 0, .slice none 0 0, .slice none 0 0] 41)) fun e w' =>
    e = .returned (.tuple #[.pointer none, .int .i64 8, .string ⟨#[65]⟩]) ∧ Ch w w' :=
  (oneA ⟨#[66]⟩ w (by decide)).mono fun e w' ⟨v, h1, h2, h3⟩ => by
    rw [link_B1] at h1 h2
    obtain rfl := h2
    exact ⟨h1, h3⟩

set_option maxHeartbeats 8000000 in
set_option maxRecDepth 100000 in
theorem awake6 (w : World) : Calls Tryz.prog 23 #[] w fun e w' => e = .returned (.bool true) ∧ Ch w w' := by
  have h1 := linkA w
  go_enter Tryz.func23, Tryz.ntmps23
  go_wp2_with (first
    | (go_at_call 24; (with_reducible refine h1.mono ?_); clear h1; rintro e w2 ⟨g, b, rfl, hm, c2⟩; have h2 := linkB w2)
    | (go_at_call 24; (with_reducible refine h2.mono ?_); clear h2; rintro e w3 ⟨rfl, c3⟩; have h3 := concrete_any ⟨#[65]⟩ _ g b w3 (hm.keep c3); rw [conc_A] at h3)
    | (go_at_call 40; (with_reducible refine h3.mono ?_); clear h3; rintro e w4 ⟨rfl, c4⟩; have h4 := concrete_any nSys _ g b w4 (hm.keep (c3.trans c4)); rw [conc_S] at h4)
    | (go_at_call 40; (with_reducible refine h4.mono ?_); clear h4; rintro e w5 ⟨rfl, c5⟩)
    | fail)
  go_ret
  exact ⟨rfl, ((c2.trans c3).trans c4).trans c5⟩
end Go.Proofs.YthmepecmeambmaaGreat
