/- LinkGiven: the given classes alone, and one that takes a given name, by evaluation. -/
/- LinkGiven, walked. -/
/- LinkGiven, walked: the document's comparing put in. -/
import Derived.Test.YthmepecmeambmaaGreatKLwD
import Derived.Test.YthmepecmeambmaaGreatKEqA
import Derived.Test.YthmepecmeambmaaGreatKEqR
namespace Go.Proofs.YthmepecmeambmaaGreat
open Go.RowKit
set_option linter.unusedVariables false

theorem alone_link : link [] = (some (prog []), 0, nNone) := link_ok (by decide +kernel)
theorem alone_ok : okCs (prog []) := fun c hc => by
  have h : ((prog []).all fun c => decide (clsT c ≤ 12000)) = true := by decide +kernel
  simpa using List.all_eq_true.1 h c hc
theorem alone_len : (prog []).length = 12 := by decide +kernel
theorem given_len : given.length = 12 := rfl
def takes (n : ByteArray) : List Cls := [⟨n, nObject, false, false, [], [], []⟩]
def takesB (n : ByteArray) : Bool := !(link (takes n)).1.isSome && (link (takes n)).2.1 == 8 && nq (link (takes n)).2.2 n
theorem takes_all : (given.all fun c => takesB c.n) = true := by decide +kernel
theorem takes_no {c : Cls} (h : c ∈ given) : link (takes c.n) = (none, 8, c.n) := by
  have hb := List.all_eq_true.1 takes_all c h
  unfold takesB at hb
  obtain ⟨hb, e3⟩ := Bool.and_eq_true_iff.1 hb
  obtain ⟨e1, e2⟩ := Bool.and_eq_true_iff.1 hb
  refine link_no (by simpa using e1) ?_
  have e2 : (link (takes c.n)).2.1 = 8 := by simpa using e2
  exact Prod.ext e2 (nq_iff.1 e3)
theorem takes_ok {c : Cls} (h : c ∈ given) : okCs (takes c.n) := by
  have h0 : (given.all fun c => (takes c.n).all fun d => decide (clsT d ≤ 12000)) = true := by decide +kernel
  exact fun d hd => by simpa using List.all_eq_true.1 (List.all_eq_true.1 h0 c h) d hd
theorem given_lk {c : Cls} (h : c ∈ given) : lk (prog []) c.n = some c := by
  have hp : (prog []).Perm given := by
    have := prog_perm []
    rwa [List.append_nil] at this
  have hc : c ∈ prog [] := hp.mem_iff.2 h
  obtain ⟨d, hd⟩ := lk_is (List.mem_map.2 ⟨c, hc, rfl⟩)
  obtain ⟨hdm, hdn⟩ := lk_some hd
  have hdg : d ∈ given := hp.mem_iff.1 hdm
  have hw : given.Pairwise fun a b => a.n ≠ b.n := by
    have := given_nodup
    unfold nms at this
    exact List.pairwise_map.1 this
  have hw2 := List.pairwise_iff_getElem.1 hw
  obtain ⟨i, hi, rfl⟩ := List.getElem_of_mem h
  obtain ⟨j, hj, rfl⟩ := List.getElem_of_mem hdg
  have hij : i = j := by
    rcases Nat.lt_trichotomy i j with hlt | heq | hlt
    · exact absurd hdn.symm (hw2 i j hi hj hlt)
    · exact heq
    · exact absurd hdn (hw2 j i hj hi hlt)
  subst hij
  exact hd
end Go.Proofs.YthmepecmeambmaaGreat
namespace Go.Proofs.YthmepecmeambmaaGreat
open Go.RowKit
set_option linter.unusedVariables false

theorem given_eq {c : Cls} (h : c ∈ given) : eqC c c = true := by
  have h0 : (given.all fun c => eqC c c) = true := by decide +kernel
  exact List.all_eq_true.1 h0 c h
theorem given_cls {c : Cls} (h : c ∈ given) : clsOf (prog []) c.n = (c, true) := by
  unfold clsOf
  rw [given_lk h]
theorem Oc.cells {B : Nat} {w0 : World} {g n cap : Nat} {L : List Cls} (h : Oc B w0 (.slice (some ⟨g, 0, none⟩) n cap) L) {i : Nat} {c : Cls} (hi : L[i]? = some c) :
    ∃ a1 d1 a2 d2 a3 d3, ∀ w', Ch w0 w' → ClsAt w' c (.slice a1 c.im.length d1) (.slice a2 c.fs.length d2) (.slice a3 c.me.length d3) ∧
      w'.cell? ⟨g, i * 7, none⟩ = some (.string c.n) ∧ w'.cell? ⟨g, i * 7 + 1, none⟩ = some (.string c.s) ∧ w'.cell? ⟨g, i * 7 + 2, none⟩ = some (.bool c.it) ∧ w'.cell? ⟨g, i * 7 + 3, none⟩ = some (.bool c.ab) ∧
      w'.cell? ⟨g, i * 7 + 4, none⟩ = some (.slice a1 c.im.length d1) ∧ w'.cell? ⟨g, i * 7 + 5, none⟩ = some (.slice a2 c.fs.length d2) ∧ w'.cell? ⟨g, i * 7 + 6, none⟩ = some (.slice a3 c.me.length d3) := by
  obtain ⟨g1, cs, e, _, _, ⟨vi, vf, vm, rfl, ow⟩, hcell, _⟩ := Ow.at h hi
  have e : g = g1 := by simpa using e
  subst e
  have hat := ow.at
  obtain ⟨a1, d1, rfl⟩ := Ow.form ow.i
  obtain ⟨a2, d2, rfl⟩ := Ow.form ow.f
  obtain ⟨a3, d3, rfl⟩ := Ow.form ow.m
  exact ⟨a1, d1, a2, d2, a3, d3, fun w' c => ⟨hat.keep c, cell_keep c (hcell 0 _ rfl), cell_keep c (hcell 1 _ rfl), cell_keep c (hcell 2 _ rfl), cell_keep c (hcell 3 _ rfl), cell_keep c (hcell 4 _ rfl), cell_keep c (hcell 5 _ rfl), cell_keep c (hcell 6 _ rfl)⟩⟩
theorem Oc.blk {B : Nat} {w : World} {v : Value} {L : List Cls} (h : Oc B w v L) (h0 : 0 < L.length) : ∃ g cap, v = .slice (some ⟨g, 0, none⟩) L.length cap := by
  obtain ⟨ao, cap, rfl⟩ := Ow.form h
  obtain ⟨g, _, rfl, _⟩ := Ow.at h (List.getElem?_eq_getElem h0)
  exact ⟨g, cap, rfl⟩

set_option maxHeartbeats 16000000 in
set_option maxRecDepth 100000 in
theorem given_walk (HSM : ∀ (a b : Cls) (vi vf vm ui uf um : Value) (w : World) (ha : ClsAt w a vi vf vm) (hb : ClsAt w b ui uf um), Calls Tryz.prog 32 #[.agg #[.string a.n, .string a.s, .bool a.it, .bool a.ab, vi, vf, vm], .agg #[.string b.n, .string b.s, .bool b.it, .bool b.ab, ui, uf, um]] w fun e w' => e = .returned (.bool (eqC a b)) ∧ Ch w w') (kk : Int) (w : World) : Calls Tryz.prog 7 #[.int .i64 kk] w fun e w' => e = .returned (.bool true) ∧ Ch w w' := by
  have HCL : Hid (∀ w, Calls Tryz.prog 24 #[.slice none 0 0] w fun e w' => ∃ g b, e = .returned (.tuple #[.pointer (some ⟨g, 0, none⟩), .int .i64 0, .string ⟨#[]⟩]) ∧ Pm w' g b (prog []) ∧ Ch w w') := fun w => by
    have h := classes_any [] (.slice none 0 0) w (nilR _ _ _) (fun c hc => by cases hc)
    rw [alone_link] at h
    refine h.mono ?_
    rintro e w' ⟨v, rfl, ⟨g, b, rfl, hP⟩, c⟩
    exact ⟨g, b, rfl, hP, c⟩
  go_enter Tryz.func7, Tryz.ntmps7
  go_wp2_with (first
    | (go_at_call 41; (with_reducible refine (builtin_any _).mono ?_); rintro e w1 ⟨v1, rfl, o1, c1⟩; obtain ⟨g1, d1, rfl⟩ := Oc.blk o1 (by decide); rw [given_len])
    | (go_at_call 42; (with_reducible refine (refBuiltin_any _).mono ?_); rintro e w2 ⟨v2, rfl, o2, c2⟩; obtain ⟨g2, d2, rfl⟩ := Oc.blk o2 (by decide); rw [given_len])
    | (go_at_call 24; (with_reducible refine (HCL.out _).mono ?_); rintro e w3 ⟨g, b, rfl, hP, c3⟩)
    | (go_at_call 26; (with_reducible refine (namesAll_any _ g b _ hP).mono ?_); rintro e w4 ⟨v4, rfl, o4, c4⟩; obtain ⟨a4, d4, rfl⟩ := Ow.form o4; have hl4 : (nms (prog [])).length = 12 := (by unfold nms; rw [List.length_map, alone_len]); rw [hl4])
    | fail)
  have HP : Hid (Pm w3 g b (prog []) ∧ Ch w3 w4) := ⟨hP, c4⟩
  have HW : Hid (Ch w w4) := ((c1.trans c2).trans c3).trans c4
  have H1 : Hid (Oc w.heap.size w4 (.slice (some ⟨g1, 0, none⟩) 12 d1) given) := Oc.keep o1 ((c2.trans c3).trans c4)
  have H2 : Hid (Oc w1.heap.size w4 (.slice (some ⟨g2, 0, none⟩) 12 d2) given) := Oc.keep o2 (c3.trans c4)
  clear hP c1 c2 c3 c4 o1 o2 o4
  go_loopw [8] (fun i wr => ∃ k : Nat, k ≤ 12 ∧ i = .int .i64 k ∧ Ch w4 wr) (fun i _ => 12 - (intOf i).toNat)
  case atStart => exact ⟨0, by omega, rfl, Ch.refl _⟩
  case round =>
    obtain ⟨k, hk, rfl, hcr⟩ := hrel
    by_cases hlt : k < 12
    · obtain ⟨c, hc⟩ : ∃ c, given[k]? = some c := ⟨_, List.getElem?_eq_getElem (show k < given.length from hlt)⟩
      have hcm : c ∈ given := List.mem_of_getElem? hc
      obtain ⟨a1, f1, a2, f2, a3, f3, hA⟩ := Oc.cells H1.out hc
      obtain ⟨b1, e1, b2, e2, b3, e3, hB⟩ := Oc.cells H2.out hc
      have HA : Hid _ := hA
      have HB : Hid _ := hB
      have HC : Hid (Ch w4 wr) := hcr
      have hcl := class_any c.n (prog []) g b wr (HP.out.1.keep (HP.out.2.trans hcr)) alone_ok
      rw [given_cls hcm] at hcl
      have HS : Hid (∀ vi vf vm ui uf um w, ClsAt w c vi vf vm → ClsAt w c ui uf um → Calls Tryz.prog 32 #[.agg #[.string c.n, .string c.s, .bool c.it, .bool c.ab, vi, vf, vm], .agg #[.string c.n, .string c.s, .bool c.it, .bool c.ab, ui, uf, um]] w
        fun e w' => e = .returned (.bool true) ∧ Ch w w') := fun vi vf vm ui uf um w ha hb => by
          have := HSM c c vi vf vm ui uf um w ha hb
          rwa [given_eq hcm] at this
      obtain ⟨_, q0, q1, q2, q3, q4, q5, q6⟩ := hB wr hcr
      clear hA hB hcr hc hcm
      go_wp2_with (first
        | (go_at_call 31; (with_reducible refine hcl.mono ?_); clear hcl; rintro e w5 ⟨vi, vf, vm, rfl, ow, c5⟩; obtain ⟨x1, y1, rfl⟩ := Ow.form ow.i; obtain ⟨x2, y2, rfl⟩ := Ow.form ow.f; obtain ⟨x3, y3, rfl⟩ := Ow.form ow.m)
        | fail)
      have HX : Hid (ClsAt w5 c (.slice x1 c.im.length y1) (.slice x2 c.fs.length y2) (.slice x3 c.me.length y3) ∧ Ch wr w5) := ⟨ow.at, c5⟩
      have HALL : Hid (∀ w', Ch (w5.alloc (.cells #[.string c.n, .string c.s, .bool c.it, .bool c.ab, .slice x1 c.im.length y1, .slice x2 c.fs.length y2, .slice x3 c.me.length y3] 41)) w' → w'.cell? ⟨g2, k * 7, none⟩ = some (.string c.n) ∧ w'.cell? ⟨g2, k * 7 + 1, none⟩ = some (.string c.s) ∧ w'.cell? ⟨g2, k * 7 + 2, none⟩ = some (.bool c.it) ∧ w'.cell? ⟨g2, k * 7 + 3, none⟩ = some (.bool c.ab) ∧ w'.cell? ⟨g2, k * 7 + 4, none⟩ = some (.slice b1 c.im.length e1) ∧ w'.cell? ⟨g2, k * 7 + 5, none⟩ = some (.slice b2 c.fs.length e2) ∧ w'.cell? ⟨g2, k * 7 + 6, none⟩ = some (.slice b3 c.me.length e3) ∧ w'.cell? ⟨g1, k * 7, none⟩ = some (.string c.n) ∧ w'.cell? ⟨g1, k * 7 + 1, none⟩ = some (.string c.s) ∧ w'.cell? ⟨g1, k * 7 + 2, none⟩ = some (.bool c.it) ∧ w'.cell? ⟨g1, k * 7 + 3, none⟩ = some (.bool c.ab) ∧ w'.cell? ⟨g1, k * 7 + 4, none⟩ = some (.slice a1 c.im.length f1) ∧ w'.cell? ⟨g1, k * 7 + 5, none⟩ = some (.slice a2 c.fs.length f2) ∧ w'.cell? ⟨g1, k * 7 + 6, none⟩ = some (.slice a3 c.me.length f3) ∧ w'.cell? ⟨w5.heap.size, 0, none⟩ = some (.string c.n) ∧ w'.cell? ⟨w5.heap.size, 1, none⟩ = some (.string c.s) ∧ w'.cell? ⟨w5.heap.size, 2, none⟩ = some (.bool c.it) ∧ w'.cell? ⟨w5.heap.size, 3, none⟩ = some (.bool c.ab) ∧ w'.cell? ⟨w5.heap.size, 4, none⟩ = some (.slice x1 c.im.length y1) ∧ w'.cell? ⟨w5.heap.size, 5, none⟩ = some (.slice x2 c.fs.length y2) ∧ w'.cell? ⟨w5.heap.size, 6, none⟩ = some (.slice x3 c.me.length y3)) := fun w' cw => by
        have B := (Bo.new (Ch.refl w5) #[.string c.n, .string c.s, .bool c.it, .bool c.ab, .slice x1 c.im.length y1, .slice x2 c.fs.length y2, .slice x3 c.me.length y3] 41).call cw
        obtain ⟨_, p0, p1, p2, p3, p4, p5, p6⟩ := HB.out w' (HC.out.trans (HX.out.2.trans (Ch.trans ((Ch.refl w5).alloc _) cw)))
        obtain ⟨_, r0, r1, r2, r3, r4, r5, r6⟩ := HA.out w' (HC.out.trans (HX.out.2.trans (Ch.trans ((Ch.refl w5).alloc _) cw)))
        exact ⟨p0, p1, p2, p3, p4, p5, p6, r0, r1, r2, r3, r4, r5, r6, B.c 0 rfl, B.c 1 rfl, B.c 2 rfl, B.c 3 rfl, B.c 4 rfl, B.c 5 rfl, B.c 6 rfl⟩
      clear ow c5 q0 q1 q2 q3 q4 q5 q6
      go_region_held (fun w' => w'.cell? ⟨g2, k * 7, none⟩ = some (.string c.n) ∧ w'.cell? ⟨g2, k * 7 + 1, none⟩ = some (.string c.s) ∧ w'.cell? ⟨g2, k * 7 + 2, none⟩ = some (.bool c.it) ∧ w'.cell? ⟨g2, k * 7 + 3, none⟩ = some (.bool c.ab) ∧ w'.cell? ⟨g2, k * 7 + 4, none⟩ = some (.slice b1 c.im.length e1) ∧ w'.cell? ⟨g2, k * 7 + 5, none⟩ = some (.slice b2 c.fs.length e2) ∧ w'.cell? ⟨g2, k * 7 + 6, none⟩ = some (.slice b3 c.me.length e3) ∧ w'.cell? ⟨g1, k * 7, none⟩ = some (.string c.n) ∧ w'.cell? ⟨g1, k * 7 + 1, none⟩ = some (.string c.s) ∧ w'.cell? ⟨g1, k * 7 + 2, none⟩ = some (.bool c.it) ∧ w'.cell? ⟨g1, k * 7 + 3, none⟩ = some (.bool c.ab) ∧ w'.cell? ⟨g1, k * 7 + 4, none⟩ = some (.slice a1 c.im.length f1) ∧ w'.cell? ⟨g1, k * 7 + 5, none⟩ = some (.slice a2 c.fs.length f2) ∧ w'.cell? ⟨g1, k * 7 + 6, none⟩ = some (.slice a3 c.me.length f3) ∧ w'.cell? ⟨w5.heap.size, 0, none⟩ = some (.string c.n) ∧ w'.cell? ⟨w5.heap.size, 1, none⟩ = some (.string c.s) ∧ w'.cell? ⟨w5.heap.size, 2, none⟩ = some (.bool c.it) ∧ w'.cell? ⟨w5.heap.size, 3, none⟩ = some (.bool c.ab) ∧ w'.cell? ⟨w5.heap.size, 4, none⟩ = some (.slice x1 c.im.length y1) ∧ w'.cell? ⟨w5.heap.size, 5, none⟩ = some (.slice x2 c.fs.length y2) ∧ w'.cell? ⟨w5.heap.size, 6, none⟩ = some (.slice x3 c.me.length y3)) ((refine HALL.out _ ?_; repeat (first | exact Ch.refl _ | refine Ch.drew ?_ | refine Ch.alloc ?_ _ | refine Ch.trans ?_ (by assumption)))) (first
        | (go_at_call 32; (with_reducible refine (HS.out _ _ _ _ _ _ _ (HX.out.1.keep (by repeat (first | exact Ch.refl _ | refine Ch.drew ?_ | refine Ch.alloc ?_ _ | refine Ch.trans ?_ (by assumption)))) (HB.out _ (HC.out.trans (HX.out.2.trans (by repeat (first | exact Ch.refl _ | refine Ch.drew ?_ | refine Ch.alloc ?_ _ | refine Ch.trans ?_ (by assumption)))))).1).mono ?_); rintro e w6 ⟨rfl, c6⟩)
        | (go_at_call 32; (with_reducible refine (HS.out _ _ _ _ _ _ _ (HA.out _ (HC.out.trans (HX.out.2.trans (by repeat (first | exact Ch.refl _ | refine Ch.drew ?_ | refine Ch.alloc ?_ _ | refine Ch.trans ?_ (by assumption)))))).1 (HB.out _ (HC.out.trans (HX.out.2.trans (by repeat (first | exact Ch.refl _ | refine Ch.drew ?_ | refine Ch.alloc ?_ _ | refine Ch.trans ?_ (by assumption)))))).1).mono ?_); rintro e w7 ⟨rfl, c7⟩)
        | fail)
      all_goals
        go_wp2_with fail
        exact ⟨⟨k + 1, by omega, by go_num, Ch.trans HC.out (Ch.trans HX.out.2 (by repeat (first | exact Ch.refl _ | refine Ch.drew ?_ | refine Ch.alloc ?_ _ | refine Ch.trans ?_ (by assumption))))⟩, by simp [intOf]; omega⟩
    · obtain rfl : k = 12 := by omega
      have hpl := pl_lt kk 12 (by decide)
      have HPL : Hid (∀ w, Calls Tryz.prog 38 #[.int .i64 kk, .int .i64 12] w fun e w' => e = .returned (.int .i64 ((pl kk 12 : Nat) : Int)) ∧ w' = w) := fun w => pl_any kk 12 w (by decide) (by decide)
      generalize pl kk 12 = r at *
      obtain ⟨c, hc⟩ : ∃ c, given[r]? = some c := ⟨_, List.getElem?_eq_getElem (show r < given.length from hpl)⟩
      have hcm : c ∈ given := List.mem_of_getElem? hc
      obtain ⟨b1, e1, b2, e2, b3, e3, hB⟩ := Oc.cells H2.out hc
      have HC : Hid (Ch w4 wr) := hcr
      obtain ⟨_, q0, _⟩ := hB wr hcr
      have HT : Hid (∀ w, Calls Tryz.prog 24 #[.slice (some ⟨w.heap.size, 0, none⟩) 1 1] (w.alloc (.cells #[.string c.n, .string ⟨#[79, 98, 106, 101, 99, 116]⟩, .bool false, .bool false, .slice none 0 0, .slice none 0 0, .slice none 0 0] 41)) fun e w' => e = .returned (.tuple #[.pointer none, .int .i64 8, .string c.n]) ∧ Ch w w') := fun w => by
        have h := classes_any (takes c.n) _ _ (one_row c.n nObject w) (takes_ok hcm)
        rw [takes_no hcm] at h
        refine h.mono ?_
        rintro e w' ⟨v, rfl, rfl, cc⟩
        exact ⟨rfl, ((Ch.refl w).alloc _).trans cc⟩
      generalize c.n = nm at *
      clear hB hcr hc hcm
      go_wp2_with (first
        | (go_at_call 38; (with_reducible refine (HPL.out _).mono ?_); rintro e w5 ⟨rfl, hw⟩; have hw := hw.symm; subst hw)
        | (go_at_call 24; (with_reducible refine (HT.out _).mono ?_); rintro e w5 ⟨rfl, c5⟩)
        | (go_at_call 31; (with_reducible refine (class_nil _ _).mono ?_); rintro e w6 ⟨rfl, c6⟩)
        | (go_at_call 26; (with_reducible refine (names_nil _).mono ?_); rintro e w7 ⟨rfl, hw⟩; have hw := hw.symm; subst hw)
        | (go_at_call 33; (with_reducible refine (supers_nil _ _).mono ?_); rintro e w7 ⟨rfl, hw⟩; have hw := hw.symm; subst hw)
        | (go_at_call 40; (with_reducible refine (concrete_nil _ _).mono ?_); rintro e w8 ⟨rfl, c8⟩)
        | (go_at_call 35; (with_reducible refine (subs_nil _ _).mono ?_); rintro e w9 ⟨rfl, c9⟩)
        | (go_at_call 34; (with_reducible refine (told_nil _ _).mono ?_); rintro e w10 ⟨rfl, c10⟩)
        | (go_at_call 23; (with_reducible refine (awake6 _).mono ?_); rintro e w11 ⟨rfl, c11⟩)
        | fail)
      go_ret
      exact ⟨rfl, Ch.trans HW.out (Ch.trans HC.out (by repeat (first | exact Ch.refl _ | refine Ch.drew ?_ | refine Ch.alloc ?_ _ | refine Ch.trans ?_ (by assumption))))⟩
end Go.Proofs.YthmepecmeambmaaGreat
namespace Go.Proofs.YthmepecmeambmaaGreat
open Go.RowKit
theorem given_law (kk : Int) (w : World) : Calls Tryz.prog 7 #[.int .i64 kk] w fun e w' => e = .returned (.bool true) ∧ Ch w w' :=
  given_walk refSame_any kk w
end Go.Proofs.YthmepecmeambmaaGreat
