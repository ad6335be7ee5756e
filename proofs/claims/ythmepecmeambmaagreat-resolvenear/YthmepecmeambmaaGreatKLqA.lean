/- Methods that may be; whether two are the same; what a call has found. -/
import Derived.Test.YthmepecmeambmaaGreatKLpB
import Derived.Test.YthmepecmeambmaaGreatKLoB
namespace Go.Proofs.YthmepecmeambmaaGreat
open Go.RowKit
set_option linter.unusedVariables false

theorem firstF_all {α : Type} (f : α → Int) : ∀ l : List α, firstF f l = 0 → ∀ x ∈ l, f x = 0
  | [], _, x, hx => by cases hx
  | y :: r, h, x, hx => by
    rw [firstF] at h
    by_cases h0 : f y = 0
    · rw [if_pos h0] at h
      rcases List.mem_cons.1 hx with rfl | hx
      · exact h0
      · exact firstF_all f r h x hx
    · rw [if_neg h0] at h
      exact absurd h h0
theorem orL_all : ∀ l : List Int, orL l = 0 → ∀ x ∈ l, x = 0
  | [], _, x, hx => by cases hx
  | y :: r, h, x, hx => by
    rw [orL] at h
    by_cases h0 : y = 0
    · rw [if_pos h0] at h
      rcases List.mem_cons.1 hx with rfl | hx
      · exact h0
      · exact orL_all r h x hx
    · rw [if_neg h0] at h
      exact absurd h h0
theorem mthE_ok {m : Mth} (h : mthE m = 0) : (m.ab = true → m.st = false) ∧ (m.n = nClinit → m.st = true) := by
  unfold mthE at h
  cases hp : meth (bl m.d) with
  | none => rw [hp] at h; cases h
  | some p =>
    rw [hp] at h
    dsimp only at h
    by_cases h1 : (!mayN m (ms p.2)) = true
    · rw [if_pos h1] at h; cases h
    rw [if_neg h1] at h
    by_cases h2 : (!witM m) = true
    · rw [if_pos h2] at h; cases h
    rw [if_neg h2] at h
    by_cases h3 : (m.ab && !barM m) = true
    · rw [if_pos h3] at h; cases h
    constructor
    · intro ha
      rw [ha] at h3
      unfold barM at h3
      cases hs : m.st with
      | false => rfl
      | true => rw [hs] at h3; simp at h3
    · intro hn
      unfold mayN at h1
      have e : (m.n.toList == [60, 99, 108, 105, 110, 105, 116, 62]) = true := by rw [hn, bl_toList]; rfl
      rw [if_pos e] at h1
      cases hs : m.st with
      | true => rfl
      | false => rw [hs] at h1; simp at h1
/-- What holds of a program's methods. -/
def Mk (P : List Cls) : Prop := ∀ c ∈ P, ∀ m ∈ c.me, (m.ab = true → m.st = false) ∧ (m.n = nClinit → m.st = true)
theorem mk_of {l : List Cls} (h : link l = (some (prog l), 0, nNone)) : Mk (prog l) := fun c hc m hm => by
  rcases List.mem_append.1 ((prog_perm l).mem_iff.1 hc) with hg | hl
  · have h2 : (given.all fun c => c.me.all fun m => (!m.ab || !m.st) && (!nq m.n nClinit || m.st)) = true := by decide +kernel
    have h3 := List.all_eq_true.1 (List.all_eq_true.1 h2 c hg) m hm
    rw [Bool.and_eq_true] at h3
    refine ⟨fun ha => ?_, fun hn => ?_⟩
    · rw [ha] at h3; simpa using h3.1
    · rw [nq_iff.2 hn] at h3; simpa using h3.2
  · refine mthE_ok ?_
    have hk : chkE c = 0 := by
      unfold link at h
      by_cases h1 : 30 < l.length
      · rw [if_pos h1] at h; cases h
      · rw [if_neg h1] at h
        cases h2 : (l.find? fun c => chkE c != 0) with
        | some d => rw [h2] at h; cases h
        | none =>
          rw [List.find?_eq_none] at h2
          simpa using h2 c hl
    unfold chkE at hk
    exact firstF_all _ _ (orL_all _ hk _ (by simp)) m hm
theorem fst1_some {F : ByteArray → Option Mth} {m : Mth} {o : ByteArray} : ∀ {l : List ByteArray}, fst1 F l = (o, some m) → o ∈ l ∧ F o = some m
  | [], h => by cases h
  | x :: r, h => by
    rw [fst1] at h
    cases hx : F x with
    | some m' => rw [hx] at h; cases h; exact ⟨by simp, hx⟩
    | none =>
      rw [hx] at h
      obtain ⟨h1, h2⟩ := fst1_some (l := r) h
      exact ⟨List.mem_cons_of_mem _ h1, h2⟩
theorem mth_is {P : List Cls} {c n d : ByteArray} {m : Mth} (h : mth P c n d = some m) : ∃ x, lk P c = some x ∧ m ∈ x.me ∧ m.n = n ∧ m.d = d := by
  unfold mth meOf at h
  cases hl : lk P c with
  | none => rw [hl] at h; cases h
  | some x =>
    rw [hl] at h
    dsimp only at h
    have h1 := List.find?_some h
    unfold mIs at h1
    rw [Bool.and_eq_true] at h1
    exact ⟨x, rfl, List.mem_of_find?_eq_some h, nq_iff.1 h1.1, nq_iff.1 h1.2⟩
theorem abv_no {P : List Cls} {c : ByteArray} (h : lk P c = none) : abv P c = [] := by
  have h1 : (walkN P c).1 = [] := by unfold walkN; rw [wk_no h]
  have h2 : ifs P c = [] := by unfold ifs; rw [h1]; rfl
  have h3 : isIf P c = false := by unfold isIf; rw [h]
  unfold abv ifcE
  rw [h1, h2, h3]
  have h4 : srtS ([] ++ if false = true then [c] else []) = [] := List.length_eq_zero_iff.1 (by rw [srtS_len]; simp)
  rw [h4]
  rfl
/-- What a call that has found something says. -/
theorem call_is {P : List Cls} (g : Gd P) (k : Mk P) {x : Ins} {o : ByteArray} {m : Mth} (h : resQ P x = (o, some m)) :
    ∃ (C D : Cls) (j : Nat), clsOf P x.c = (C, true) ∧ clsOf P o = (D, true) ∧ D.me[j]? = some m ∧ m.n = x.n ∧ m.d = x.d ∧
      ((x.op = 32 ∧ m.st = true ∧ m.ab = false) ∨ (x.op = 33 ∧ m.st = false ∧ m.ab = false ∧ (nq m.n nInit = false ∨ nq o x.c = true)) ∨ (x.op = 34 ∧ m.st = false ∧ C.it = false) ∨ (x.op = 35 ∧ m.st = false ∧ C.it = true)) := by
  unfold resQ at h
  cases hf : fst1 (mthF P x.n x.d) (abv P x.c) with
  | mk o' om =>
    rw [hf] at h
    cases om with
    | none => cases h
    | some m' =>
      dsimp only at h
      by_cases ht : tkB (isIc P x.c) x.op x.c o' m' = true
      · rw [if_pos ht] at h
        cases h
        obtain ⟨h1, h2⟩ := fst1_some hf
        obtain ⟨D, hD, hm, hn, hd⟩ := mth_is h2
        obtain ⟨j, hj⟩ := List.getElem?_of_mem hm
        obtain ⟨C, hC⟩ : ∃ C, lk P x.c = some C := by
          cases hl : lk P x.c with
          | none => rw [abv_no hl] at h1; cases h1
          | some C => exact ⟨C, rfl⟩
        have hi : isIc P x.c = C.it := by rw [isI_if g]; unfold isIf; rw [hC]
        rw [hi] at ht
        refine ⟨C, D, j, by unfold clsOf; rw [hC], by unfold clsOf; rw [hD], hj, hn, hd, ?_⟩
        unfold tkB at ht
        by_cases h32 : x.op = 32
        · rw [if_pos h32] at ht
          refine Or.inl ⟨h32, ht, ?_⟩
          cases ha : m.ab with
          | false => rfl
          | true => rw [(k D (lk_some hD).1 m hm).1 ha] at ht; cases ht
        rw [if_neg h32] at ht
        by_cases h33 : x.op = 33
        · rw [if_pos h33] at ht
          simp only [Bool.and_eq_true, Bool.or_eq_true, Bool.not_eq_true'] at ht
          exact Or.inr (Or.inl ⟨h33, ht.1, ht.2.1, ht.2.2⟩)
        rw [if_neg h33] at ht
        by_cases h34 : x.op = 34
        · rw [if_pos h34] at ht
          simp only [Bool.and_eq_true, Bool.not_eq_true'] at ht
          exact Or.inr (Or.inr (Or.inl ⟨h34, ht.1, ht.2⟩))
        rw [if_neg h34] at ht
        by_cases h35 : x.op = 35
        · rw [if_pos h35] at ht
          simp only [Bool.and_eq_true, Bool.not_eq_true'] at ht
          exact Or.inr (Or.inr (Or.inr ⟨h35, ht.1, ht.2⟩))
        rw [if_neg h35] at ht
        cases ht
      · rw [if_neg ht] at h
        cases h
theorem call_no {P : List Cls} {x : Ins} {o : ByteArray} (h : resQ P x = (o, none)) : o = ⟨#[]⟩ := by
  unfold resQ at h
  split at h
  · split at h
    · cases h
    · cases h; rfl
  · cases h; rfl

/-- A class of that one method. -/
def oneC (m : Mth) : Cls := ⟨⟨#[]⟩, ⟨#[]⟩, false, false, [], [], [m]⟩
set_option maxHeartbeats 8000000 in
set_option maxRecDepth 100000 in
theorem sameM_any (HSMA : ∀ (a b : Cls) (vi vf vm ui uf um : Value) (w : World) (ha : ClsAt w a vi vf vm) (hb : ClsAt w b ui uf um), Calls Tryz.prog 32 #[.agg #[.string a.n, .string a.s, .bool a.it, .bool a.ab, vi, vf, vm], .agg #[.string b.n, .string b.s, .bool b.it, .bool b.ab, ui, uf, um]] w fun e w' => e = .returned (.bool (eqC a b)) ∧ Ch w w')
    (a b : Mth) (a1 a2 a3 a4 : Option Addr) (c1 c2 c3 c4 : Nat) (w : World) (s1 : Sl 6 RI w (.slice a1 a.code.length c1) a.code) (s2 : Sl 4 RH w (.slice a2 a.hs.length c2) a.hs) (s3 : Sl 6 RI w (.slice a3 b.code.length c3) b.code) (s4 : Sl 4 RH w (.slice a4 b.hs.length c4) b.hs) :
    Calls Tryz.prog 66 #[.agg #[.string a.n, .string a.d, .bool a.st, .bool a.ab, .int .i64 a.sk, .int .i64 a.lo, .slice a1 a.code.length c1, .slice a2 a.hs.length c2], .agg #[.string b.n, .string b.d, .bool b.st, .bool b.ab, .int .i64 b.sk, .int .i64 b.lo, .slice a3 b.code.length c3, .slice a4 b.hs.length c4]] w fun e w' => e = .returned (.bool (eqC (oneC a) (oneC b))) ∧ Ch w w' := by
  have HS : Hid (∀ w', Ch w w' → Sl 6 RI w' (.slice a1 a.code.length c1) a.code ∧ Sl 4 RH w' (.slice a2 a.hs.length c2) a.hs ∧ Sl 6 RI w' (.slice a3 b.code.length c3) b.code ∧ Sl 4 RH w' (.slice a4 b.hs.length c4) b.hs) := fun w' k => ⟨s1.keepI k, s2.keepH k, s3.keepI k, s4.keepH k⟩
  have HM : Hid (∀ w vm um, Sl 8 RM w vm [a] → Sl 8 RM w um [b] → Calls Tryz.prog 32 #[.agg #[.string ⟨#[]⟩, .string ⟨#[]⟩, .bool false, .bool false, .slice none 0 0, .slice none 0 0, vm], .agg #[.string ⟨#[]⟩, .string ⟨#[]⟩, .bool false, .bool false, .slice none 0 0, .slice none 0 0, um]] w fun e w' => e = .returned (.bool (eqC (oneC a) (oneC b))) ∧ Ch w w') := fun w vm um h1 h2 => HSMA (oneC a) (oneC b) _ _ _ _ _ _ w ⟨nilR _ _ _, nilR _ _ _, h1⟩ ⟨nilR _ _ _, nilR _ _ _, h2⟩
  clear HSMA s1 s2 s3 s4
  generalize eqC (oneC a) (oneC b) = r at *
  have B1 := Bo.new (Ch.refl w) #[.string a.n, .string a.d, .bool a.st, .bool a.ab, .int .i64 a.sk, .int .i64 a.lo, .slice a1 a.code.length c1, .slice a2 a.hs.length c2] 66
  have B2 := Bo.new B1.ch #[.string b.n, .string b.d, .bool b.st, .bool b.ab, .int .i64 b.sk, .int .i64 b.lo, .slice a3 b.code.length c3, .slice a4 b.hs.length c4] 66
  have B1 := B1.call ((Ch.refl _).alloc (.cells #[.string b.n, .string b.d, .bool b.st, .bool b.ab, .int .i64 b.sk, .int .i64 b.lo, .slice a3 b.code.length c3, .slice a4 b.hs.length c4] 66))
  have e1 : (w.alloc (.cells #[.string a.n, .string a.d, .bool a.st, .bool a.ab, .int .i64 a.sk, .int .i64 a.lo, .slice a1 a.code.length c1, .slice a2 a.hs.length c2] 66)).heap.size = w.heap.size + 1 := by simp
  rw [e1] at B2
  clear e1
  have p0 := B1.c 0 rfl
  have q0 := B2.c 0 rfl
  have p1 := B1.c 1 rfl
  have q1 := B2.c 1 rfl
  have p2 := B1.c 2 rfl
  have q2 := B2.c 2 rfl
  have p3 := B1.c 3 rfl
  have q3 := B2.c 3 rfl
  have p4 := B1.c 4 rfl
  have q4 := B2.c 4 rfl
  have p5 := B1.c 5 rfl
  have q5 := B2.c 5 rfl
  have p6 := B1.c 6 rfl
  have q6 := B2.c 6 rfl
  have p7 := B1.c 7 rfl
  have q7 := B2.c 7 rfl
  have q0' := cell_keep ((Ch.refl _).alloc (.cells #[.string a.n, .string a.d, .bool a.st, .bool a.ab, .int .i64 a.sk, .int .i64 a.lo, .slice a1 a.code.length c1, .slice a2 a.hs.length c2] 66)) q0
  have q1' := cell_keep ((Ch.refl _).alloc (.cells #[.string a.n, .string a.d, .bool a.st, .bool a.ab, .int .i64 a.sk, .int .i64 a.lo, .slice a1 a.code.length c1, .slice a2 a.hs.length c2] 66)) q1
  have q2' := cell_keep ((Ch.refl _).alloc (.cells #[.string a.n, .string a.d, .bool a.st, .bool a.ab, .int .i64 a.sk, .int .i64 a.lo, .slice a1 a.code.length c1, .slice a2 a.hs.length c2] 66)) q2
  have q3' := cell_keep ((Ch.refl _).alloc (.cells #[.string a.n, .string a.d, .bool a.st, .bool a.ab, .int .i64 a.sk, .int .i64 a.lo, .slice a1 a.code.length c1, .slice a2 a.hs.length c2] 66)) q3
  have q4' := cell_keep ((Ch.refl _).alloc (.cells #[.string a.n, .string a.d, .bool a.st, .bool a.ab, .int .i64 a.sk, .int .i64 a.lo, .slice a1 a.code.length c1, .slice a2 a.hs.length c2] 66)) q4
  have q5' := cell_keep ((Ch.refl _).alloc (.cells #[.string a.n, .string a.d, .bool a.st, .bool a.ab, .int .i64 a.sk, .int .i64 a.lo, .slice a1 a.code.length c1, .slice a2 a.hs.length c2] 66)) q5
  have q6' := cell_keep ((Ch.refl _).alloc (.cells #[.string a.n, .string a.d, .bool a.st, .bool a.ab, .int .i64 a.sk, .int .i64 a.lo, .slice a1 a.code.length c1, .slice a2 a.hs.length c2] 66)) q6
  have q7' := cell_keep ((Ch.refl _).alloc (.cells #[.string a.n, .string a.d, .bool a.st, .bool a.ab, .int .i64 a.sk, .int .i64 a.lo, .slice a1 a.code.length c1, .slice a2 a.hs.length c2] 66)) q7
  go_enter Tryz.func66, Tryz.ntmps66
  go_wp2_with (first
    | (go_at_call 32; refine (HM.out _ _ _ (one_sl (by repeat (first | (refine alloc_at _ _ _ ?_; simp; done) | refine al_keep ?_)) ⟨_, _, rfl, (HS.out _ (by repeat (first | exact Ch.refl _ | refine Ch.drew ?_ | refine Ch.alloc ?_ _ | refine Ch.trans ?_ (by assumption)))).1, (HS.out _ (by repeat (first | exact Ch.refl _ | refine Ch.drew ?_ | refine Ch.alloc ?_ _ | refine Ch.trans ?_ (by assumption)))).2.1⟩) (one_sl (by repeat (first | (refine alloc_at _ _ _ ?_; simp; done) | refine al_keep ?_)) ⟨_, _, rfl, (HS.out _ (by repeat (first | exact Ch.refl _ | refine Ch.drew ?_ | refine Ch.alloc ?_ _ | refine Ch.trans ?_ (by assumption)))).2.2.1, (HS.out _ (by repeat (first | exact Ch.refl _ | refine Ch.drew ?_ | refine Ch.alloc ?_ _ | refine Ch.trans ?_ (by assumption)))).2.2.2⟩)).mono ?_; rintro e w2 ⟨rfl, c2⟩)
    | fail)
  go_ret
  exact ⟨rfl, Ch.trans (by repeat (first | exact Ch.refl _ | refine Ch.drew ?_ | refine Ch.alloc ?_ _ | refine Ch.trans ?_ (by assumption))) c2⟩
end Go.Proofs.YthmepecmeambmaaGreat
