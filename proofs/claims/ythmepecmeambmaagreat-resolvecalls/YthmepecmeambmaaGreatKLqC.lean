/- Methods that may be; whether two are the same; what a call has found. -/
/- ResolveCalls, walked. -/
/- ResolveCalls, walked: SameClass put in. -/
import Derived.Test.YthmepecmeambmaaGreatKLoB
import Derived.Test.YthmepecmeambmaaGreatKLyG
import Derived.Test.YthmepecmeambmaaGreatKEqR
namespace Go.Proofs.YthmepecmeambmaaGreat
open Go.RowKit
set_option linter.unusedVariables false

theorem firstF_all {α : Type} (f : α → Int) : ∀ l : List α, firstF f l = 0 → ∀ x ∈ l, f x = 0
  | [], _, x, hx => by cases hx
  | y :: r, h, x, hx => by
    rw [firstF] at h
    by_cases h0 : f y = 0
    · rw [if_pos h0] at h
      rcases List.mem_cons.1 hx with rfl | hx
      · exact h0
      · exact firstF_all f r h x hx
    · rw [if_neg h0] at h
      exact absurd h h0
theorem orL_all : ∀ l : List Int, orL l = 0 → ∀ x ∈ l, x = 0
  | [], _, x, hx => by cases hx
  | y :: r, h, x, hx => by
    rw [orL] at h
    by_cases h0 : y = 0
    · rw [if_pos h0] at h
      rcases List.mem_cons.1 hx with rfl | hx
      · exact h0
      · exact orL_all r h x hx
    · rw [if_neg h0] at h
      exact absurd h h0
theorem mthE_ok {m : Mth} (h : mthE m = 0) : (m.ab = true → m.st = false) ∧ (m.n = nClinit → m.st = true) := by
  unfold mthE at h
  cases hp : meth (bl m.d) with
  | none => rw [hp] at h; cases h
  | some p =>
    rw [hp] at h
    dsimp only at h
    by_cases h1 : (!mayN m (ms p.2)) = true
    · rw [if_pos h1] at h; cases h
    rw [if_neg h1] at h
    by_cases h2 : (!witM m) = true
    · rw [if_pos h2] at h; cases h
    rw [if_neg h2] at h
    by_cases h3 : (m.ab && !barM m) = true
    · rw [if_pos h3] at h; cases h
    constructor
    · intro ha
      rw [ha] at h3
      unfold barM at h3
      cases hs : m.st with
      | false => rfl
      | true => rw [hs] at h3; simp at h3
    · intro hn
      unfold mayN at h1
      have e : (m.n.toList == [60, 99, 108, 105, 110, 105, 116, 62]) = true := by rw [hn, bl_toList]; rfl
      rw [if_pos e] at h1
      cases hs : m.st with
      | true => rfl
      | false => rw [hs] at h1; simp at h1
/-- What holds of a program's methods. -/
def Mk (P : List Cls) : Prop := ∀ c ∈ P, ∀ m ∈ c.me, (m.ab = true → m.st = false) ∧ (m.n = nClinit → m.st = true)
theorem mk_of {l : List Cls} (h : link l = (some (prog l), 0, nNone)) : Mk (prog l) := fun c hc m hm => by
  rcases List.mem_append.1 ((prog_perm l).mem_iff.1 hc) with hg | hl
  · have h2 : (given.all fun c => c.me.all fun m => (!m.ab || !m.st) && (!nq m.n nClinit || m.st)) = true := by decide +kernel
    have h3 := List.all_eq_true.1 (List.all_eq_true.1 h2 c hg) m hm
    rw [Bool.and_eq_true] at h3
    refine ⟨fun ha => ?_, fun hn => ?_⟩
    · rw [ha] at h3; simpa using h3.1
    · rw [nq_iff.2 hn] at h3; simpa using h3.2
  · refine mthE_ok ?_
    have hk : chkE c = 0 := by
      unfold link at h
      by_cases h1 : 30 < l.length
      · rw [if_pos h1] at h; cases h
      · rw [if_neg h1] at h
        cases h2 : (l.find? fun c => chkE c != 0) with
        | some d => rw [h2] at h; cases h
        | none =>
          rw [List.find?_eq_none] at h2
          simpa using h2 c hl
    unfold chkE at hk
    exact firstF_all _ _ (orL_all _ hk _ (by simp)) m hm
theorem fst1_some {F : ByteArray → Option Mth} {m : Mth} {o : ByteArray} : ∀ {l : List ByteArray}, fst1 F l = (o, some m) → o ∈ l ∧ F o = some m
  | [], h => by cases h
  | x :: r, h => by
    rw [fst1] at h
    cases hx : F x with
    | some m' => rw [hx] at h; cases h; exact ⟨by simp, hx⟩
    | none =>
      rw [hx] at h
      obtain ⟨h1, h2⟩ := fst1_some (l := r) h
      exact ⟨List.mem_cons_of_mem _ h1, h2⟩
theorem mth_is {P : List Cls} {c n d : ByteArray} {m : Mth} (h : mth P c n d = some m) : ∃ x, lk P c = some x ∧ m ∈ x.me ∧ m.n = n ∧ m.d = d := by
  unfold mth meOf at h
  cases hl : lk P c with
  | none => rw [hl] at h; cases h
  | some x =>
    rw [hl] at h
    dsimp only at h
    have h1 := List.find?_some h
    unfold mIs at h1
    rw [Bool.and_eq_true] at h1
    exact ⟨x, rfl, List.mem_of_find?_eq_some h, nq_iff.1 h1.1, nq_iff.1 h1.2⟩
theorem abv_no {P : List Cls} {c : ByteArray} (h : lk P c = none) : abv P c = [] := by
  have h1 : (walkN P c).1 = [] := by unfold walkN; rw [wk_no h]
  have h2 : ifs P c = [] := by unfold ifs; rw [h1]; rfl
  have h3 : isIf P c = false := by unfold isIf; rw [h]
  unfold abv ifcE
  rw [h1, h2, h3]
  have h4 : srtS ([] ++ if false = true then [c] else []) = [] := List.length_eq_zero_iff.1 (by rw [srtS_len]; simp)
  rw [h4]
  rfl
/-- What a call that has found something says. -/
theorem call_is {P : List Cls} (g : Gd P) (k : Mk P) {x : Ins} {o : ByteArray} {m : Mth} (h : resQ P x = (o, some m)) :
    ∃ (C D : Cls) (j : Nat), clsOf P x.c = (C, true) ∧ clsOf P o = (D, true) ∧ D.me[j]? = some m ∧ m.n = x.n ∧ m.d = x.d ∧
      ((x.op = 32 ∧ m.st = true ∧ m.ab = false) ∨ (x.op = 33 ∧ m.st = false ∧ m.ab = false ∧ (nq m.n nInit = false ∨ nq o x.c = true)) ∨ (x.op = 34 ∧ m.st = false ∧ C.it = false) ∨ (x.op = 35 ∧ m.st = false ∧ C.it = true)) := by
  unfold resQ at h
  cases hf : fst1 (mthF P x.n x.d) (abv P x.c) with
  | mk o' om =>
    rw [hf] at h
    cases om with
    | none => cases h
    | some m' =>
      dsimp only at h
      by_cases ht : tkB (isIc P x.c) x.op x.c o' m' = true
      · rw [if_pos ht] at h
        cases h
        obtain ⟨h1, h2⟩ := fst1_some hf
        obtain ⟨D, hD, hm, hn, hd⟩ := mth_is h2
        obtain ⟨j, hj⟩ := List.getElem?_of_mem hm
        obtain ⟨C, hC⟩ : ∃ C, lk P x.c = some C := by
          cases hl : lk P x.c with
          | none => rw [abv_no hl] at h1; cases h1
          | some C => exact ⟨C, rfl⟩
        have hi : isIc P x.c = C.it := by rw [isI_if g]; unfold isIf; rw [hC]
        rw [hi] at ht
        refine ⟨C, D, j, by unfold clsOf; rw [hC], by unfold clsOf; rw [hD], hj, hn, hd, ?_⟩
        unfold tkB at ht
        by_cases h32 : x.op = 32
        · rw [if_pos h32] at ht
          refine Or.inl ⟨h32, ht, ?_⟩
          cases ha : m.ab with
          | false => rfl
          | true => rw [(k D (lk_some hD).1 m hm).1 ha] at ht; cases ht
        rw [if_neg h32] at ht
        by_cases h33 : x.op = 33
        · rw [if_pos h33] at ht
          simp only [Bool.and_eq_true, Bool.or_eq_true, Bool.not_eq_true'] at ht
          exact Or.inr (Or.inl ⟨h33, ht.1, ht.2.1, ht.2.2⟩)
        rw [if_neg h33] at ht
        by_cases h34 : x.op = 34
        · rw [if_pos h34] at ht
          simp only [Bool.and_eq_true, Bool.not_eq_true'] at ht
          exact Or.inr (Or.inr (Or.inl ⟨h34, ht.1, ht.2⟩))
        rw [if_neg h34] at ht
        by_cases h35 : x.op = 35
        · rw [if_pos h35] at ht
          simp only [Bool.and_eq_true, Bool.not_eq_true'] at ht
          exact Or.inr (Or.inr (Or.inr ⟨h35, ht.1, ht.2⟩))
        rw [if_neg h35] at ht
        cases ht
      · rw [if_neg ht] at h
        cases h
theorem call_no {P : List Cls} {x : Ins} {o : ByteArray} (h : resQ P x = (o, none)) : o = ⟨#[]⟩ := by
  unfold resQ at h
  split at h
  · split at h
    · cases h
    · cases h; rfl
  · cases h; rfl

/-- A class of that one method. -/
def oneC (m : Mth) : Cls := ⟨⟨#[]⟩, ⟨#[]⟩, false, false, [], [], [m]⟩
set_option maxHeartbeats 8000000 in
set_option maxRecDepth 100000 in
theorem sameM_any (HSMA : ∀ (a b : Cls) (vi vf vm ui uf um : Value) (w : World) (ha : ClsAt w a vi vf vm) (hb : ClsAt w b ui uf um), Calls Tryz.prog 32 #[.agg #[.string a.n, .string a.s, .bool a.it, .bool a.ab, vi, vf, vm], .agg #[.string b.n, .string b.s, .bool b.it, .bool b.ab, ui, uf, um]] w fun e w' => e = .returned (.bool (eqC a b)) ∧ Ch w w')
    (a b : Mth) (a1 a2 a3 a4 : Option Addr) (c1 c2 c3 c4 : Nat) (w : World) (s1 : Sl 6 RI w (.slice a1 a.code.length c1) a.code) (s2 : Sl 4 RH w (.slice a2 a.hs.length c2) a.hs) (s3 : Sl 6 RI w (.slice a3 b.code.length c3) b.code) (s4 : Sl 4 RH w (.slice a4 b.hs.length c4) b.hs) :
    Calls Tryz.prog 66 #[.agg #[.string a.n, .string a.d, .bool a.st, .bool a.ab, .int .i64 a.sk, .int .i64 a.lo, .slice a1 a.code.length c1, .slice a2 a.hs.length c2], .agg #[.string b.n, .string b.d, .bool b.st, .bool b.ab, .int .i64 b.sk, .int .i64 b.lo, .slice a3 b.code.length c3, .slice a4 b.hs.length c4]] w fun e w' => e = .returned (.bool (eqC (oneC a) (oneC b))) ∧ Ch w w' := by
  have HS : Hid (∀ w', Ch w w' → Sl 6 RI w' (.slice a1 a.code.length c1) a.code ∧ Sl 4 RH w' (.slice a2 a.hs.length c2) a.hs ∧ Sl 6 RI w' (.slice a3 b.code.length c3) b.code ∧ Sl 4 RH w' (.slice a4 b.hs.length c4) b.hs) := fun w' k => ⟨s1.keepI k, s2.keepH k, s3.keepI k, s4.keepH k⟩
  have HM : Hid (∀ w vm um, Sl 8 RM w vm [a] → Sl 8 RM w um [b] → Calls Tryz.prog 32 #[.agg #[.string ⟨#[]⟩, .string ⟨#[]⟩, .bool false, .bool false, .slice none 0 0, .slice none 0 0, vm], .agg #[.string ⟨#[]⟩, .string ⟨#[]⟩, .bool false, .bool false, .slice none 0 0, .slice none 0 0, um]] w fun e w' => e = .returned (.bool (eqC (oneC a) (oneC b))) ∧ Ch w w') := fun w vm um h1 h2 => HSMA (oneC a) (oneC b) _ _ _ _ _ _ w ⟨nilR _ _ _, nilR _ _ _, h1⟩ ⟨nilR _ _ _, nilR _ _ _, h2⟩
  clear HSMA s1 s2 s3 s4
  generalize eqC (oneC a) (oneC b) = r at *
  have B1 := Bo.new (Ch.refl w) #[.string a.n, .string a.d, .bool a.st, .bool a.ab, .int .i64 a.sk, .int .i64 a.lo, .slice a1 a.code.length c1, .slice a2 a.hs.length c2] 66
  have B2 := Bo.new B1.ch #[.string b.n, .string b.d, .bool b.st, .bool b.ab, .int .i64 b.sk, .int .i64 b.lo, .slice a3 b.code.length c3, .slice a4 b.hs.length c4] 66
  have B1 := B1.call ((Ch.refl _).alloc (.cells #[.string b.n, .string b.d, .bool b.st, .bool b.ab, .int .i64 b.sk, .int .i64 b.lo, .slice a3 b.code.length c3, .slice a4 b.hs.length c4] 66))
  have e1 : (w.alloc (.cells #[.string a.n, .string a.d, .bool a.st, .bool a.ab, .int .i64 a.sk, .int .i64 a.lo, .slice a1 a.code.length c1, .slice a2 a.hs.length c2] 66)).heap.size = w.heap.size + 1 := by simp
  rw [e1] at B2
  clear e1
  have p0 := B1.c 0 rfl
  have q0 := B2.c 0 rfl
  have p1 := B1.c 1 rfl
  have q1 := B2.c 1 rfl
  have p2 := B1.c 2 rfl
  have q2 := B2.c 2 rfl
  have p3 := B1.c 3 rfl
  have q3 := B2.c 3 rfl
  have p4 := B1.c 4 rfl
  have q4 := B2.c 4 rfl
  have p5 := B1.c 5 rfl
  have q5 := B2.c 5 rfl
  have p6 := B1.c 6 rfl
  have q6 := B2.c 6 rfl
  have p7 := B1.c 7 rfl
  have q7 := B2.c 7 rfl
  have q0' := cell_keep ((Ch.refl _).alloc (.cells #[.string a.n, .string a.d, .bool a.st, .bool a.ab, .int .i64 a.sk, .int .i64 a.lo, .slice a1 a.code.length c1, .slice a2 a.hs.length c2] 66)) q0
  have q1' := cell_keep ((Ch.refl _).alloc (.cells #[.string a.n, .string a.d, .bool a.st, .bool a.ab, .int .i64 a.sk, .int .i64 a.lo, .slice a1 a.code.length c1, .slice a2 a.hs.length c2] 66)) q1
  have q2' := cell_keep ((Ch.refl _).alloc (.cells #[.string a.n, .string a.d, .bool a.st, .bool a.ab, .int .i64 a.sk, .int .i64 a.lo, .slice a1 a.code.length c1, .slice a2 a.hs.length c2] 66)) q2
  have q3' := cell_keep ((Ch.refl _).alloc (.cells #[.string a.n, .string a.d, .bool a.st, .bool a.ab, .int .i64 a.sk, .int .i64 a.lo, .slice a1 a.code.length c1, .slice a2 a.hs.length c2] 66)) q3
  have q4' := cell_keep ((Ch.refl _).alloc (.cells #[.string a.n, .string a.d, .bool a.st, .bool a.ab, .int .i64 a.sk, .int .i64 a.lo, .slice a1 a.code.length c1, .slice a2 a.hs.length c2] 66)) q4
  have q5' := cell_keep ((Ch.refl _).alloc (.cells #[.string a.n, .string a.d, .bool a.st, .bool a.ab, .int .i64 a.sk, .int .i64 a.lo, .slice a1 a.code.length c1, .slice a2 a.hs.length c2] 66)) q5
  have q6' := cell_keep ((Ch.refl _).alloc (.cells #[.string a.n, .string a.d, .bool a.st, .bool a.ab, .int .i64 a.sk, .int .i64 a.lo, .slice a1 a.code.length c1, .slice a2 a.hs.length c2] 66)) q6
  have q7' := cell_keep ((Ch.refl _).alloc (.cells #[.string a.n, .string a.d, .bool a.st, .bool a.ab, .int .i64 a.sk, .int .i64 a.lo, .slice a1 a.code.length c1, .slice a2 a.hs.length c2] 66)) q7
  go_enter Tryz.func66, Tryz.ntmps66
  go_wp2_with (first
    | (go_at_call 32; refine (HM.out _ _ _ (one_sl (by repeat (first | (refine alloc_at _ _ _ ?_; simp; done) | refine al_keep ?_)) ⟨_, _, rfl, (HS.out _ (by repeat (first | exact Ch.refl _ | refine Ch.drew ?_ | refine Ch.alloc ?_ _ | refine Ch.trans ?_ (by assumption)))).1, (HS.out _ (by repeat (first | exact Ch.refl _ | refine Ch.drew ?_ | refine Ch.alloc ?_ _ | refine Ch.trans ?_ (by assumption)))).2.1⟩) (one_sl (by repeat (first | (refine alloc_at _ _ _ ?_; simp; done) | refine al_keep ?_)) ⟨_, _, rfl, (HS.out _ (by repeat (first | exact Ch.refl _ | refine Ch.drew ?_ | refine Ch.alloc ?_ _ | refine Ch.trans ?_ (by assumption)))).2.2.1, (HS.out _ (by repeat (first | exact Ch.refl _ | refine Ch.drew ?_ | refine Ch.alloc ?_ _ | refine Ch.trans ?_ (by assumption)))).2.2.2⟩)).mono ?_; rintro e w2 ⟨rfl, c2⟩)
    | fail)
  go_ret
  exact ⟨rfl, Ch.trans (by repeat (first | exact Ch.refl _ | refine Ch.drew ?_ | refine Ch.alloc ?_ _ | refine Ch.trans ?_ (by assumption))) c2⟩
end Go.Proofs.YthmepecmeambmaaGreat
namespace Go.Proofs.YthmepecmeambmaaGreat
open Go.RowKit
set_option linter.unusedVariables false

set_option maxHeartbeats 32000000 in
set_option maxRecDepth 100000 in
theorem calls_walk (HSMA : ∀ (a b : Cls) (vi vf vm ui uf um : Value) (w : World) (ha : ClsAt w a vi vf vm) (hb : ClsAt w b ui uf um), Calls Tryz.prog 32 #[.agg #[.string a.n, .string a.s, .bool a.it, .bool a.ab, vi, vf, vm], .agg #[.string b.n, .string b.s, .bool b.it, .bool b.ab, ui, uf, um]] w fun e w' => e = .returned (.bool (eqC a b)) ∧ Ch w w')
    (l : List Cls) (x : Ins) (v : Value) (w : World) (h : Sl 7 RC w v l) : Calls Tryz.prog 19 #[v, x.v] w fun e w' => e = .returned (.bool true) ∧ Ch w w' := by
  have B0 := Bo.new (Ch.refl w) (#[.int .i64 x.op, .int .i64 x.a, .int .i64 x.b, .string x.c, .string x.n, .string x.d] : Array Value) 62
  have hg := classesT_any l v _ (h.keep (fun cs a ⟨vi, vf, vm, e, q⟩ => ⟨vi, vf, vm, e, q.keep B0.ch⟩) B0.ch)
  have HV : Hid (∀ w', Ch w w' → okCs l → Calls Tryz.prog 24 #[v] w' fun e w2 => ∃ u, e = .returned (.tuple #[u, .int .i64 (link l).2.1, .string (link l).2.2]) ∧ Pv w2 (link l).1 u ∧ Ch w' w2) := fun w' k hT => classes_any l v w' (h.keep (fun cs a ⟨vi, vf, vm, e, q⟩ => ⟨vi, vf, vm, e, q.keep k⟩) k) hT
  have HI : Hid (∀ w, Calls Tryz.prog 59 #[x.v] w fun e w' => ∃ m, e = .returned (.int .i64 m) ∧ Ch w w') := fun w => (insT_any x w).mono (fun e w' ⟨⟨m, h1, h2⟩, h3⟩ => ⟨m, h1, h3⟩)
  have HCA : Hid (∀ w' P g b, Pm w' g b P → okCs P → Gd P → Calls Tryz.prog 67 #[.pointer (some ⟨g, 0, none⟩), x.v] w' fun e w2 => ∃ v, e = .returned (.tuple #[.string (resQ P x).1, v, .int .i64 (er (resQ P x).2)]) ∧ Mw w' w2 v ((resQ P x).2.getD noM) ∧ Ch w' w2) := fun w' P g b h hT G => call_any x P g b w' h hT G
  have HCI : Hid (∀ P o m, Gd P → Mk P → resQ P x = (o, some m) → ∃ (C D : Cls) (j : Nat), clsOf P x.c = (C, true) ∧ clsOf P o = (D, true) ∧ D.me[j]? = some m ∧ m.n = x.n ∧ m.d = x.d ∧
      ((x.op = 32 ∧ m.st = true ∧ m.ab = false) ∨ (x.op = 33 ∧ m.st = false ∧ m.ab = false ∧ (nq m.n nInit = false ∨ nq o x.c = true)) ∨ (x.op = 34 ∧ m.st = false ∧ C.it = false) ∨ (x.op = 35 ∧ m.st = false ∧ C.it = true))) := fun P o m g k h => call_is g k h
  have HCN : Hid (∀ P o, resQ P x = (o, none) → o = ⟨#[]⟩) := fun P o h => call_no h
  have HRQ : Hid (∀ P, ∃ o om, resQ P x = (o, om)) := fun P => ⟨_, _, rfl⟩
  obtain ⟨ao, cl, rfl, _, _⟩ := h.form
  clear h
  obtain ⟨RQ, hRQ⟩ : ∃ RQ : List Cls → ByteArray × Option Mth, RQ = fun P => resQ P x := ⟨_, rfl⟩
  have hRQ2 : ∀ P, resQ P x = RQ P := fun P => by rw [hRQ]
  simp only [hRQ2] at HCA HCI HCN HRQ
  clear hRQ hRQ2
  unfold Ins.v at *
  generalize x.op = a1 at *
  generalize x.a = a2 at *
  generalize x.b = a3 at *
  generalize x.c = a4 at *
  generalize x.n = a5 at *
  generalize x.d = a6 at *
  have HB : Hid (Bo w w.heap.size 62 #[.int .i64 a1, .int .i64 a2, .int .i64 a3, .string a4, .string a5, .string a6] (w.alloc (.cells #[.int .i64 a1, .int .i64 a2, .int .i64 a3, .string a4, .string a5, .string a6] 62))) := B0
  have q0 := B0.c 0 rfl
  have q1 := B0.c 1 rfl
  have q2 := B0.c 2 rfl
  have q3 := B0.c 3 rfl
  have q4 := B0.c 4 rfl
  have q5 := B0.c 5 rfl
  clear B0
  go_enter Tryz.func19, Tryz.ntmps19
  go_wp2_with (first
    | (go_at_call 22; (with_reducible refine hg.mono ?_); clear hg q0 q1 q2 q3 q4 q5; rintro e w1 ⟨⟨r, rfl, hr⟩, c1⟩; have B1 := HB.out.call c1; have q0 := B1.c 0 rfl; have q1 := B1.c 1 rfl; have q2 := B1.c 2 rfl; have q3 := B1.c 3 rfl; have q4 := B1.c 4 rfl; have q5 := B1.c 5 rfl; cases r)
    | fail)
  · go_wp2_with (first
      | (go_at_call 60; (with_reducible refine (awake8 _).mono ?_); rintro e w2 ⟨rfl, c2⟩)
      | fail)
    go_ret
    exact ⟨rfl, B1.ch.trans c2⟩
  have hT := hr (by first | rfl | trivial)
  clear hr
  go_wp2_with (first
    | (go_at_call 59; (with_reducible refine (HI.out _).mono ?_); rintro e w2 ⟨n, rfl, c2⟩; have B2 := B1.call c2; clear q0 q1 q2 q3 q4 q5; have q0 := B2.c 0 rfl; have q1 := B2.c 1 rfl; have q2 := B2.c 2 rfl; have q3 := B2.c 3 rfl; have q4 := B2.c 4 rfl; have q5 := B2.c 5 rfl)
    | fail)
  · go_wp2_with (first
      | (go_at_call 60; (with_reducible refine (awake8 _).mono ?_); rintro e w3 ⟨rfl, c3⟩)
      | fail)
    go_ret
    exact ⟨rfl, B2.ch.trans c3⟩
  have hcall := HV.out w2 B2.ch hT
  rcases link_two l hT with ⟨er', nm, hl, hne⟩ | ⟨hl, g⟩
  · rw [hl] at hcall
    have t0 : (er' != 0) = true := by simpa using hne
    go_wp2_with (first
      | (go_at_call 24; (with_reducible refine hcall.mono ?_); clear hcall; rintro e w3 ⟨u, rfl, hu, c3⟩; have hu : u = .pointer none := hu; subst hu)
      | (go_at_call 60; (with_reducible refine (awake8 _).mono ?_); rintro e w4 ⟨rfl, c4⟩)
      | fail)
    go_ret
    exact ⟨rfl, (B2.ch.trans c3).trans c4⟩
  rw [hl] at hcall
  have HG : Hid (Gd (prog l)) := g
  have HTP : Hid (okCs (prog l)) := okc_prog hT
  have HMK : Hid (Mk (prog l)) := mk_of hl
  clear HV hl hT g
  generalize prog l = P at *
  obtain ⟨o, om, hro⟩ := HRQ.out P
  have HC67 : Hid (∀ w' g b, Pm w' g b P → Calls Tryz.prog 67 #[.pointer (some ⟨g, 0, none⟩), .agg #[.int .i64 a1, .int .i64 a2, .int .i64 a3, .string a4, .string a5, .string a6]] w' fun e w2 => ∃ v, e = .returned (.tuple #[.string o, v, .int .i64 (er om)]) ∧ Mw w' w2 v (om.getD noM) ∧ Ch w' w2) := fun w' g b h => by
    have := HCA.out w' P g b h HTP.out HG.out
    rw [hro] at this
    exact this
  cases om with
  | none =>
    obtain rfl := HCN.out P o hro
    obtain ⟨m, hm⟩ : ∃ m, (none : Option Mth).getD noM = m := ⟨_, rfl⟩
    rw [hm] at HC67
    unfold er at HC67
    clear hro hm
    go_wp2_with (first
      | (go_at_call 24; (with_reducible refine hcall.mono ?_); clear hcall; rintro e w3 ⟨u, rfl, ⟨gp, bp, rfl, hm⟩, c3⟩; have B3 := B2.call c3; clear q0 q1 q2 q3 q4 q5; have q0 := B3.c 0 rfl; have q1 := B3.c 1 rfl; have q2 := B3.c 2 rfl; have q3 := B3.c 3 rfl; have q4 := B3.c 4 rfl; have q5 := B3.c 5 rfl; have h67 := HC67.out w3 gp bp hm)
      | (go_at_call 67; (with_reducible refine h67.mono ?_); clear h67; rintro e w4 ⟨v4, rfl, ⟨vc, vh, rfl, oc, oh⟩, c4⟩; obtain ⟨am1, cm1, rfl⟩ := oc.form; obtain ⟨am2, cm2, rfl⟩ := oh.form; unfold mV; have T4 := Bo.new (B3.ch.trans c4) #[.string ⟨#[]⟩, .string ⟨#[]⟩, .bool false, .bool false, .int .i64 0, .int .i64 0, .slice none 0 0, .slice none 0 0] 66)
      | (refine wpList_store_row rfl 66 (.tmp 9) (.tmp 48) rfl w4.heap.size #[.string m.n, .string m.d, .bool m.st, .bool m.ab, .int .i64 m.sk, .int .i64 m.lo, .slice am1 m.code.length cm1, .slice am2 m.hs.length cm2] rfl rfl 66 _ T4.b infoM rfl (one8 _ _ _ _ _ _ _ _ _ _ _ _) ?_; have T5 := T4.setRow #[.string m.n, .string m.d, .bool m.st, .bool m.ab, .int .i64 m.sk, .int .i64 m.lo, .slice am1 m.code.length cm1, .slice am2 m.hs.length cm2])
      | (go_at_call 60; (with_reducible refine (awake8 _).mono ?_); rintro e w5 ⟨rfl, c5⟩)
      | fail)
    go_ret
    exact ⟨rfl, T5.ch.trans c5⟩
  | some m =>
    obtain ⟨C, D, j, hC, hD, hj, hmn, hmd, hop⟩ := HCI.out P o m HG.out HMK.out hro
    have e0 : (some m).getD noM = m := rfl
    rw [e0] at HC67
    unfold er at HC67
    have HCC : Hid (∀ w' g b, Pm w' g b P → Calls Tryz.prog 31 #[.pointer (some ⟨g, 0, none⟩), .string a4] w' fun e w2 => ∃ vi vf vm, e = .returned (.tuple #[.agg #[.string C.n, .string C.s, .bool C.it, .bool C.ab, vi, vf, vm], .bool true]) ∧ OwC w'.heap.size w2 C vi vf vm ∧ Ch w' w2) := fun w' g b h => by
      have := class_any a4 P g b w' h HTP.out
      rw [hC] at this
      exact this
    have HCD : Hid (∀ w' g b, Pm w' g b P → Calls Tryz.prog 31 #[.pointer (some ⟨g, 0, none⟩), .string o] w' fun e w2 => ∃ vi vf vm, e = .returned (.tuple #[.agg #[.string D.n, .string D.s, .bool D.it, .bool D.ab, vi, vf, vm], .bool true]) ∧ OwC w'.heap.size w2 D vi vf vm ∧ Ch w' w2) := fun w' g b h => by
      have := class_any o P g b w' h HTP.out
      rw [hD] at this
      exact this
    have HOP : Hid ((a1 = 32 ∧ m.st = true ∧ m.ab = false) ∨ (a1 = 33 ∧ m.st = false ∧ m.ab = false ∧ (nq m.n nInit = false ∨ nq o a4 = true)) ∨ (a1 = 34 ∧ m.st = false ∧ C.it = false) ∨ (a1 = 35 ∧ m.st = false ∧ C.it = true)) := hop
    have HJ : Hid (D.me[j]? = some m) := hj
    have HNM : Hid (m.n = a5 ∧ m.d = a6) := ⟨hmn, hmd⟩
    have hDl : D.me.length ≤ 12000 := by
      unfold clsOf at hD
      cases hl : lk P o with
      | none => rw [hl] at hD; cases hD
      | some D' =>
        rw [hl] at hD
        cases hD
        obtain ⟨_, _, h3⟩ := lim_i (HTP.out D (lk_some hl).1)
        exact h3
    clear e0 hC hD hj hmn hmd hop hro HCN HCA HCI HRQ
    go_wp2_with (first
      | (go_at_call 24; (with_reducible refine hcall.mono ?_); clear hcall; rintro e wa ⟨u, rfl, ⟨gp, bp, rfl, hm⟩, ca⟩; have B3 := B2.call ca; clear q0 q1 q2 q3 q4 q5; have q0 := B3.c 0 rfl; have q1 := B3.c 1 rfl; have q2 := B3.c 2 rfl; have q3 := B3.c 3 rfl; have q4 := B3.c 4 rfl; have q5 := B3.c 5 rfl; have h67 := HC67.out wa gp bp hm)
      | (go_at_call 67; (with_reducible refine h67.mono ?_); clear h67; rintro e w3 ⟨v3, rfl, ⟨vc, vh, rfl, oc, oh⟩, c3⟩; have OCM : Hid (Ow 6 62 RI wa.heap.size w3 vc m.code ∧ Ow 4 124 RH wa.heap.size w3 vh m.hs) := ⟨oc, oh⟩; obtain ⟨am1, cm1, rfl⟩ := oc.form; obtain ⟨am2, cm2, rfl⟩ := oh.form; clear oc oh; unfold mV; have T4 := Bo.new c3 #[.string ⟨#[]⟩, .string ⟨#[]⟩, .bool false, .bool false, .int .i64 0, .int .i64 0, .slice none 0 0, .slice none 0 0] 66)
      | (refine wpList_store_row rfl 66 (.tmp 9) (.tmp 48) rfl w3.heap.size #[.string m.n, .string m.d, .bool m.st, .bool m.ab, .int .i64 m.sk, .int .i64 m.lo, .slice am1 m.code.length cm1, .slice am2 m.hs.length cm2] rfl rfl 66 _ T4.b infoM rfl (one8 _ _ _ _ _ _ _ _ _ _ _ _) ?_; have T4 := T4.setRow #[.string m.n, .string m.d, .bool m.st, .bool m.ab, .int .i64 m.sk, .int .i64 m.lo, .slice am1 m.code.length cm1, .slice am2 m.hs.length cm2]; have B4 := B3.call T4.ch; clear q0 q1 q2 q3 q4 q5; have q3 := B4.c 3 rfl; have k4 : Ch w3 ((w3.alloc (.cells #[.string ⟨#[]⟩, .string ⟨#[]⟩, .bool false, .bool false, .int .i64 0, .int .i64 0, .slice none 0 0, .slice none 0 0] 66)).setRow w3.heap.size #[.string m.n, .string m.d, .bool m.st, .bool m.ab, .int .i64 m.sk, .int .i64 m.lo, .slice am1 m.code.length cm1, .slice am2 m.hs.length cm2]) := ((Ch.refl w3).alloc (.cells #[.string ⟨#[]⟩, .string ⟨#[]⟩, .bool false, .bool false, .int .i64 0, .int .i64 0, .slice none 0 0, .slice none 0 0] 66)).setRow w3.heap.size #[.string m.n, .string m.d, .bool m.st, .bool m.ab, .int .i64 m.sk, .int .i64 m.lo, .slice am1 m.code.length cm1, .slice am2 m.hs.length cm2] (Nat.le_refl _); have hcc := HCC.out _ gp bp (hm.keep T4.ch))
      | (go_at_call 31; (with_reducible refine hcc.mono ?_); clear hcc; rintro e w5 ⟨vi, vf, vm, rfl, ow, cc⟩; have OWc : Hid (OwC _ w5 C vi vf vm) := ow; obtain ⟨ac3, dc3, rfl⟩ := Ow.form ow.i; obtain ⟨ac4, dc4, rfl⟩ := Ow.form ow.f; obtain ⟨ac5, dc5, rfl⟩ := Ow.form ow.m; clear ow; have Tc := Bo.new (T4.ch.trans cc) #[.string ⟨#[]⟩, .string ⟨#[]⟩, .bool false, .bool false, .slice none 0 0, .slice none 0 0, .slice none 0 0] 41)
      | (refine wpList_store_row rfl 41 (.tmp 11) (.tmp 66) rfl w5.heap.size #[.string C.n, .string C.s, .bool C.it, .bool C.ab, .slice ac3 C.im.length dc3, .slice ac4 C.fs.length dc4, .slice ac5 C.me.length dc5] rfl rfl 41 _ Tc.b infoC rfl (one7 _ _ _ _ _ _ _ _ _ _ _ _ _) ?_; have Tc := Tc.setRow #[.string C.n, .string C.s, .bool C.it, .bool C.ab, .slice ac3 C.im.length dc3, .slice ac4 C.fs.length dc4, .slice ac5 C.me.length dc5]; have kc : Ch w5 ((w5.alloc (.cells #[.string ⟨#[]⟩, .string ⟨#[]⟩, .bool false, .bool false, .slice none 0 0, .slice none 0 0, .slice none 0 0] 41)).setRow w5.heap.size #[.string C.n, .string C.s, .bool C.it, .bool C.ab, .slice ac3 C.im.length dc3, .slice ac4 C.fs.length dc4, .slice ac5 C.me.length dc5]) := ((Ch.refl w5).alloc (.cells #[.string ⟨#[]⟩, .string ⟨#[]⟩, .bool false, .bool false, .slice none 0 0, .slice none 0 0, .slice none 0 0] 41)).setRow w5.heap.size #[.string C.n, .string C.s, .bool C.it, .bool C.ab, .slice ac3 C.im.length dc3, .slice ac4 C.fs.length dc4, .slice ac5 C.me.length dc5] (Nat.le_refl _); have kC := (cc.alloc (.cells #[.string ⟨#[]⟩, .string ⟨#[]⟩, .bool false, .bool false, .slice none 0 0, .slice none 0 0, .slice none 0 0] 41)).setRow w5.heap.size #[.string C.n, .string C.s, .bool C.it, .bool C.ab, .slice ac3 C.im.length dc3, .slice ac4 C.fs.length dc4, .slice ac5 C.me.length dc5] cc.size; have T4 := T4.call kC; have B4 := B4.call kC; have hcd := HCD.out _ gp bp (hm.keep Tc.ch))
      | (go_at_call 31; (with_reducible refine hcd.mono ?_); clear hcd; rintro e w7 ⟨vi, vf, vm, rfl, ow, cc⟩; have OWe : Hid (OwC _ w7 D vi vf vm) := ow; obtain ⟨ae3, de3, rfl⟩ := Ow.form ow.i; obtain ⟨ae4, de4, rfl⟩ := Ow.form ow.f; obtain ⟨ae5, de5, rfl⟩ := Ow.form ow.m; clear ow; have Te := Bo.new (Tc.ch.trans cc) #[.string ⟨#[]⟩, .string ⟨#[]⟩, .bool false, .bool false, .slice none 0 0, .slice none 0 0, .slice none 0 0] 41)
      | (refine wpList_store_row rfl 41 (.tmp 13) (.tmp 72) rfl w7.heap.size #[.string D.n, .string D.s, .bool D.it, .bool D.ab, .slice ae3 D.im.length de3, .slice ae4 D.fs.length de4, .slice ae5 D.me.length de5] rfl rfl 41 _ Te.b infoC rfl (one7 _ _ _ _ _ _ _ _ _ _ _ _ _) ?_; have Te := Te.setRow #[.string D.n, .string D.s, .bool D.it, .bool D.ab, .slice ae3 D.im.length de3, .slice ae4 D.fs.length de4, .slice ae5 D.me.length de5]; have ke : Ch w7 ((w7.alloc (.cells #[.string ⟨#[]⟩, .string ⟨#[]⟩, .bool false, .bool false, .slice none 0 0, .slice none 0 0, .slice none 0 0] 41)).setRow w7.heap.size #[.string D.n, .string D.s, .bool D.it, .bool D.ab, .slice ae3 D.im.length de3, .slice ae4 D.fs.length de4, .slice ae5 D.me.length de5]) := ((Ch.refl w7).alloc (.cells #[.string ⟨#[]⟩, .string ⟨#[]⟩, .bool false, .bool false, .slice none 0 0, .slice none 0 0, .slice none 0 0] 41)).setRow w7.heap.size #[.string D.n, .string D.s, .bool D.it, .bool D.ab, .slice ae3 D.im.length de3, .slice ae4 D.fs.length de4, .slice ae5 D.me.length de5] (Nat.le_refl _); have kD := (cc.alloc (.cells #[.string ⟨#[]⟩, .string ⟨#[]⟩, .bool false, .bool false, .slice none 0 0, .slice none 0 0, .slice none 0 0] 41)).setRow w7.heap.size #[.string D.n, .string D.s, .bool D.it, .bool D.ab, .slice ae3 D.im.length de3, .slice ae4 D.fs.length de4, .slice ae5 D.me.length de5] cc.size; have T4 := T4.call kD; have Tc := Tc.call kD; have B4 := B4.call kD)
      | fail)
    generalize ((w7.alloc (.cells #[.string ⟨#[]⟩, .string ⟨#[]⟩, .bool false, .bool false, .slice none 0 0, .slice none 0 0, .slice none 0 0] 41)).setRow w7.heap.size #[.string D.n, .string D.s, .bool D.it, .bool D.ab, .slice ae3 D.im.length de3, .slice ae4 D.fs.length de4, .slice ae5 D.me.length de5]) = wz at *
    have HOM : Hid (Ow 6 62 RI wa.heap.size wz (.slice am1 m.code.length cm1) m.code ∧ Ow 4 124 RH wa.heap.size wz (.slice am2 m.hs.length cm2) m.hs) := ⟨((OCM.out.1.keepI k4).keepI kC).keepI kD, ((OCM.out.2.keepH k4).keepH kC).keepH kD⟩
    have HOD : Hid (OwC _ wz D (.slice ae3 D.im.length de3) (.slice ae4 D.fs.length de4) (.slice ae5 D.me.length de5)) := OWe.out.keep ke
    have HZ : Hid (Ch w wz) := B4.ch
    have HT4 : Hid (Bo wa w3.heap.size 66 #[.string m.n, .string m.d, .bool m.st, .bool m.ab, .int .i64 m.sk, .int .i64 m.lo, .slice am1 m.code.length cm1, .slice am2 m.hs.length cm2] wz) := T4
    have HTc : Hid (Bo wa w5.heap.size 41 #[.string C.n, .string C.s, .bool C.it, .bool C.ab, .slice ac3 C.im.length dc3, .slice ac4 C.fs.length dc4, .slice ac5 C.me.length dc5] wz) := Tc
    have HTe : Hid (Bo wa w7.heap.size 41 #[.string D.n, .string D.s, .bool D.it, .bool D.ab, .slice ae3 D.im.length de3, .slice ae4 D.fs.length de4, .slice ae5 D.me.length de5] wz) := Te
    have HB4 : Hid (Bo w w.heap.size 62 #[.int .i64 a1, .int .i64 a2, .int .i64 a3, .string a4, .string a5, .string a6] wz) := B4
    clear OCM OWe OWc kC kD k4 kc ke T4 Tc Te B4 B3 B2 B1 q3 ca c1 c2 c3 cc hm HCC HCD HC67 HI HB
    have d6 := HTe.out.c 6 rfl
    go_loopw [15, 16] (fun hb i wr => ∃ (k : Nat) (b : Bool), k ≤ D.me.length ∧ i = .int .i64 k ∧ hb = .bool b ∧ (j < k → b = true) ∧ Ch wz wr) (fun _ i _ => D.me.length - (intOf i).toNat)
    case atStart => exact ⟨0, false, Nat.zero_le _, rfl, rfl, fun h => by omega, Ch.refl _⟩
    case round =>
      obtain ⟨k, b, hk, rfl, rfl, hbj, hcr⟩ := hrel
      clear d6
      have d6 := (HTe.out.call hcr).c 6 rfl
      by_cases hlt : k < D.me.length
      · obtain ⟨y, hy⟩ : ∃ y, D.me[k]? = some y := ⟨_, List.getElem?_eq_getElem hlt⟩
        obtain ⟨gm, csy, e1, _, _, ⟨vcy, vhy, e2, oy1, oy2⟩, q, _⟩ := HOD.out.m.at hy
        subst e1 e2
        obtain ⟨ay1, cy1, rfl⟩ := oy1.form
        obtain ⟨ay2, cy2, rfl⟩ := oy2.form
        have HS15 : Hid (∀ w', Ch wz w' → w'.cell? ⟨w7.heap.size, 6, none⟩ = some (.slice (some ⟨gm, 0, none⟩) D.me.length de5) ∧ w'.cell? ⟨gm, k * 8, none⟩ = some (.string y.n) ∧ w'.cell? ⟨gm, k * 8 + 1, none⟩ = some (.string y.d) ∧ w'.cell? ⟨gm, k * 8 + 2, none⟩ = some (.bool y.st) ∧ w'.cell? ⟨gm, k * 8 + 3, none⟩ = some (.bool y.ab) ∧ w'.cell? ⟨gm, k * 8 + 4, none⟩ = some (.int .i64 y.sk) ∧ w'.cell? ⟨gm, k * 8 + 5, none⟩ = some (.int .i64 y.lo) ∧ w'.cell? ⟨gm, k * 8 + 6, none⟩ = some (.slice ay1 y.code.length cy1) ∧ w'.cell? ⟨gm, k * 8 + 7, none⟩ = some (.slice ay2 y.hs.length cy2) ∧ w'.cell? ⟨w3.heap.size, 0, none⟩ = some (.string m.n) ∧ w'.cell? ⟨w3.heap.size, 1, none⟩ = some (.string m.d) ∧ w'.cell? ⟨w3.heap.size, 2, none⟩ = some (.bool m.st) ∧ w'.cell? ⟨w3.heap.size, 3, none⟩ = some (.bool m.ab) ∧ w'.cell? ⟨w3.heap.size, 4, none⟩ = some (.int .i64 m.sk) ∧ w'.cell? ⟨w3.heap.size, 5, none⟩ = some (.int .i64 m.lo) ∧ w'.cell? ⟨w3.heap.size, 6, none⟩ = some (.slice am1 m.code.length cm1) ∧ w'.cell? ⟨w3.heap.size, 7, none⟩ = some (.slice am2 m.hs.length cm2)) := fun w' kk => ⟨(HTe.out.call kk).c 6 rfl, by have := cell_keep kk (q 0 _ rfl); simpa using this, by have := cell_keep kk (q 1 _ rfl); simpa using this, by have := cell_keep kk (q 2 _ rfl); simpa using this, by have := cell_keep kk (q 3 _ rfl); simpa using this, by have := cell_keep kk (q 4 _ rfl); simpa using this, by have := cell_keep kk (q 5 _ rfl); simpa using this, by have := cell_keep kk (q 6 _ rfl); simpa using this, by have := cell_keep kk (q 7 _ rfl); simpa using this, (HT4.out.call kk).c 0 rfl, (HT4.out.call kk).c 1 rfl, (HT4.out.call kk).c 2 rfl, (HT4.out.call kk).c 3 rfl, (HT4.out.call kk).c 4 rfl, (HT4.out.call kk).c 5 rfl, (HT4.out.call kk).c 6 rfl, (HT4.out.call kk).c 7 rfl⟩
        have HJK : Hid (j = k → eqC (oneC y) (oneC m) = true) := fun e => by
          subst e
          have h1 := HJ.out
          rw [hy] at h1
          cases h1
          exact eqC_refl _
        have kd : Ch wz wr.drew := hcr.trans (Ch.refl _).drew
        have hsm := sameM_any HSMA y m ay1 ay2 am1 am2 cy1 cy2 cm1 cm2 wr.drew (oy1.keepI kd).sl (oy2.keepH kd).sl (HOM.out.1.keepI kd).sl (HOM.out.2.keepH kd).sl
        generalize eqC (oneC y) (oneC m) = sm at *
        clear q oy1 oy2 hy
        cases b with
        | true =>
          go_wp2_with fail
          refine wp_region_held_drew (S := fun w' => w'.cell? ⟨w7.heap.size, 6, none⟩ = some (.slice (some ⟨gm, 0, none⟩) D.me.length de5) ∧ w'.cell? ⟨gm, k * 8, none⟩ = some (.string y.n) ∧ w'.cell? ⟨gm, k * 8 + 1, none⟩ = some (.string y.d) ∧ w'.cell? ⟨gm, k * 8 + 2, none⟩ = some (.bool y.st) ∧ w'.cell? ⟨gm, k * 8 + 3, none⟩ = some (.bool y.ab) ∧ w'.cell? ⟨gm, k * 8 + 4, none⟩ = some (.int .i64 y.sk) ∧ w'.cell? ⟨gm, k * 8 + 5, none⟩ = some (.int .i64 y.lo) ∧ w'.cell? ⟨gm, k * 8 + 6, none⟩ = some (.slice ay1 y.code.length cy1) ∧ w'.cell? ⟨gm, k * 8 + 7, none⟩ = some (.slice ay2 y.hs.length cy2) ∧ w'.cell? ⟨w3.heap.size, 0, none⟩ = some (.string m.n) ∧ w'.cell? ⟨w3.heap.size, 1, none⟩ = some (.string m.d) ∧ w'.cell? ⟨w3.heap.size, 2, none⟩ = some (.bool m.st) ∧ w'.cell? ⟨w3.heap.size, 3, none⟩ = some (.bool m.ab) ∧ w'.cell? ⟨w3.heap.size, 4, none⟩ = some (.int .i64 m.sk) ∧ w'.cell? ⟨w3.heap.size, 5, none⟩ = some (.int .i64 m.lo) ∧ w'.cell? ⟨w3.heap.size, 6, none⟩ = some (.slice am1 m.code.length cm1) ∧ w'.cell? ⟨w3.heap.size, 7, none⟩ = some (.slice am2 m.hs.length cm2)) (by kernel_rfl) (by exact HS15.out _ kd) (fun hHeld => ?_)
          refine wpAnyH_take (i := 0) (oi := ({ dst := some 81, op := Go.Op.move (Go.Operand.tmp 15), type := 4, pos := "law.go:109", after := #[], guard := none } : Oper)) (v := ?_) rfl (by kernel_rfl) (by kernel_rfl) (by kernel_rfl) (fun _ _ _ h => h) (Or.inl ⟨by rfl, ?_⟩) (by assumption) ?_
          rotate_left
          focus (intro w' hSw; (try dsimp only at hSw); go_split_ands; go_simp; try with_reducible rfl)
          (try simp only [Act.put, List.setIfInBounds_toArray, List.set_cons_zero, List.set_cons_succ])
          refine wpAnyH_take (i := 1) (oi := ({ dst := some 82, op := Go.Op.move (Go.Operand.tmp 81), type := 4, pos := "law.go:109", after := #[{ on := 0, ground := Go.Ground.data }], guard := none } : Oper)) (v := ?_) rfl (by kernel_rfl) (by kernel_rfl) (by kernel_rfl) (fun _ _ _ h => h) (Or.inl ⟨by rfl, ?_⟩) (by assumption) ?_
          rotate_left
          focus (intro w' hSw; (try dsimp only at hSw); go_split_ands; go_simp; try with_reducible rfl)
          (try simp only [Act.put, List.setIfInBounds_toArray, List.set_cons_zero, List.set_cons_succ])
          refine wpAnyH_take (i := 2) (oi := ({ dst := some 83, op := Go.Op.fieldAddr 41 (Go.Operand.tmp 13) 6, type := 0, pos := "law.go:109", after := #[{ on := 1, ground := Go.Ground.guard }], guard := some (1, false) } : Oper)) (v := undef) rfl (by kernel_rfl) (by kernel_rfl) (by kernel_rfl) (fun _ _ _ h => h) (Or.inr ⟨by rfl, rfl⟩) (by assumption) ?_
          (try simp only [Act.put, List.setIfInBounds_toArray, List.set_cons_zero, List.set_cons_succ])
          refine wpAnyH_take (i := 3) (oi := ({ dst := some 84, op := Go.Op.load 39 (Go.Operand.tmp 83), type := 39, pos := "law.go:109", after := #[{ on := 2, ground := Go.Ground.data }, { on := 1, ground := Go.Ground.guard }], guard := some (1, false) } : Oper)) (v := undef) rfl (by kernel_rfl) (by kernel_rfl) (by kernel_rfl) (fun _ _ _ h => h) (Or.inr ⟨by rfl, rfl⟩) (by assumption) ?_
          (try simp only [Act.put, List.setIfInBounds_toArray, List.set_cons_zero, List.set_cons_succ])
          refine wpAnyH_take (i := 4) (oi := ({ dst := some 85, op := Go.Op.move (Go.Operand.tmp 16), type := 3, pos := "law.go:109", after := #[{ on := 1, ground := Go.Ground.guard }], guard := some (1, false) } : Oper)) (v := undef) rfl (by kernel_rfl) (by kernel_rfl) (by kernel_rfl) (fun _ _ _ h => h) (Or.inr ⟨by rfl, rfl⟩) (by assumption) ?_
          (try simp only [Act.put, List.setIfInBounds_toArray, List.set_cons_zero, List.set_cons_succ])
          refine wpAnyH_take (i := 5) (oi := ({ dst := some 86, op := Go.Op.indexAddr 39 (Go.Operand.tmp 84) (Go.Operand.tmp 85), type := 0, pos := "law.go:109", after := #[{ on := 3, ground := Go.Ground.data }, { on := 4, ground := Go.Ground.data }, { on := 1, ground := Go.Ground.guard }], guard := some (1, false) } : Oper)) (v := undef) rfl (by kernel_rfl) (by kernel_rfl) (by kernel_rfl) (fun _ _ _ h => h) (Or.inr ⟨by rfl, rfl⟩) (by assumption) ?_
          (try simp only [Act.put, List.setIfInBounds_toArray, List.set_cons_zero, List.set_cons_succ])
          refine wpAnyH_take (i := 6) (oi := ({ dst := some 87, op := Go.Op.load 66 (Go.Operand.tmp 86), type := 66, pos := "law.go:109", after := #[{ on := 5, ground := Go.Ground.data }, { on := 1, ground := Go.Ground.guard }], guard := some (1, false) } : Oper)) (v := undef) rfl (by kernel_rfl) (by kernel_rfl) (by kernel_rfl) (fun _ _ _ h => h) (Or.inr ⟨by rfl, rfl⟩) (by assumption) ?_
          (try simp only [Act.put, List.setIfInBounds_toArray, List.set_cons_zero, List.set_cons_succ])
          refine wpAnyH_take (i := 7) (oi := ({ dst := some 88, op := Go.Op.load 66 (Go.Operand.tmp 9), type := 66, pos := "law.go:109", after := #[{ on := 1, ground := Go.Ground.guard }], guard := some (1, false) } : Oper)) (v := undef) rfl (by kernel_rfl) (by kernel_rfl) (by kernel_rfl) (fun _ _ _ h => h) (Or.inr ⟨by rfl, rfl⟩) (by assumption) ?_
          (try simp only [Act.put, List.setIfInBounds_toArray, List.set_cons_zero, List.set_cons_succ])
          refine wpAnyH_take (i := 8) (oi := ({ dst := some 89, op := Go.Op.call { callee := Go.Callee.value (Go.Operand.func 66), args := #[Go.Operand.tmp 87, Go.Operand.tmp 88], argTypes := #[66, 66] }, type := 4, pos := "law.go:109", after := #[{ on := 6, ground := Go.Ground.data }, { on := 7, ground := Go.Ground.data }, { on := 1, ground := Go.Ground.chain }, { on := 1, ground := Go.Ground.guard }], guard := some (1, false) } : Oper)) (v := undef) rfl (by kernel_rfl) (by kernel_rfl) (by kernel_rfl) (fun _ _ _ h => h) (Or.inr ⟨by rfl, rfl⟩) (by assumption) ?_
          (try simp only [Act.put, List.setIfInBounds_toArray, List.set_cons_zero, List.set_cons_succ])
          refine wpAnyH_take (i := 9) (oi := ({ dst := some 90, op := Go.Op.pick (Go.Operand.tmp 82) (Go.Operand.const (Go.Value.bool true)) (Go.Operand.tmp 89), type := 4, pos := "law.go:109", after := #[{ on := 1, ground := Go.Ground.data }, { on := 8, ground := Go.Ground.data }], guard := none } : Oper)) (v := ?_) rfl (by kernel_rfl) (by kernel_rfl) (by kernel_rfl) (fun _ _ _ h => h) (Or.inl ⟨by rfl, ?_⟩) (by assumption) ?_
          rotate_left
          focus (intro w' hSw; (try dsimp only at hSw); go_split_ands; go_simp; try with_reducible rfl)
          (try simp only [Act.put, List.setIfInBounds_toArray, List.set_cons_zero, List.set_cons_succ])
          refine wpAnyH_take (i := 10) (oi := ({ dst := some 15, op := Go.Op.assign (Go.Operand.tmp 90), type := 4, pos := "law.go:109", after := #[{ on := 9, ground := Go.Ground.data }, { on := 8, ground := Go.Ground.chain }, { on := 0, ground := Go.Ground.phase }, { on := 1, ground := Go.Ground.phase }, { on := 2, ground := Go.Ground.phase }, { on := 3, ground := Go.Ground.phase }, { on := 4, ground := Go.Ground.phase }, { on := 5, ground := Go.Ground.phase }, { on := 6, ground := Go.Ground.phase }, { on := 7, ground := Go.Ground.phase }, { on := 8, ground := Go.Ground.phase }, { on := 9, ground := Go.Ground.phase }], guard := none } : Oper)) (v := ?_) rfl (by kernel_rfl) (by kernel_rfl) (by kernel_rfl) (fun _ _ _ h => h) (Or.inl ⟨by rfl, ?_⟩) (by assumption) ?_
          rotate_left
          focus (intro w' hSw; (try dsimp only at hSw); go_split_ands; go_simp; try with_reducible rfl)
          (try simp only [Act.put, List.setIfInBounds_toArray, List.set_cons_zero, List.set_cons_succ])
          refine wpAnyH_done (by kernel_rfl) ?_ _
          go_wp2_with fail
          go_roundw
          case rel => exact ⟨k + 1, true, by omega, by go_num, rfl, fun _ => rfl, kd⟩
          case measure => simp [intOf]; omega
        | false =>
          go_wp2_with fail
          refine wp_region_held_drew (S := fun w' => w'.cell? ⟨w7.heap.size, 6, none⟩ = some (.slice (some ⟨gm, 0, none⟩) D.me.length de5) ∧ w'.cell? ⟨gm, k * 8, none⟩ = some (.string y.n) ∧ w'.cell? ⟨gm, k * 8 + 1, none⟩ = some (.string y.d) ∧ w'.cell? ⟨gm, k * 8 + 2, none⟩ = some (.bool y.st) ∧ w'.cell? ⟨gm, k * 8 + 3, none⟩ = some (.bool y.ab) ∧ w'.cell? ⟨gm, k * 8 + 4, none⟩ = some (.int .i64 y.sk) ∧ w'.cell? ⟨gm, k * 8 + 5, none⟩ = some (.int .i64 y.lo) ∧ w'.cell? ⟨gm, k * 8 + 6, none⟩ = some (.slice ay1 y.code.length cy1) ∧ w'.cell? ⟨gm, k * 8 + 7, none⟩ = some (.slice ay2 y.hs.length cy2) ∧ w'.cell? ⟨w3.heap.size, 0, none⟩ = some (.string m.n) ∧ w'.cell? ⟨w3.heap.size, 1, none⟩ = some (.string m.d) ∧ w'.cell? ⟨w3.heap.size, 2, none⟩ = some (.bool m.st) ∧ w'.cell? ⟨w3.heap.size, 3, none⟩ = some (.bool m.ab) ∧ w'.cell? ⟨w3.heap.size, 4, none⟩ = some (.int .i64 m.sk) ∧ w'.cell? ⟨w3.heap.size, 5, none⟩ = some (.int .i64 m.lo) ∧ w'.cell? ⟨w3.heap.size, 6, none⟩ = some (.slice am1 m.code.length cm1) ∧ w'.cell? ⟨w3.heap.size, 7, none⟩ = some (.slice am2 m.hs.length cm2)) (by kernel_rfl) (by exact HS15.out _ kd) (fun hHeld => ?_)
          refine wpAnyH_take (i := 0) (oi := ({ dst := some 81, op := Go.Op.move (Go.Operand.tmp 15), type := 4, pos := "law.go:109", after := #[], guard := none } : Oper)) (v := ?_) rfl (by kernel_rfl) (by kernel_rfl) (by kernel_rfl) (fun _ _ _ h => h) (Or.inl ⟨by rfl, ?_⟩) (by assumption) ?_
          rotate_left
          focus (intro w' hSw; (try dsimp only at hSw); go_split_ands; go_simp; try with_reducible rfl)
          (try simp only [Act.put, List.setIfInBounds_toArray, List.set_cons_zero, List.set_cons_succ])
          refine wpAnyH_take (i := 1) (oi := ({ dst := some 82, op := Go.Op.move (Go.Operand.tmp 81), type := 4, pos := "law.go:109", after := #[{ on := 0, ground := Go.Ground.data }], guard := none } : Oper)) (v := ?_) rfl (by kernel_rfl) (by kernel_rfl) (by kernel_rfl) (fun _ _ _ h => h) (Or.inl ⟨by rfl, ?_⟩) (by assumption) ?_
          rotate_left
          focus (intro w' hSw; (try dsimp only at hSw); go_split_ands; go_simp; try with_reducible rfl)
          (try simp only [Act.put, List.setIfInBounds_toArray, List.set_cons_zero, List.set_cons_succ])
          refine wpAnyH_take (i := 2) (oi := ({ dst := some 83, op := Go.Op.fieldAddr 41 (Go.Operand.tmp 13) 6, type := 0, pos := "law.go:109", after := #[{ on := 1, ground := Go.Ground.guard }], guard := some (1, false) } : Oper)) (v := ?_) rfl (by kernel_rfl) (by kernel_rfl) (by kernel_rfl) (fun _ _ _ h => h) (Or.inl ⟨by rfl, ?_⟩) (by assumption) ?_
          rotate_left
          focus (intro w' hSw; (try dsimp only at hSw); go_split_ands; go_simp; try with_reducible rfl)
          (try simp only [Act.put, List.setIfInBounds_toArray, List.set_cons_zero, List.set_cons_succ])
          refine wpAnyH_take (i := 3) (oi := ({ dst := some 84, op := Go.Op.load 39 (Go.Operand.tmp 83), type := 39, pos := "law.go:109", after := #[{ on := 2, ground := Go.Ground.data }, { on := 1, ground := Go.Ground.guard }], guard := some (1, false) } : Oper)) (v := ?_) rfl (by kernel_rfl) (by kernel_rfl) (by kernel_rfl) (fun _ _ _ h => h) (Or.inl ⟨by rfl, ?_⟩) (by assumption) ?_
          rotate_left
          focus (intro w' hSw; (try dsimp only at hSw); go_split_ands; go_simp; try with_reducible rfl)
          (try simp only [Act.put, List.setIfInBounds_toArray, List.set_cons_zero, List.set_cons_succ])
          refine wpAnyH_take (i := 4) (oi := ({ dst := some 85, op := Go.Op.move (Go.Operand.tmp 16), type := 3, pos := "law.go:109", after := #[{ on := 1, ground := Go.Ground.guard }], guard := some (1, false) } : Oper)) (v := ?_) rfl (by kernel_rfl) (by kernel_rfl) (by kernel_rfl) (fun _ _ _ h => h) (Or.inl ⟨by rfl, ?_⟩) (by assumption) ?_
          rotate_left
          focus (intro w' hSw; (try dsimp only at hSw); go_split_ands; go_simp; try with_reducible rfl)
          (try simp only [Act.put, List.setIfInBounds_toArray, List.set_cons_zero, List.set_cons_succ])
          refine wpAnyH_take (i := 5) (oi := ({ dst := some 86, op := Go.Op.indexAddr 39 (Go.Operand.tmp 84) (Go.Operand.tmp 85), type := 0, pos := "law.go:109", after := #[{ on := 3, ground := Go.Ground.data }, { on := 4, ground := Go.Ground.data }, { on := 1, ground := Go.Ground.guard }], guard := some (1, false) } : Oper)) (v := ?_) rfl (by kernel_rfl) (by kernel_rfl) (by kernel_rfl) (fun _ _ _ h => h) (Or.inl ⟨by rfl, ?_⟩) (by assumption) ?_
          rotate_left
          focus (intro w' hSw; (try dsimp only at hSw); go_split_ands; go_simp; try with_reducible rfl)
          (try simp only [Act.put, List.setIfInBounds_toArray, List.set_cons_zero, List.set_cons_succ])
          refine wpAnyH_take (i := 6) (oi := ({ dst := some 87, op := Go.Op.load 66 (Go.Operand.tmp 86), type := 66, pos := "law.go:109", after := #[{ on := 5, ground := Go.Ground.data }, { on := 1, ground := Go.Ground.guard }], guard := some (1, false) } : Oper)) (v := ?_) rfl (by kernel_rfl) (by kernel_rfl) (by kernel_rfl) (fun _ _ _ h => h) (Or.inl ⟨by rfl, ?_⟩) (by assumption) ?_
          rotate_left
          focus (intro w' hSw; (try dsimp only at hSw); go_split_ands; go_simp; try with_reducible rfl)
          (try simp only [Act.put, List.setIfInBounds_toArray, List.set_cons_zero, List.set_cons_succ])
          refine wpAnyH_take (i := 7) (oi := ({ dst := some 88, op := Go.Op.load 66 (Go.Operand.tmp 9), type := 66, pos := "law.go:109", after := #[{ on := 1, ground := Go.Ground.guard }], guard := some (1, false) } : Oper)) (v := ?_) rfl (by kernel_rfl) (by kernel_rfl) (by kernel_rfl) (fun _ _ _ h => h) (Or.inl ⟨by rfl, ?_⟩) (by assumption) ?_
          rotate_left
          focus (intro w' hSw; (try dsimp only at hSw); go_split_ands; go_simp; try with_reducible rfl)
          (try simp only [Act.put, List.setIfInBounds_toArray, List.set_cons_zero, List.set_cons_succ])
          refine wpAnyH_ready (rs := [8]) (by kernel_rfl) (by simp) ?_
          refine AllReadyH.cons (o := ({ dst := some 89, op := Go.Op.call { callee := Go.Callee.value (Go.Operand.func 66), args := #[Go.Operand.tmp 87, Go.Operand.tmp 88], argTypes := #[66, 66] }, type := 4, pos := "law.go:109", after := #[{ on := 6, ground := Go.Ground.data }, { on := 7, ground := Go.Ground.data }, { on := 1, ground := Go.Ground.chain }, { on := 1, ground := Go.Ground.guard }], guard := some (1, false) } : Oper)) rfl (fun K hK => ?_) AllReadyH.nil
          go_simp
          go_at_call 66; (with_reducible refine hsm.mono ?_); clear hsm; rintro e wg ⟨rfl, cg⟩; have kg := kd.trans cg
          refine hK.out _ _ ?_ (fun hHeld => ?_)
          exact HS15.out _ kg
          clear hK K
          (try simp only [Act.put, List.setIfInBounds_toArray, List.set_cons_zero, List.set_cons_succ])
          refine wpAnyH_take (i := 9) (oi := ({ dst := some 90, op := Go.Op.pick (Go.Operand.tmp 82) (Go.Operand.const (Go.Value.bool true)) (Go.Operand.tmp 89), type := 4, pos := "law.go:109", after := #[{ on := 1, ground := Go.Ground.data }, { on := 8, ground := Go.Ground.data }], guard := none } : Oper)) (v := ?_) rfl (by kernel_rfl) (by kernel_rfl) (by kernel_rfl) (fun _ _ _ h => h) (Or.inl ⟨by rfl, ?_⟩) (by assumption) ?_
          rotate_left
          focus (intro w' hSw; (try dsimp only at hSw); go_split_ands; go_simp; try with_reducible rfl)
          (try simp only [Act.put, List.setIfInBounds_toArray, List.set_cons_zero, List.set_cons_succ])
          refine wpAnyH_take (i := 10) (oi := ({ dst := some 15, op := Go.Op.assign (Go.Operand.tmp 90), type := 4, pos := "law.go:109", after := #[{ on := 9, ground := Go.Ground.data }, { on := 8, ground := Go.Ground.chain }, { on := 0, ground := Go.Ground.phase }, { on := 1, ground := Go.Ground.phase }, { on := 2, ground := Go.Ground.phase }, { on := 3, ground := Go.Ground.phase }, { on := 4, ground := Go.Ground.phase }, { on := 5, ground := Go.Ground.phase }, { on := 6, ground := Go.Ground.phase }, { on := 7, ground := Go.Ground.phase }, { on := 8, ground := Go.Ground.phase }, { on := 9, ground := Go.Ground.phase }], guard := none } : Oper)) (v := ?_) rfl (by kernel_rfl) (by kernel_rfl) (by kernel_rfl) (fun _ _ _ h => h) (Or.inl ⟨by rfl, ?_⟩) (by assumption) ?_
          rotate_left
          focus (intro w' hSw; (try dsimp only at hSw); go_split_ands; go_simp; try with_reducible rfl)
          (try simp only [Act.put, List.setIfInBounds_toArray, List.set_cons_zero, List.set_cons_succ])
          refine wpAnyH_done (by kernel_rfl) ?_ _
          go_wp2_with fail
          go_roundw
          case rel => exact ⟨k + 1, sm, by omega, by go_num, rfl, fun h => HJK.out (Or.elim (Nat.lt_or_ge j k) (fun h1 => absurd (hbj h1) (by simp)) (fun h1 => by omega)), kg⟩
          case measure => simp [intOf]; omega
      · obtain rfl : k = D.me.length := by omega
        obtain rfl : b = true := hbj ((List.getElem?_eq_some_iff.1 HJ.out).1)
        clear hbj
        have T4 := HT4.out.call hcr
        have Tc := HTc.out.call hcr
        have B4 := HB4.out.call hcr
        have hn1 : (m.n.toList != a5.toList) = false := by rw [HNM.out.1]; simp
        have hn2 : (m.d.toList != a6.toList) = false := by rw [HNM.out.2]; simp
        have hn3 : (m.n.toList == a5.toList) = true := by rw [HNM.out.1]; simp
        have hn4 : (m.d.toList == a6.toList) = true := by rw [HNM.out.2]; simp
        have z0 := T4.c 0 rfl
        have z1 := T4.c 1 rfl
        have z2 := T4.c 2 rfl
        have z3 := T4.c 3 rfl
        have p2 := Tc.c 2 rfl
        have q0 := B4.c 0 rfl
        have q3 := B4.c 3 rfl
        have q4 := B4.c 4 rfl
        have q5 := B4.c 5 rfl
        have HEND : Hid (Ch w wr) := B4.ch
        clear T4 Tc B4
        rcases HOP.out with ⟨ho, hs, ha⟩ | ⟨ho, hs, ha, hi⟩ | ⟨ho, hs, hi⟩ | ⟨ho, hs, hi⟩
        · subst ho
          rw [hs] at z2
          rw [ha] at z3
          go_wp2_with (first
            | (go_at_call 60; (with_reducible refine (awake8 _).mono ?_); rintro e wq ⟨rfl, cq⟩)
            | fail)
          go_ret
          exact ⟨rfl, HEND.out.trans cq⟩
        · subst ho
          rw [hs] at z2
          rw [ha] at z3
          rcases hi with hi | hi
          · have h1 : (m.n.toList == [60, 105, 110, 105, 116, 62]) = false := by rw [bl_toList]; exact hi
            have h2 : (m.n.toList != [60, 105, 110, 105, 116, 62]) = true := by rw [bne, h1]; rfl
            go_wp2_with (first
              | (go_at_call 60; (with_reducible refine (awake8 _).mono ?_); rintro e wq ⟨rfl, cq⟩)
              | fail)
            go_ret
            exact ⟨rfl, HEND.out.trans cq⟩
          · have h3 : (o.toList == a4.toList) = true := by rw [toList_nq]; exact hi
            obtain ⟨r, hr⟩ : ∃ r, (m.n.toList == [60, 105, 110, 105, 116, 62]) = r := ⟨_, rfl⟩
            have h2 : (m.n.toList != [60, 105, 110, 105, 116, 62]) = !r := by rw [bne, hr]
            cases r
            · rw [Bool.not_false] at h2
              go_wp2_with (first
                | (go_at_call 60; (with_reducible refine (awake8 _).mono ?_); rintro e wq ⟨rfl, cq⟩)
                | fail)
              go_ret
              exact ⟨rfl, HEND.out.trans cq⟩
            · rw [Bool.not_true] at h2
              go_wp2_with (first
                | (go_at_call 60; (with_reducible refine (awake8 _).mono ?_); rintro e wq ⟨rfl, cq⟩)
                | fail)
              go_ret
              exact ⟨rfl, HEND.out.trans cq⟩
        · subst ho
          rw [hs] at z2
          rw [hi] at p2
          go_wp2_with (first
            | (go_at_call 60; (with_reducible refine (awake8 _).mono ?_); rintro e wq ⟨rfl, cq⟩)
            | fail)
          go_ret
          exact ⟨rfl, HEND.out.trans cq⟩
        · subst ho
          rw [hs] at z2
          rw [hi] at p2
          go_wp2_with (first
            | (go_at_call 60; (with_reducible refine (awake8 _).mono ?_); rintro e wq ⟨rfl, cq⟩)
            | fail)
          go_ret
          exact ⟨rfl, HEND.out.trans cq⟩
end Go.Proofs.YthmepecmeambmaaGreat
namespace Go.Proofs.YthmepecmeambmaaGreat
open Go.RowKit
set_option linter.unusedVariables false

theorem calls_main (l : List Cls) (x : Ins) (v : Value) (w : World) (h : Sl 7 RC w v l) : Calls Tryz.prog 19 #[v, x.v] w fun e w' => e = .returned (.bool true) ∧ Ch w w' := calls_walk refSame_any l x v w h
end Go.Proofs.YthmepecmeambmaaGreat
