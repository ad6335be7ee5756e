/- Methods that may be; whether two are the same; what a call has found. -/
/- What an object's class does: of a program that goes together. -/
/- ResolveNear: a row of classes, some with a field and a method: they go together. -/
/- LinkRings: rings of classes and of interfaces, by evaluation; the law's own function for a name. -/
/- ResolveNear: what is found in such a row; Field of a program; a bool's row. -/
import Derived.Test.YthmepecmeambmaaGreatKLoB
import Derived.Test.YthmepecmeambmaaGreatKLuA
namespace Go.Proofs.YthmepecmeambmaaGreat
open Go.RowKit
set_option linter.unusedVariables false

theorem firstF_all {α : Type} (f : α → Int) : ∀ l : List α, firstF f l = 0 → ∀ x ∈ l, f x = 0
  | [], _, x, hx => by cases hx
  | y :: r, h, x, hx => by
    rw [firstF] at h
    by_cases h0 : f y = 0
    · rw [if_pos h0] at h
      rcases List.mem_cons.1 hx with rfl | hx
      · exact h0
      · exact firstF_all f r h x hx
    · rw [if_neg h0] at h
      exact absurd h h0
theorem orL_all : ∀ l : List Int, orL l = 0 → ∀ x ∈ l, x = 0
  | [], _, x, hx => by cases hx
  | y :: r, h, x, hx => by
    rw [orL] at h
    by_cases h0 : y = 0
    · rw [if_pos h0] at h
      rcases List.mem_cons.1 hx with rfl | hx
      · exact h0
      · exact orL_all r h x hx
    · rw [if_neg h0] at h
      exact absurd h h0
theorem mthE_ok {m : Mth} (h : mthE m = 0) : (m.ab = true → m.st = false) ∧ (m.n = nClinit → m.st = true) := by
  unfold mthE at h
  cases hp : meth (bl m.d) with
  | none => rw [hp] at h; cases h
  | some p =>
    rw [hp] at h
    dsimp only at h
    by_cases h1 : (!mayN m (ms p.2)) = true
    · rw [if_pos h1] at h; cases h
    rw [if_neg h1] at h
    by_cases h2 : (!witM m) = true
    · rw [if_pos h2] at h; cases h
    rw [if_neg h2] at h
    by_cases h3 : (m.ab && !barM m) = true
    · rw [if_pos h3] at h; cases h
    constructor
    · intro ha
      rw [ha] at h3
      unfold barM at h3
      cases hs : m.st with
      | false => rfl
      | true => rw [hs] at h3; simp at h3
    · intro hn
      unfold mayN at h1
      have e : (m.n.toList == [60, 99, 108, 105, 110, 105, 116, 62]) = true := by rw [hn, bl_toList]; rfl
      rw [if_pos e] at h1
      cases hs : m.st with
      | true => rfl
      | false => rw [hs] at h1; simp at h1
/-- What holds of a program's methods. -/
def Mk (P : List Cls) : Prop := ∀ c ∈ P, ∀ m ∈ c.me, (m.ab = true → m.st = false) ∧ (m.n = nClinit → m.st = true)
theorem mk_of {l : List Cls} (h : link l = (some (prog l), 0, nNone)) : Mk (prog l) := fun c hc m hm => by
  rcases List.mem_append.1 ((prog_perm l).mem_iff.1 hc) with hg | hl
  · have h2 : (given.all fun c => c.me.all fun m => (!m.ab || !m.st) && (!nq m.n nClinit || m.st)) = true := by decide +kernel
    have h3 := List.all_eq_true.1 (List.all_eq_true.1 h2 c hg) m hm
    rw [Bool.and_eq_true] at h3
    refine ⟨fun ha => ?_, fun hn => ?_⟩
    · rw [ha] at h3; simpa using h3.1
    · rw [nq_iff.2 hn] at h3; simpa using h3.2
  · refine mthE_ok ?_
    have hk : chkE c = 0 := by
      unfold link at h
      by_cases h1 : 30 < l.length
      · rw [if_pos h1] at h; cases h
      · rw [if_neg h1] at h
        cases h2 : (l.find? fun c => chkE c != 0) with
        | some d => rw [h2] at h; cases h
        | none =>
          rw [List.find?_eq_none] at h2
          simpa using h2 c hl
    unfold chkE at hk
    exact firstF_all _ _ (orL_all _ hk _ (by simp)) m hm
theorem fst1_some {F : ByteArray → Option Mth} {m : Mth} {o : ByteArray} : ∀ {l : List ByteArray}, fst1 F l = (o, some m) → o ∈ l ∧ F o = some m
  | [], h => by cases h
  | x :: r, h => by
    rw [fst1] at h
    cases hx : F x with
    | some m' => rw [hx] at h; cases h; exact ⟨by simp, hx⟩
    | none =>
      rw [hx] at h
      obtain ⟨h1, h2⟩ := fst1_some (l := r) h
      exact ⟨List.mem_cons_of_mem _ h1, h2⟩
theorem mth_is {P : List Cls} {c n d : ByteArray} {m : Mth} (h : mth P c n d = some m) : ∃ x, lk P c = some x ∧ m ∈ x.me ∧ m.n = n ∧ m.d = d := by
  unfold mth meOf at h
  cases hl : lk P c with
  | none => rw [hl] at h; cases h
  | some x =>
    rw [hl] at h
    dsimp only at h
    have h1 := List.find?_some h
    unfold mIs at h1
    rw [Bool.and_eq_true] at h1
    exact ⟨x, rfl, List.mem_of_find?_eq_some h, nq_iff.1 h1.1, nq_iff.1 h1.2⟩
theorem abv_no {P : List Cls} {c : ByteArray} (h : lk P c = none) : abv P c = [] := by
  have h1 : (walkN P c).1 = [] := by unfold walkN; rw [wk_no h]
  have h2 : ifs P c = [] := by unfold ifs; rw [h1]; rfl
  have h3 : isIf P c = false := by unfold isIf; rw [h]
  unfold abv ifcE
  rw [h1, h2, h3]
  have h4 : srtS ([] ++ if false = true then [c] else []) = [] := List.length_eq_zero_iff.1 (by rw [srtS_len]; simp)
  rw [h4]
  rfl
/-- What a call that has found something says. -/
theorem call_is {P : List Cls} (g : Gd P) (k : Mk P) {x : Ins} {o : ByteArray} {m : Mth} (h : resQ P x = (o, some m)) :
    ∃ (C D : Cls) (j : Nat), clsOf P x.c = (C, true) ∧ clsOf P o = (D, true) ∧ D.me[j]? = some m ∧ m.n = x.n ∧ m.d = x.d ∧
      ((x.op = 32 ∧ m.st = true ∧ m.ab = false) ∨ (x.op = 33 ∧ m.st = false ∧ m.ab = false ∧ (nq m.n nInit = false ∨ nq o x.c = true)) ∨ (x.op = 34 ∧ m.st = false ∧ C.it = false) ∨ (x.op = 35 ∧ m.st = false ∧ C.it = true)) := by
  unfold resQ at h
  cases hf : fst1 (mthF P x.n x.d) (abv P x.c) with
  | mk o' om =>
    rw [hf] at h
    cases om with
    | none => cases h
    | some m' =>
      dsimp only at h
      by_cases ht : tkB (isIc P x.c) x.op x.c o' m' = true
      · rw [if_pos ht] at h
        cases h
        obtain ⟨h1, h2⟩ := fst1_some hf
        obtain ⟨D, hD, hm, hn, hd⟩ := mth_is h2
        obtain ⟨j, hj⟩ := List.getElem?_of_mem hm
        obtain ⟨C, hC⟩ : ∃ C, lk P x.c = some C := by
          cases hl : lk P x.c with
          | none => rw [abv_no hl] at h1; cases h1
          | some C => exact ⟨C, rfl⟩
        have hi : isIc P x.c = C.it := by rw [isI_if g]; unfold isIf; rw [hC]
        rw [hi] at ht
        refine ⟨C, D, j, by unfold clsOf; rw [hC], by unfold clsOf; rw [hD], hj, hn, hd, ?_⟩
        unfold tkB at ht
        by_cases h32 : x.op = 32
        · rw [if_pos h32] at ht
          refine Or.inl ⟨h32, ht, ?_⟩
          cases ha : m.ab with
          | false => rfl
          | true => rw [(k D (lk_some hD).1 m hm).1 ha] at ht; cases ht
        rw [if_neg h32] at ht
        by_cases h33 : x.op = 33
        · rw [if_pos h33] at ht
          simp only [Bool.and_eq_true, Bool.or_eq_true, Bool.not_eq_true'] at ht
          exact Or.inr (Or.inl ⟨h33, ht.1, ht.2.1, ht.2.2⟩)
        rw [if_neg h33] at ht
        by_cases h34 : x.op = 34
        · rw [if_pos h34] at ht
          simp only [Bool.and_eq_true, Bool.not_eq_true'] at ht
          exact Or.inr (Or.inr (Or.inl ⟨h34, ht.1, ht.2⟩))
        rw [if_neg h34] at ht
        by_cases h35 : x.op = 35
        · rw [if_pos h35] at ht
          simp only [Bool.and_eq_true, Bool.not_eq_true'] at ht
          exact Or.inr (Or.inr (Or.inr ⟨h35, ht.1, ht.2⟩))
        rw [if_neg h35] at ht
        cases ht
      · rw [if_neg ht] at h
        cases h
theorem call_no {P : List Cls} {x : Ins} {o : ByteArray} (h : resQ P x = (o, none)) : o = ⟨#[]⟩ := by
  unfold resQ at h
  split at h
  · split at h
    · cases h
    · cases h; rfl
  · cases h; rfl

/-- A class of that one method. -/
def oneC (m : Mth) : Cls := ⟨⟨#[]⟩, ⟨#[]⟩, false, false, [], [], [m]⟩
set_option maxHeartbeats 8000000 in
set_option maxRecDepth 100000 in
theorem sameM_any (HSMA : ∀ (a b : Cls) (vi vf vm ui uf um : Value) (w : World) (ha : ClsAt w a vi vf vm) (hb : ClsAt w b ui uf um), Calls Tryz.prog 32 #[.agg #[.string a.n, .string a.s, .bool a.it, .bool a.ab, vi, vf, vm], .agg #[.string b.n, .string b.s, .bool b.it, .bool b.ab, ui, uf, um]] w fun e w' => e = .returned (.bool (eqC a b)) ∧ Ch w w')
    (a b : Mth) (a1 a2 a3 a4 : Option Addr) (c1 c2 c3 c4 : Nat) (w : World) (s1 : Sl 6 RI w (.slice a1 a.code.length c1) a.code) (s2 : Sl 4 RH w (.slice a2 a.hs.length c2) a.hs) (s3 : Sl 6 RI w (.slice a3 b.code.length c3) b.code) (s4 : Sl 4 RH w (.slice a4 b.hs.length c4) b.hs) :
    Calls Tryz.prog 66 #[.agg #[.string a.n, .string a.d, .bool a.st, .bool a.ab, .int .i64 a.sk, .int .i64 a.lo, .slice a1 a.code.length c1, .slice a2 a.hs.length c2], .agg #[.string b.n, .string b.d, .bool b.st, .bool b.ab, .int .i64 b.sk, .int .i64 b.lo, .slice a3 b.code.length c3, .slice a4 b.hs.length c4]] w fun e w' => e = .returned (.bool (eqC (oneC a) (oneC b))) ∧ Ch w w' := by
  have HS : Hid (∀ w', Ch w w' → Sl 6 RI w' (.slice a1 a.code.length c1) a.code ∧ Sl 4 RH w' (.slice a2 a.hs.length c2) a.hs ∧ Sl 6 RI w' (.slice a3 b.code.length c3) b.code ∧ Sl 4 RH w' (.slice a4 b.hs.length c4) b.hs) := fun w' k => ⟨s1.keepI k, s2.keepH k, s3.keepI k, s4.keepH k⟩
  have HM : Hid (∀ w vm um, Sl 8 RM w vm [a] → Sl 8 RM w um [b] → Calls Tryz.prog 32 #[.agg #[.string ⟨#[]⟩, .string ⟨#[]⟩, .bool false, .bool false, .slice none 0 0, .slice none 0 0, vm], .agg #[.string ⟨#[]⟩, .string ⟨#[]⟩, .bool false, .bool false, .slice none 0 0, .slice none 0 0, um]] w fun e w' => e = .returned (.bool (eqC (oneC a) (oneC b))) ∧ Ch w w') := fun w vm um h1 h2 => HSMA (oneC a) (oneC b) _ _ _ _ _ _ w ⟨nilR _ _ _, nilR _ _ _, h1⟩ ⟨nilR _ _ _, nilR _ _ _, h2⟩
  clear HSMA s1 s2 s3 s4
  generalize eqC (oneC a) (oneC b) = r at *
  have B1 := Bo.new (Ch.refl w) #[.string a.n, .string a.d, .bool a.st, .bool a.ab, .int .i64 a.sk, .int .i64 a.lo, .slice a1 a.code.length c1, .slice a2 a.hs.length c2] 66
  have B2 := Bo.new B1.ch #[.string b.n, .string b.d, .bool b.st, .bool b.ab, .int .i64 b.sk, .int .i64 b.lo, .slice a3 b.code.length c3, .slice a4 b.hs.length c4] 66
  have B1 := B1.call ((Ch.refl _).alloc (.cells #[.string b.n, .string b.d, .bool b.st, .bool b.ab, .int .i64 b.sk, .int .i64 b.lo, .slice a3 b.code.length c3, .slice a4 b.hs.length c4] 66))
  have e1 : (w.alloc (.cells #[.string a.n, .string a.d, .bool a.st, .bool a.ab, .int .i64 a.sk, .int .i64 a.lo, .slice a1 a.code.length c1, .slice a2 a.hs.length c2] 66)).heap.size = w.heap.size + 1 := by simp
  rw [e1] at B2
  clear e1
  have p0 := B1.c 0 rfl
  have q0 := B2.c 0 rfl
  have p1 := B1.c 1 rfl
  have q1 := B2.c 1 rfl
  have p2 := B1.c 2 rfl
  have q2 := B2.c 2 rfl
  have p3 := B1.c 3 rfl
  have q3 := B2.c 3 rfl
  have p4 := B1.c 4 rfl
  have q4 := B2.c 4 rfl
  have p5 := B1.c 5 rfl
  have q5 := B2.c 5 rfl
  have p6 := B1.c 6 rfl
  have q6 := B2.c 6 rfl
  have p7 := B1.c 7 rfl
  have q7 := B2.c 7 rfl
  have q0' := cell_keep ((Ch.refl _).alloc (.cells #[.string a.n, .string a.d, .bool a.st, .bool a.ab, .int .i64 a.sk, .int .i64 a.lo, .slice a1 a.code.length c1, .slice a2 a.hs.length c2] 66)) q0
  have q1' := cell_keep ((Ch.refl _).alloc (.cells #[.string a.n, .string a.d, .bool a.st, .bool a.ab, .int .i64 a.sk, .int .i64 a.lo, .slice a1 a.code.length c1, .slice a2 a.hs.length c2] 66)) q1
  have q2' := cell_keep ((Ch.refl _).alloc (.cells #[.string a.n, .string a.d, .bool a.st, .bool a.ab, .int .i64 a.sk, .int .i64 a.lo, .slice a1 a.code.length c1, .slice a2 a.hs.length c2] 66)) q2
  have q3' := cell_keep ((Ch.refl _).alloc (.cells #[.string a.n, .string a.d, .bool a.st, .bool a.ab, .int .i64 a.sk, .int .i64 a.lo, .slice a1 a.code.length c1, .slice a2 a.hs.length c2] 66)) q3
  have q4' := cell_keep ((Ch.refl _).alloc (.cells #[.string a.n, .string a.d, .bool a.st, .bool a.ab, .int .i64 a.sk, .int .i64 a.lo, .slice a1 a.code.length c1, .slice a2 a.hs.length c2] 66)) q4
  have q5' := cell_keep ((Ch.refl _).alloc (.cells #[.string a.n, .string a.d, .bool a.st, .bool a.ab, .int .i64 a.sk, .int .i64 a.lo, .slice a1 a.code.length c1, .slice a2 a.hs.length c2] 66)) q5
  have q6' := cell_keep ((Ch.refl _).alloc (.cells #[.string a.n, .string a.d, .bool a.st, .bool a.ab, .int .i64 a.sk, .int .i64 a.lo, .slice a1 a.code.length c1, .slice a2 a.hs.length c2] 66)) q6
  have q7' := cell_keep ((Ch.refl _).alloc (.cells #[.string a.n, .string a.d, .bool a.st, .bool a.ab, .int .i64 a.sk, .int .i64 a.lo, .slice a1 a.code.length c1, .slice a2 a.hs.length c2] 66)) q7
  go_enter Tryz.func66, Tryz.ntmps66
  go_wp2_with (first
    | (go_at_call 32; refine (HM.out _ _ _ (one_sl (by repeat (first | (refine alloc_at _ _ _ ?_; simp; done) | refine al_keep ?_)) ⟨_, _, rfl, (HS.out _ (by repeat (first | exact Ch.refl _ | refine Ch.drew ?_ | refine Ch.alloc ?_ _ | refine Ch.trans ?_ (by assumption)))).1, (HS.out _ (by repeat (first | exact Ch.refl _ | refine Ch.drew ?_ | refine Ch.alloc ?_ _ | refine Ch.trans ?_ (by assumption)))).2.1⟩) (one_sl (by repeat (first | (refine alloc_at _ _ _ ?_; simp; done) | refine al_keep ?_)) ⟨_, _, rfl, (HS.out _ (by repeat (first | exact Ch.refl _ | refine Ch.drew ?_ | refine Ch.alloc ?_ _ | refine Ch.trans ?_ (by assumption)))).2.2.1, (HS.out _ (by repeat (first | exact Ch.refl _ | refine Ch.drew ?_ | refine Ch.alloc ?_ _ | refine Ch.trans ?_ (by assumption)))).2.2.2⟩)).mono ?_; rintro e w2 ⟨rfl, c2⟩)
    | fail)
  go_ret
  exact ⟨rfl, Ch.trans (by repeat (first | exact Ch.refl _ | refine Ch.drew ?_ | refine Ch.alloc ?_ _ | refine Ch.trans ?_ (by assumption))) c2⟩
end Go.Proofs.YthmepecmeambmaaGreat
namespace Go.Proofs.YthmepecmeambmaaGreat
open Go.RowKit
set_option linter.unusedVariables false

theorem tw_pair : ∀ (l p : List (ByteArray × ByteArray)), tw nd2 p l = false → (∀ x ∈ l, x ∉ p) ∧ l.Nodup
  | [], p, _ => ⟨(fun x hx => by cases hx), List.nodup_nil⟩
  | x :: r, p, h => by
    rw [tw, Bool.or_eq_false_iff] at h
    obtain ⟨h1, h2⟩ := tw_pair r (p ++ [x]) h.2
    have hx : x ∉ p := fun hm => by
      have := List.any_eq_false.1 h.1 x hm
      exact this (nd2_iff.2 rfl)
    refine ⟨fun y hy => ?_, List.nodup_cons.2 ⟨fun hm => h1 x hm (by simp), h2⟩⟩
    rcases List.mem_cons.1 hy with rfl | hy
    · exact hx
    · exact fun hm => h1 y hy (List.mem_append_left _ hm)
/-- Of a class's methods no two have one name and type. -/
theorem me_one {P : List Cls} (g : Gd P) {c : Cls} (hc : c ∈ P) : (c.me.map fun m => (m.n, m.d)).Nodup := by
  rcases g.each c hc with hg | hk
  · have h2 : (given.all fun c => !tw nd2 [] (c.me.map fun m => (m.n, m.d))) = true := by decide +kernel
    have := List.all_eq_true.1 h2 c hg
    exact (tw_pair _ [] (by simpa using this)).2
  · have h4 : k4 c = true := hk 4 (by omega)
    unfold k4 at h4
    rw [Bool.and_eq_true] at h4
    exact (tw_pair _ [] (by simpa using h4.2)).2
theorem find_one : ∀ (l : List Mth), (l.map fun m => (m.n, m.d)).Nodup → ∀ m ∈ l, l.find? (mIs m.n m.d) = some m
  | [], _, m, hm => by cases hm
  | y :: r, h, m, hm => by
    rw [List.map_cons, List.nodup_cons] at h
    rw [List.find?_cons]
    rcases List.mem_cons.1 hm with rfl | hm
    · have e : mIs m.n m.d m = true := by unfold mIs; rw [nq_self, nq_self]; rfl
      rw [e]
    · cases e : mIs m.n m.d y with
      | false => exact find_one r h.2 m hm
      | true =>
        exfalso
        unfold mIs at e
        rw [Bool.and_eq_true] at e
        refine h.1 (List.mem_map.2 ⟨m, hm, ?_⟩)
        rw [nq_iff.1 e.1, nq_iff.1 e.2]
theorem mth_of {P : List Cls} (g : Gd P) {n : ByteArray} {c : Cls} (hc : lk P n = some c) {m : Mth} (hm : m ∈ c.me) : mth P n m.n m.d = some m := by
  unfold mth meOf
  rw [hc]
  exact find_one _ (me_one g (lk_some hc).1) m hm
theorem fst1_is {F : ByteArray → Option Mth} : ∀ {l : List ByteArray} {y : ByteArray} {m : Mth}, y ∈ l → F y = some m → (fst1 F l).2.isSome = true
  | [], y, m, h, _ => by cases h
  | x :: r, y, m, h, hF => by
    rw [fst1]
    cases hx : F x with
    | some m' => rfl
    | none =>
      rcases List.mem_cons.1 h with rfl | h
      · rw [hx] at hF; cases hF
      · exact fst1_is h hF
theorem dsp_of {P : List Cls} (g : Gd P) {n : ByteArray} {c : Cls} (hc : lk P n = some c) {m : Mth} (hm : m ∈ c.me) (h1 : m.st = false) (h2 : m.ab = false) : dspF P m.n m.d n = some m := by
  unfold dspF
  rw [mth_of g hc hm, Option.filter_some]
  unfold dsp
  rw [h1, h2]
  rfl
/-- What is found is such. -/
theorem dsp_is {P : List Cls} {n d : ByteArray} {l : List ByteArray} {o : ByteArray} {m : Mth} (h : fst1 (dspF P n d) l = (o, some m)) : o ∈ l ∧ m.st = false ∧ m.ab = false ∧ m.n = n ∧ m.d = d := by
  obtain ⟨h1, h2⟩ := fst1_some h
  unfold dspF at h2
  cases hm : mth P o n d with
  | none => rw [hm] at h2; cases h2
  | some m' =>
    rw [hm, Option.filter_some] at h2
    by_cases hd : dsp m' = true
    · rw [if_pos hd] at h2
      cases h2
      unfold dsp at hd
      rw [Bool.and_eq_true] at hd
      obtain ⟨_, _, _, h3, h4⟩ := mth_is hm
      exact ⟨h1, by simpa using hd.1, by simpa using hd.2, h3, h4⟩
    · rw [if_neg hd] at h2
      cases h2
theorem given_pth {P : List Cls} (g : Gd P) {b : ByteArray} : ∀ (r : List ByteArray) (c : Cls), c ∈ given → pth (lk P) c.n r b → ∀ y ∈ r, ∃ d ∈ given, d.n = y ∧ lk P y = some d
  | [], c, hc, _, y, hy => by cases hy
  | x :: r, c, hc, ⟨e, d, h1, h2⟩, y, hy => by
    rw [g.giv c hc] at h1
    cases h1
    subst e
    rcases List.mem_cons.1 hy with rfl | hy
    · exact ⟨c, hc, rfl, g.giv c hc⟩
    rcases given_up hc with ⟨h, _⟩ | ⟨d, hd, h3, _⟩
    · rw [h] at h2
      cases r with
      | nil => cases hy
      | cons z r =>
        obtain ⟨_, d, h5, _⟩ := h2
        rw [g.emp] at h5
        cases h5
    · rw [← h3] at h2
      exact given_pth g r d hd h2 y hy
theorem given_sup {P : List Cls} (g : Gd P) {b : ByteArray} : ∀ (r : List ByteArray) (c : Cls), c ∈ given → pth (lk P) c.n r b → ∀ y ∈ r, y = c.n ∨ ∃ d ∈ given, d.s = y
  | [], c, hc, _, y, hy => by cases hy
  | x :: r, c, hc, ⟨e, d, h1, h2⟩, y, hy => by
    rw [g.giv c hc] at h1
    cases h1
    subst e
    rcases List.mem_cons.1 hy with rfl | hy
    · exact Or.inl rfl
    rcases given_up hc with ⟨h, _⟩ | ⟨d, hd, h3, _⟩
    · rw [h] at h2
      cases r with
      | nil => cases hy
      | cons z r =>
        obtain ⟨_, d, h5, _⟩ := h2
        rw [g.emp] at h5
        cases h5
    · rw [← h3] at h2
      rcases given_sup g r d hd h2 y hy with h | h
      · exact Or.inr ⟨c, hc, by rw [h, h3]⟩
      · exact Or.inr h
theorem given_ifs {P : List Cls} (g : Gd P) {c : Cls} (hc : c ∈ given) : ifs P c.n = [] := by
  obtain ⟨e, _, h2, _, _⟩ := walk_none g c.n
  have hw := given_pth g _ c hc h2
  unfold ifs
  generalize (walkN P c.n).1 = W at *
  have h3 : ∀ (W : List ByteArray), (∀ y ∈ W, ∃ d ∈ given, d.n = y ∧ lk P y = some d) → addW (lk P) [] W = [] := fun W hW => by
    induction W with
    | nil => rfl
    | cons y r ih =>
      obtain ⟨d, hd, _, hl⟩ := hW y (by simp)
      have h4 : imOf (lk P) y = [] := by unfold imOf; rw [hl]; exact given_im d hd
      rw [addW, h4]
      exact ih fun z hz => hW z (List.mem_cons_of_mem _ hz)
  rw [h3 W hw]
  rfl
/-- Of a concrete class nothing that is not static is left. -/
theorem dsp_all {P : List Cls} (g : Gd P) (k : Mk P) {x : Cls} (hx : x ∈ P) (hc : conc P x.n = true) {y : ByteArray} (hy : y ∈ (walkN P x.n).1 ++ ifcE P x.n) {c : Cls} (hl : lk P y = some c) {m : Mth} (hm : m ∈ c.me) (hs : m.st = false) :
    (fst1 (dspF P m.n m.d) (walkN P x.n).1).2.isSome = true := by
  have hxl := lk_of g.nd hx
  unfold conc at hc
  rw [hxl] at hc
  dsimp only at hc
  rw [Bool.and_eq_true] at hc
  have hit : x.it = false := by simpa using hc.1
  have hab : x.ab = false := by simpa using hc.2
  have hy2 : y ∈ (walkN P x.n).1 ∨ y ∈ ifs P x.n := by
    rcases List.mem_append.1 hy with h | h
    · exact Or.inl h
    · rcases ifc_mem.1 h with h | ⟨h1, h2⟩
      · exact Or.inr h
      · unfold isIf at h2
        rw [hxl] at h2
        dsimp only at h2
        rw [hit] at h2
        cases h2
  cases ha : m.ab with
  | false =>
    rcases hy2 with h | h
    · exact fst1_is h (dsp_of g hl hm hs ha)
    · exfalso
      have h1 := ifs_if g x.n y h
      unfold isIf at h1
      rw [hl] at h1
      have h1 : c.it = true := h1
      have hcP := (lk_some hl).1
      have hn : m.n = nClinit := by
        rcases g.each c hcP with hg | hk
        · have h2 : (given.all fun c => !c.it || c.me.all (·.ab)) = true := by decide +kernel
          have h3 := List.all_eq_true.1 h2 c hg
          rw [h1] at h3
          have h4 := List.all_eq_true.1 (by simpa using h3 : c.me.all (·.ab) = true) m hm
          rw [ha] at h4
          cases h4
        · have h5 : k5 c = true := hk 5 (by omega)
          unfold k5 at h5
          rw [h1] at h5
          have h6 : (c.me.any fun m => !m.ab && !nq m.n nClinit) = false := by
            simp only [Bool.not_true, Bool.false_or, Bool.and_eq_true, Bool.not_eq_true'] at h5
            exact h5.2.2
          have h7 := List.any_eq_false.1 h6 m hm
          rw [ha] at h7
          have h8 : nq m.n nClinit = true := by simpa using h7
          exact nq_iff.1 h8
      rw [(k c hcP m hm).2 hn] at hs
      cases hs
  | true =>
    rcases g.each x hx with hg | hk
    · exfalso
      have hgc : c ∈ given := by
        rcases hy2 with h | h
        · obtain ⟨e, _, h2, _, _⟩ := walk_none g x.n
          obtain ⟨d, hd, _, h4⟩ := given_pth g _ x hg h2 y h
          rw [hl] at h4
          cases h4
          exact hd
        · rw [given_ifs g hg] at h
          cases h
      have h2 : (given.all fun c => c.it || c.me.all fun m => !m.ab) = true := by decide +kernel
      have h3 := List.all_eq_true.1 h2 c hgc
      rw [Bool.or_eq_true] at h3
      rcases h3 with h3 | h3
      · rcases hy2 with h | h
        · obtain ⟨e, _, h5, _, _⟩ := walk_none g x.n
          have hcn := (lk_some hl).2
          rcases given_sup g _ x hg h5 y h with h6 | ⟨d, hd, h6⟩
          · rw [h6, hxl] at hl
            cases hl
            rw [hit] at h3
            cases h3
          · have h7 : (given.all fun d => given.all fun c => !nq c.n d.s || !c.it) = true := by decide +kernel
            have h8 := List.all_eq_true.1 (List.all_eq_true.1 h7 d hd) c hgc
            rw [nq_iff.2 (hcn.trans h6.symm), h3] at h8
            cases h8
        · rw [given_ifs g hg] at h
          cases h
      · have h4 := List.all_eq_true.1 h3 m hm
        rw [ha] at h4
        cases h4
    · have h7 : k7 P x = true := hk 7 (by omega)
      rw [k7_eq, hab] at h7
      have h8 := List.all_eq_true.1 (by simpa using h7 : ((walkN P x.n).1 ++ ifs P x.n).all (ansN P (walkN P x.n).1) = true) y (List.mem_append.2 hy2)
      unfold ansN meOf at h8
      rw [hl] at h8
      have h9 := List.all_eq_true.1 h8 m hm
      unfold ansA at h9
      rw [ha] at h9
      have h10 : answ (lk P) (walkN P x.n).1 m = true := by simpa using h9
      unfold answ at h10
      obtain ⟨n', hn', h11⟩ := List.any_eq_true.1 h10
      obtain ⟨o, ho, h12⟩ := List.any_eq_true.1 h11
      unfold meOf at ho
      cases hl' : lk P n' with
      | none => rw [hl'] at ho; cases ho
      | some c' =>
        rw [hl'] at ho
        simp only [Bool.and_eq_true, Bool.not_eq_true'] at h12
        have hF := dsp_of g hl' ho h12.2.2.1 h12.2.2.2
        rw [nq_iff.1 h12.1, nq_iff.1 h12.2.1] at hF
        exact fst1_is hn' hF
end Go.Proofs.YthmepecmeambmaaGreat
namespace Go.Proofs.YthmepecmeambmaaGreat
open Go.RowKit
set_option linter.unusedVariables false

abbrev nF : ByteArray := ⟨#[102]⟩
abbrev nI : ByteArray := ⟨#[73]⟩
abbrev nM : ByteArray := ⟨#[109]⟩
abbrev nearF (st : Bool) : Fld := ⟨nF, nI, st⟩
abbrev nearM (st : Bool) : Mth := ⟨nM, wV, st, false, 0, 1, [wIns], []⟩
def supK : Nat → ByteArray
  | 0 => nObject
  | i + 1 => nameK i
/-- The class of number i, with or without. -/
def nearB (st b : Bool) (i : Nat) : Cls := ⟨nameK i, supK i, false, false, [], if b then [nearF st] else [], if b then [nearM st] else []⟩
def near (st : Bool) (h : Nat → Bool) (n : Nat) : List Cls := (List.range n).map fun i => nearB st (h i) i
theorem near_mem {st : Bool} {h : Nat → Bool} {n : Nat} {c : Cls} (hc : c ∈ near st h n) : ∃ i, i < n ∧ c = nearB st (h i) i := by
  obtain ⟨i, hi, rfl⟩ := List.mem_map.1 hc
  exact ⟨i, List.mem_range.1 hi, rfl⟩
theorem near_in {st : Bool} {h : Nat → Bool} {n i : Nat} (hi : i < n) : nearB st (h i) i ∈ near st h n := List.mem_map.2 ⟨i, List.mem_range.2 hi, rfl⟩
theorem near_len (st : Bool) (h : Nat → Bool) (n : Nat) : (near st h n).length = n := by simp [near]
theorem near_succ (st : Bool) (h : Nat → Bool) (n : Nat) : near st h (n + 1) = near st h n ++ [nearB st (h n) n] := by simp [near, List.range_succ]
theorem near_nms (st : Bool) (h : Nat → Bool) (n : Nat) : nms (near st h n) = (List.range n).map nameK := by unfold nms near; rw [List.map_map]; rfl
theorem near_chk {st b : Bool} {i : Nat} (hi : i < 15) : chkE (nearB st b i) = 0 ∧ clsT (nearB st b i) ≤ 12000 := by
  have h : ((List.range 15).all fun i => [true, false].all fun st => [true, false].all fun b => chkE (nearB st b i) == 0 && decide (clsT (nearB st b i) ≤ 12000)) = true := by decide +kernel
  have h1 := List.all_eq_true.1 h i (List.mem_range.2 hi)
  have h2 := List.all_eq_true.1 h1 st (by cases st <;> simp)
  have h3 := List.all_eq_true.1 h2 b (by cases b <;> simp)
  simpa using h3
theorem near_okc {st : Bool} {h : Nat → Bool} {n : Nat} (hn : n ≤ 15) : okCs (near st h n) := fun c hc => by
  obtain ⟨i, hi, rfl⟩ := near_mem hc
  exact (near_chk (by omega)).2
theorem near_all : ((nms given ++ (List.range 15).map nameK).Nodup) := by decide +kernel
theorem near_nd {st : Bool} {h : Nat → Bool} {n : Nat} (hn : n ≤ 15) : (nms (prog (near st h n))).Nodup := by
  refine (nms_perm (prog_perm _)).nodup_iff.2 ?_
  have e : nms (given ++ near st h n) = nms given ++ (List.range n).map nameK := by rw [← near_nms st h n]; unfold nms; rw [List.map_append]
  rw [e]
  refine near_all.sublist ((List.Sublist.refl _).append ?_)
  have e2 : List.range 15 = List.range n ++ (List.range (15 - n)).map (n + ·) := by
    rw [← List.range_add]
    congr 1
    omega
  rw [e2, List.map_append]
  exact List.sublist_append_left _ _
section
variable {st : Bool} {h : Nat → Bool} {n : Nat}
theorem near_lk (hn : n ≤ 15) {i : Nat} (hi : i < n) : lk (prog (near st h n)) (nameK i) = some (nearB st (h i) i) :=
  lk_of (near_nd hn) ((prog_perm _).mem_iff.2 (List.mem_append_right _ (near_in hi)))
theorem near_giv (hn : n ≤ 15) {c : Cls} (hc : c ∈ given) : lk (prog (near st h n)) c.n = some c :=
  lk_of (near_nd hn) ((prog_perm _).mem_iff.2 (List.mem_append_left _ hc))
theorem near_obj (hn : n ≤ 15) : lk (prog (near st h n)) nObject = some (initC nObject nNone) :=
  near_giv hn (c := initC nObject nNone) (by unfold given; simp)
theorem near_emp (hn : n ≤ 15) : lk (prog (near st h n)) nNone = none := by
  refine lk_none.2 fun hm => ?_
  have hm := (nms_perm (prog_perm _)).mem_iff.1 hm
  have e : nms (given ++ near st h n) = nms given ++ (List.range n).map nameK := by rw [← near_nms st h n]; unfold nms; rw [List.map_append]
  rw [e] at hm
  have hall : ((nms given ++ (List.range 15).map nameK).all fun y => !nq y nNone) = true := by decide +kernel
  have hin : nNone ∈ nms given ++ (List.range 15).map nameK := by
    rcases List.mem_append.1 hm with h1 | h1
    · exact List.mem_append_left _ h1
    · obtain ⟨i, hi, h2⟩ := List.mem_map.1 h1
      exact List.mem_append_right _ (List.mem_map.2 ⟨i, List.mem_range.2 (by have := List.mem_range.1 hi; omega), h2⟩)
  have := List.all_eq_true.1 hall _ hin
  rw [nq_self] at this
  cases this
end
/-- The way up from the class of number i. -/
def wayK : Nat → List ByteArray
  | 0 => [nameK 0, nObject]
  | i + 1 => nameK (i + 1) :: wayK i
theorem wayK_nd {i : Nat} (hi : i < 15) : (wayK i).Nodup := by
  have h : ((List.range 15).all fun i => decide ((wayK i).Nodup)) = true := by decide +kernel
  simpa using List.all_eq_true.1 h i (List.mem_range.2 hi)
theorem wayK_mem {i : Nat} : ∀ {y : ByteArray}, y ∈ wayK i → y = nObject ∨ ∃ j, j ≤ i ∧ y = nameK j := by
  induction i with
  | zero =>
    intro y hy
    simp [wayK] at hy
    rcases hy with rfl | rfl
    · exact Or.inr ⟨0, Nat.le_refl _, rfl⟩
    · exact Or.inl rfl
  | succ i ih =>
    intro y hy
    rcases List.mem_cons.1 hy with rfl | hy
    · exact Or.inr ⟨i + 1, Nat.le_refl _, rfl⟩
    · rcases ih hy with h | ⟨j, hj, h⟩
      · exact Or.inl h
      · exact Or.inr ⟨j, by omega, h⟩
theorem wayK_head (i : Nat) : nameK i ∈ wayK i := by cases i <;> simp [wayK]
section
variable {st : Bool} {h : Nat → Bool} {n : Nat}
theorem near_wk (hn : n ≤ 15) : ∀ (i f : Nat) (way : List ByteArray), i < n → (∀ y ∈ wayK i, y ∉ way) → i + 3 ≤ f → wk (lk (prog (near st h n))) f (nameK i) way = (way ++ wayK i, none)
  | 0, f, way, hi, hw, hf => by
    obtain ⟨f, rfl⟩ : ∃ g, f = g + 3 := ⟨f - 3, by omega⟩
    have h1 : hasN way (nameK 0) = false := hasN_no.2 (hw _ (by simp [wayK]))
    rw [wk_on (near_lk hn hi) h1]
    have h2 : hasN (way ++ [nameK 0]) nObject = false := hasN_no.2 fun hm => by
      rcases List.mem_append.1 hm with hm | hm
      · exact hw nObject (by simp [wayK]) hm
      · have e := wayK_nd (i := 0) (by omega)
        have hm : nObject = nameK 0 := by simpa using hm
        rw [wayK, ← hm] at e
        simp at e
    show wk _ (f + 2) nObject _ = _
    rw [wk_on (near_obj hn) h2]
    show wk _ (f + 1) nNone _ = _
    rw [wk_no (near_emp hn)]
    simp [wayK]
  | i + 1, f, way, hi, hw, hf => by
    obtain ⟨f, rfl⟩ : ∃ g, f = g + 1 := ⟨f - 1, by omega⟩
    have h1 : hasN way (nameK (i + 1)) = false := hasN_no.2 (hw _ (wayK_head _))
    rw [wk_on (near_lk hn hi) h1]
    show wk _ f (nameK i) _ = _
    have hnd := wayK_nd (i := i + 1) (by omega)
    rw [wayK, List.nodup_cons] at hnd
    rw [near_wk hn i f _ (by omega) (fun y hy hm => by
      rcases List.mem_append.1 hm with hm | hm
      · exact hw y (List.mem_cons_of_mem _ hy) hm
      · have hm : y = nameK (i + 1) := by simpa using hm
        rw [hm] at hy
        exact hnd.1 hy) (by omega)]
    simp [wayK]
theorem near_plen : (prog (near st h n)).length = n + 12 := by
  rw [(prog_perm _).length_eq, List.length_append, near_len]
  have : given.length = 12 := by decide +kernel
  omega
theorem near_walk (hn : n ≤ 15) {i : Nat} (hi : i < n) : walkN (prog (near st h n)) (nameK i) = (wayK i, none) := by
  unfold walkN
  rw [near_wk hn i _ [] hi (fun y _ hm => by cases hm) (by rw [near_plen]; omega)]
  rfl
theorem near_ifs (hn : n ≤ 15) {i : Nat} (hi : i < n) : ifs (prog (near st h n)) (nameK i) = [] := by
  unfold ifs
  rw [near_walk hn hi]
  have h3 : ∀ (W : List ByteArray), (∀ y ∈ W, y = nObject ∨ ∃ j, j ≤ i ∧ y = nameK j) → addW (lk (prog (near st h n))) [] W = [] := fun W hW => by
    induction W with
    | nil => rfl
    | cons y r ih =>
      have h4 : imOf (lk (prog (near st h n))) y = [] := by
        unfold imOf
        rcases hW y (by simp) with rfl | ⟨j, hj, rfl⟩
        · rw [near_obj hn]; rfl
        · rw [near_lk hn (by omega)]; rfl
      rw [addW, h4]
      exact ih fun z hz => hW z (List.mem_cons_of_mem _ hz)
  rw [h3 _ (fun y hy => wayK_mem hy)]
  rfl
theorem one_of_nd {P : List Cls} (hn : (nms P).Nodup) {c : Cls} (hc : c ∈ P) : k0 P c = true := by
  unfold k0
  have : (P.filter fun d => nq d.n c.n).length = 1 := by
    induction P with
    | nil => cases hc
    | cons d r ih =>
      have hn' : d.n ∉ nms r ∧ (nms r).Nodup := List.nodup_cons.1 hn
      rw [List.filter_cons]
      rcases List.mem_cons.1 hc with rfl | hc
      · rw [if_pos (nq_self _)]
        have : (r.filter fun d => nq d.n c.n) = [] := List.filter_eq_nil_iff.2 fun y hy hq => hn'.1 (by rw [← nq_iff.1 hq]; exact List.mem_map_of_mem hy)
        rw [this]
        rfl
      · have hne : nq d.n c.n = false := nq_no.2 fun e => hn'.1 (by rw [e]; exact List.mem_map_of_mem hc)
        rw [hne]
        exact ih hn'.2 hc
  rw [this]
  rfl
theorem near_me (hn : n ≤ 15) {y : ByteArray} {i : Nat} (hi : i < n) (hy : y ∈ wayK i) : ∀ m ∈ meOf (lk (prog (near st h n))) y, m.ab = false := fun m hm => by
  unfold meOf at hm
  rcases wayK_mem hy with rfl | ⟨j, hj, rfl⟩
  · rw [near_obj hn] at hm
    have hm : m ∈ [initM] := hm
    rw [List.mem_singleton.1 hm]
    rfl
  · rw [near_lk hn (by omega)] at hm
    have hm : m ∈ (if h j then [nearM st] else []) := hm
    cases hj : h j with
    | false => rw [hj] at hm; cases hm
    | true => rw [hj] at hm; rw [List.mem_singleton.1 hm]
theorem near_keeps (hn : n ≤ 15) {i : Nat} (hi : i < n) {r : Nat} (hr : r < 8) : keeps (prog (near st h n)) (nearB st (h i) i) r = true := by
  have hP := (prog_perm (near st h n)).mem_iff.2 (List.mem_append_right given (near_in (st := st) (h := h) hi))
  match r, hr with
  | 0, _ => exact one_of_nd (near_nd hn) hP
  | 1, _ =>
    show k1 _ _ = true
    unfold k1
    rw [if_neg (by simp [nearB])]
    cases i with
    | zero =>
      have e : (nearB st (h 0) 0).s = nObject := rfl
      rw [e, near_obj hn]
      decide +kernel
    | succ i =>
      have e : (nearB st (h (i + 1)) (i + 1)).s = nameK i := rfl
      rw [e, near_lk hn (by omega)]
      have h2 : ((List.range 15).all fun i => !nq (nameK i) nSys) = true := by decide +kernel
      have h3 := List.all_eq_true.1 h2 i (List.mem_range.2 (by omega))
      simpa [nearB] using h3
  | 2, _ => rfl
  | 3, _ =>
    show k3 _ _ = true
    have e : (nearB st (h i) i).n = nameK i := rfl
    rw [k3_eq, e, near_walk hn hi, near_ifs hn hi]
    rfl
  | 4, _ =>
    show k4 _ = true
    unfold k4 nearB
    cases h i <;> rfl
  | 5, _ => rfl
  | 6, _ =>
    show k6 _ = true
    unfold k6 nearB
    cases h i <;> rfl
  | 7, _ =>
    show k7 _ _ = true
    have e : (nearB st (h i) i).n = nameK i := rfl
    have e2 : (nearB st (h i) i).ab = false := rfl
    rw [k7_eq, e, e2, near_walk hn hi, near_ifs hn hi, Bool.false_or, List.append_nil]
    refine List.all_eq_true.2 fun y hy => List.all_eq_true.2 fun m hm => ?_
    unfold ansA
    rw [near_me hn hi hy m hm]
    rfl
theorem near_yes (hn : n ≤ 15) : link (near st h n) = (some (prog (near st h n)), 0, nNone) := by
  refine link_ok ?_
  unfold link
  rw [if_neg (by rw [near_len]; omega)]
  have h1 : ((near st h n).find? fun c => chkE c != 0) = none := List.find?_eq_none.2 fun c hc => by
    obtain ⟨i, hi, rfl⟩ := near_mem hc
    rw [(near_chk (by omega)).1]
    simp
  have h2 : brkR (prog (near st h n)) (near st h n) [0, 1, 2, 3, 4, 5, 6, 7] = none := by
    unfold brkR
    rw [List.findSome?_eq_none_iff]
    intro r hr
    rw [brk_none]
    intro c hc
    obtain ⟨i, hi, rfl⟩ := near_mem hc
    exact near_keeps hn hi (by simp at hr; omega)
  rw [h1, h2]
  rfl
theorem near_gd (hn : n ≤ 15) : Gd (prog (near st h n)) := by
  rcases link_two (near st h n) (near_okc hn) with ⟨e, m, h1, h2⟩ | ⟨_, g⟩
  · rw [near_yes hn] at h1
    cases h1
  · exact g
end
end Go.Proofs.YthmepecmeambmaaGreat
namespace Go.Proofs.YthmepecmeambmaaGreat
open Go.RowKit
set_option linter.unusedVariables false

def ringC : Bool → Nat → Nat → Cls
  | true, m, k => ⟨nameK k, nObject, true, true, [nameK ((k + 1) % m)], [], []⟩
  | false, m, k => ⟨nameK k, nameK ((k + 1) % m), false, false, [], [], []⟩
def ring (f : Bool) (m n : Nat) : List Cls := (List.range n).map (ringC f m)
def lastC (f : Bool) (m : Nat) : Cls := ⟨nameK (m - 1), nObject, f, f, [], [], []⟩
def ringO (f : Bool) (m : Nat) : List Cls := ring f m (m - 1) ++ [lastC f m]
theorem ring_len (f : Bool) (m n : Nat) : (ring f m n).length = n := by simp [ring]
theorem ring_succ (f : Bool) (m n : Nat) : ring f m (n + 1) = ring f m n ++ [ringC f m n] := by simp [ring, List.range_succ]
theorem ringO_len (f : Bool) {m : Nat} (h : 1 ≤ m) : (ringO f m).length = m := by simp [ringO, ring_len]; omega
def ringB (f : Bool) (m : Nat) : Bool :=
  (!(link (ring f m m)).1.isSome && (link (ring f m m)).2.1 == 8 && !(link (ring f m m)).2.2.toList.isEmpty) &&
  ((link (ringO f m)).1.isSome && (prog (ringO f m)).all (fun c => decide (c.im.length ≤ 1) && c.im.all fun s => (ixN (prog (ringO f m)) s).isSome)) &&
  ((ring f m m).all (fun c => decide (clsT c ≤ 12000)) && (ringO f m).all fun c => decide (clsT c ≤ 12000))
def ringL (m : Nat) : Bool := (ifs (prog (ringO true m)) (nameK 0) ++ if isIf (prog (ringO true m)) (nameK 0) then [nameK 0] else []).length == m && (walkN (prog (ringO false m)) (nameK 0)).1.length == m + 1
theorem ring_t : ((List.range 20).all fun m => ringB true (m + 1)) = true := by decide +kernel
theorem ring_f : ((List.range 20).all fun m => ringB false (m + 1)) = true := by decide +kernel
theorem ring_l : ((List.range 20).all fun m => ringL (m + 1)) = true := by decide +kernel
theorem nmK_any (k : Nat) (w : World) (hk : k ≤ 40) : Calls Tryz.prog 43 #[.int .i64 (k : Int)] w fun e w' => e = .returned (.string (nameK k)) ∧ Ch w w' := by
  have HD := decimal_any k w hk
  unfold nameK
  have hss : (strOfNums (decN k)).size ≤ 2 := by
    rw [str_size]; unfold decN; split <;> simp
  obtain ⟨s, hs⟩ : ∃ s, strOfNums (decN k) = s := ⟨_, rfl⟩
  rw [hs] at HD hss ⊢
  clear hs
  go_enter Tryz.func43, Tryz.ntmps43
  go_wp2_with (first
    | (go_at_call 44; (with_reducible refine HD.mono ?_); clear HD; rintro e w3 ⟨rfl, c3⟩)
    | fail)
  go_ret
  exact ⟨rfl, c3⟩
theorem ringB_all (f : Bool) {m : Nat} (h1 : 1 ≤ m) (h : m ≤ 20) : ringB f m = true := by
  obtain ⟨k, rfl⟩ : ∃ k, m = k + 1 := ⟨m - 1, by omega⟩
  cases f
  · exact List.all_eq_true.1 ring_f k (List.mem_range.2 (by omega))
  · exact List.all_eq_true.1 ring_t k (List.mem_range.2 (by omega))
theorem ring_no (f : Bool) {m : Nat} (h1 : 1 ≤ m) (h : m ≤ 20) : ∃ why, link (ring f m m) = (none, 8, why) ∧ why.toList.isEmpty = false := by
  have hb := ringB_all f h1 h
  unfold ringB at hb
  obtain ⟨hb, _⟩ := Bool.and_eq_true_iff.1 hb
  obtain ⟨hb, _⟩ := Bool.and_eq_true_iff.1 hb
  obtain ⟨hb, e3⟩ := Bool.and_eq_true_iff.1 hb
  obtain ⟨e1, e2⟩ := Bool.and_eq_true_iff.1 hb
  refine ⟨(link (ring f m m)).2.2, link_no (by simpa using e1) ?_, by simpa using e3⟩
  have e2 : (link (ring f m m)).2.1 = 8 := by simpa using e2
  exact Prod.ext e2 rfl
theorem ring_yes (f : Bool) {m : Nat} (h1 : 1 ≤ m) (h : m ≤ 20) : link (ringO f m) = (some (prog (ringO f m)), 0, nNone) ∧ imIn (prog (ringO f m)) := by
  have hb := ringB_all f h1 h
  unfold ringB at hb
  obtain ⟨hb, _⟩ := Bool.and_eq_true_iff.1 hb
  obtain ⟨_, hb⟩ := Bool.and_eq_true_iff.1 hb
  obtain ⟨e1, e2⟩ := Bool.and_eq_true_iff.1 hb
  refine ⟨link_ok e1, fun c hc => ?_⟩
  obtain ⟨e3, e4⟩ := Bool.and_eq_true_iff.1 (List.all_eq_true.1 e2 c hc)
  have e3 : c.im.length ≤ 1 := by simpa using e3
  exact ⟨by omega, fun s hs => Option.isSome_iff_exists.1 (List.all_eq_true.1 e4 s hs)⟩
theorem ring_ok (f : Bool) {m : Nat} (h1 : 1 ≤ m) (h : m ≤ 20) : okCs (ring f m m) ∧ okCs (ringO f m) := by
  have hb := ringB_all f h1 h
  unfold ringB at hb
  obtain ⟨_, hb⟩ := Bool.and_eq_true_iff.1 hb
  obtain ⟨e1, e2⟩ := Bool.and_eq_true_iff.1 hb
  exact ⟨fun c hc => by simpa using List.all_eq_true.1 e1 c hc, fun c hc => by simpa using List.all_eq_true.1 e2 c hc⟩
theorem ring_lens {m : Nat} (h1 : 1 ≤ m) (h : m ≤ 20) : (ifcE (prog (ringO true m)) (nameK 0)).length = m ∧ (walkN (prog (ringO false m)) (nameK 0)).1.length = m + 1 := by
  obtain ⟨k, rfl⟩ : ∃ k, m = k + 1 := ⟨m - 1, by omega⟩
  have hb : ringL (k + 1) = true := List.all_eq_true.1 ring_l k (List.mem_range.2 (by omega))
  unfold ringL at hb
  obtain ⟨e1, e2⟩ := Bool.and_eq_true_iff.1 hb
  exact ⟨by unfold ifcE; rw [(srtS_perm _).length_eq]; simpa using e1, by simpa using e2⟩
end Go.Proofs.YthmepecmeambmaaGreat
namespace Go.Proofs.YthmepecmeambmaaGreat
open Go.RowKit
set_option linter.unusedVariables false

/-- The nearest one below j that has it, or none. -/
def wantP (h : Nat → Bool) : Nat → ByteArray
  | 0 => ⟨#[]⟩
  | j + 1 => if h j then nameK j else wantP h j
def anyP (h : Nat → Bool) : Nat → Bool
  | 0 => false
  | j + 1 => h j || anyP h j
theorem wantP_no {h : Nat → Bool} : ∀ {j : Nat}, anyP h j = false → wantP h j = ⟨#[]⟩
  | 0, _ => rfl
  | j + 1, e => by
    rw [anyP, Bool.or_eq_false_iff] at e
    rw [wantP, if_neg (by simp [e.1]), wantP_no e.2]
theorem wantP_is {h : Nat → Bool} : ∀ {j : Nat}, anyP h j = true → ∃ i, i < j ∧ wantP h j = nameK i
  | 0, e => by cases e
  | j + 1, e => by
    rw [anyP] at e
    cases hj : h j with
    | true => exact ⟨j, by omega, by rw [wantP, if_pos hj]⟩
    | false =>
      rw [hj] at e
      obtain ⟨i, hi, h2⟩ := wantP_is (j := j) e
      exact ⟨i, by omega, by rw [wantP, if_neg (by simp [hj]), h2]⟩
theorem fst1_way {F : ByteArray → Option Mth} {m : Mth} {h : Nat → Bool} (hO : F nObject = none) : ∀ (i : Nat), (∀ j, j ≤ i → F (nameK j) = if h j then some m else none) → fst1 F (wayK i) = (wantP h (i + 1), if anyP h (i + 1) then some m else none)
  | 0, hF => by
    rw [wayK, fst1, hF 0 (Nat.le_refl _), wantP, anyP]
    cases h 0 with
    | true => rfl
    | false => simp only [Bool.false_eq_true, if_false]; rw [fst1, hO]; rfl
  | i + 1, hF => by
    rw [wayK, fst1, hF (i + 1) (Nat.le_refl _), wantP, anyP]
    cases h (i + 1) with
    | true => rfl
    | false => simp only [Bool.false_eq_true, if_false, Bool.false_or]; exact fst1_way hO i fun j hj => hF j (by omega)
theorem fst2_way {F : ByteArray → Option Fld} {m : Fld} {h : Nat → Bool} (hO : F nObject = none) : ∀ (i : Nat), (∀ j, j ≤ i → F (nameK j) = if h j then some m else none) → fst2 F (wayK i) = (wantP h (i + 1), if anyP h (i + 1) then some m else none)
  | 0, hF => by
    rw [wayK, fst2, hF 0 (Nat.le_refl _), wantP, anyP]
    cases h 0 with
    | true => rfl
    | false => simp only [Bool.false_eq_true, if_false]; rw [fst2, hO]; rfl
  | i + 1, hF => by
    rw [wayK, fst2, hF (i + 1) (Nat.le_refl _), wantP, anyP]
    cases h (i + 1) with
    | true => rfl
    | false => simp only [Bool.false_eq_true, if_false, Bool.false_or]; exact fst2_way hO i fun j hj => hF j (by omega)
theorem fst1_nil {F : ByteArray → Option Mth} : ∀ {l : List ByteArray}, (∀ y ∈ l, F y = none) → fst1 F l = (⟨#[]⟩, none)
  | [], _ => rfl
  | x :: r, h => by rw [fst1, h x (by simp)]; exact fst1_nil fun y hy => h y (List.mem_cons_of_mem _ hy)
theorem fst2_nil {F : ByteArray → Option Fld} : ∀ {l : List ByteArray}, (∀ y ∈ l, F y = none) → fst2 F l = (⟨#[]⟩, none)
  | [], _ => rfl
  | x :: r, h => by rw [fst2, h x (by simp)]; exact fst2_nil fun y hy => h y (List.mem_cons_of_mem _ hy)
section
variable {st : Bool} {h : Nat → Bool} {n : Nat}
theorem near_abv (hn : n ≤ 15) {i : Nat} (hi : i < n) : abv (prog (near st h n)) (nameK i) = wayK i := by
  have h3 : isIf (prog (near st h n)) (nameK i) = false := by unfold isIf; rw [near_lk hn hi]; rfl
  have h4 : ifcE (prog (near st h n)) (nameK i) = [] := by
    unfold ifcE
    rw [near_ifs hn hi, h3]
    exact List.length_eq_zero_iff.1 (by rw [srtS_len]; simp)
  unfold abv
  rw [near_walk hn hi, h4, List.append_nil]
theorem near_fld (hn : n ≤ 15) {i : Nat} (hi : i < n) (d : ByteArray) (s : Bool) : fldF (prog (near st h n)) nF d s (nameK i) = if h i && (nq nI d && st == s) then some (nearF st) else none := by
  unfold fldF fldQ fsOf
  rw [near_lk hn hi]
  show Option.filter _ ((if h i then [nearF st] else []).find? _) = _
  cases h i with
  | false => rfl
  | true =>
    rw [if_pos rfl, List.find?_cons, show nq (nearF st).n nF = true from nq_self _, Option.filter_some, Bool.true_and]
theorem near_fldO (hn : n ≤ 15) (d : ByteArray) (s : Bool) : fldF (prog (near st h n)) nF d s nObject = none := by
  unfold fldF fldQ fsOf
  rw [near_obj hn]
  rfl
theorem near_mth (hn : n ≤ 15) {i : Nat} (hi : i < n) : mth (prog (near st h n)) (nameK i) nM wV = if h i then some (nearM st) else none := by
  unfold mth meOf
  rw [near_lk hn hi]
  show (if h i then [nearM st] else []).find? _ = _
  cases h i with
  | false => rfl
  | true =>
    have e : mIs nM wV (nearM st) = true := by unfold mIs; rw [nq_self, nq_self]; rfl
    rw [if_pos rfl, List.find?_cons, e]
    rfl
theorem near_mthO (hn : n ≤ 15) : mth (prog (near st h n)) nObject nM wV = none := by
  unfold mth meOf
  rw [near_obj hn]
  show [initM].find? (mIs nM wV) = none
  have e : mIs nM wV initM = false := by decide +kernel
  rw [List.find?_cons, e]
  rfl
theorem near_F (hn : n ≤ 15) {k : Nat} (hk : k < n) : fst2 (fldF (prog (near st h n)) nF nI st) (abv (prog (near st h n)) (nameK k)) = (wantP h (k + 1), if anyP h (k + 1) then some (nearF st) else none) := by
  rw [near_abv hn hk]
  refine fst2_way (near_fldO hn _ _) k fun j hj => ?_
  rw [near_fld hn (by omega), nq_self]
  simp
theorem near_Fs (hn : n ≤ 15) {k : Nat} (hk : k < n) : fst2 (fldF (prog (near st h n)) nF nI (!st)) (abv (prog (near st h n)) (nameK k)) = (⟨#[]⟩, none) := by
  rw [near_abv hn hk]
  refine fst2_nil fun y hy => ?_
  rcases wayK_mem hy with rfl | ⟨j, hj, rfl⟩
  · exact near_fldO hn _ _
  · rw [near_fld hn (by omega)]
    cases st <;> simp
theorem near_Fc (hn : n ≤ 15) {k : Nat} (hk : k < n) : fst2 (fldF (prog (near st h n)) nF ⟨#[67]⟩ st) (abv (prog (near st h n)) (nameK k)) = (⟨#[]⟩, none) := by
  rw [near_abv hn hk]
  refine fst2_nil fun y hy => ?_
  rcases wayK_mem hy with rfl | ⟨j, hj, rfl⟩
  · exact near_fldO hn _ _
  · rw [near_fld hn (by omega)]
    have e : nq nI ⟨#[67]⟩ = false := by decide +kernel
    rw [e]
    simp
theorem near_M (hn : n ≤ 15) {k : Nat} (hk : k < n) : fst1 (mthF (prog (near st h n)) nM wV) (abv (prog (near st h n)) (nameK k)) = (wantP h (k + 1), if anyP h (k + 1) then some (nearM st) else none) := by
  rw [near_abv hn hk]
  exact fst1_way (F := mthF (prog (near st h n)) nM wV) (near_mthO hn) k fun j hj => near_mth hn (by omega)
theorem near_D (hn : n ≤ 15) {k : Nat} (hk : k < n) : fst1 (dspF (prog (near st h n)) nM wV) (walkN (prog (near st h n)) (nameK k)).1 = if st then (⟨#[]⟩, none) else (wantP h (k + 1), if anyP h (k + 1) then some (nearM st) else none) := by
  rw [near_walk hn hk]
  have hF : ∀ j, j ≤ k → dspF (prog (near st h n)) nM wV (nameK j) = if !st && h j then some (nearM st) else none := fun j hj => by
    unfold dspF
    rw [near_mth hn (by omega)]
    cases h j <;> cases st <;> rfl
  have hO : dspF (prog (near st h n)) nM wV nObject = none := by
    unfold dspF
    rw [near_mthO hn]
    rfl
  cases st with
  | true =>
    rw [if_pos rfl]
    refine fst1_nil fun y hy => ?_
    rcases wayK_mem hy with rfl | ⟨j, hj, rfl⟩
    · exact hO
    · rw [hF j hj]; rfl
  | false =>
    rw [if_neg (by simp)]
    exact fst1_way hO k fun j hj => by rw [hF j hj]; simp
end
theorem fieldP_any (c n d : ByteArray) (s : Bool) (P : List Cls) (g b : Nat) (w : World) (h : Pm w g b P) (hT : okCs P) (G : Gd P) :
    Calls Tryz.prog 62 #[.pointer (some ⟨g, 0, none⟩), .string c, .string n, .string d, .bool s] w fun e w' => e = .returned (.tuple #[.string (fst2 (fldF P n d s) (abv P c)).1, .int .i64 (er (fst2 (fldF P n d s) (abv P c)).2)]) ∧ Ch w w' :=
  field_gen c n d s (some ⟨g, 0, none⟩) (abv P c) (fldF P n d s) w (fun x hx => nms_sz hT x (abv_nms G hx))
    (fun w' k => (above_any c P g b w' (h.keep k) G).mono (fun e w2 ⟨v, h1, h2, h3⟩ => ⟨v, h1, h2.sl, h3⟩))
    (fun w' tp tn td ts k k1 k2 k3 k4 x _ => askF_any x n d s tp tn td ts P g b w' (h.keep k) hT k1 k2 k3 k4)
theorem nmN_any (k : Nat) (w : World) (hk : k ≤ 40) : Calls Tryz.prog 76 #[.int .i64 (k : Int)] w fun e w' => e = .returned (.string (nameK k)) ∧ Ch w w' := by
  have HD := decimal_any k w hk
  unfold nameK
  have hss : (strOfNums (decN k)).size ≤ 2 := by
    rw [str_size]; unfold decN; split <;> simp
  obtain ⟨s, hs⟩ : ∃ s, strOfNums (decN k) = s := ⟨_, rfl⟩
  rw [hs] at HD hss ⊢
  clear hs
  go_enter Tryz.func76, Tryz.ntmps76
  go_wp2_with (first
    | (go_at_call 44; (with_reducible refine HD.mono ?_); clear HD; rintro e w3 ⟨rfl, c3⟩)
    | fail)
  go_ret
  exact ⟨rfl, c3⟩
/-- A bool in a row. -/
def RB (w : World) (cs : List Value) (b : Bool) : Prop := cs = [.bool b]
theorem Sl.atB {w : World} {ao : Option Addr} {n cap : Nat} {xs : List Bool} (h : Sl 1 RB w (.slice ao n cap) xs) {i : Nat} {b : Bool} (hi : xs[i]? = some b) : ∃ g off, ao = some ⟨g, off, none⟩ ∧ w.cell? ⟨g, off + i, none⟩ = some (.bool b) := by
  obtain ⟨g, off, cs, ha, rfl, hc⟩ := h.at hi
  exact ⟨g, off, ha, by simpa using hc 0 _ rfl⟩
end Go.Proofs.YthmepecmeambmaaGreat
