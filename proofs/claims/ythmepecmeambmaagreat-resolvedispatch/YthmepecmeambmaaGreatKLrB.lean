/- Methods that may be; whether two are the same; what a call has found. -/
/- What an object's class does: of a program that goes together. -/
/- ResolveDispatch, walked. -/
import Derived.Test.YthmepecmeambmaaGreatKLoB
import Derived.Test.YthmepecmeambmaaGreatKLyG
namespace Go.Proofs.YthmepecmeambmaaGreat
open Go.RowKit
set_option linter.unusedVariables false

theorem firstF_all {α : Type} (f : α → Int) : ∀ l : List α, firstF f l = 0 → ∀ x ∈ l, f x = 0
  | [], _, x, hx => by cases hx
  | y :: r, h, x, hx => by
    rw [firstF] at h
    by_cases h0 : f y = 0
    · rw [if_pos h0] at h
      rcases List.mem_cons.1 hx with rfl | hx
      · exact h0
      · exact firstF_all f r h x hx
    · rw [if_neg h0] at h
      exact absurd h h0
theorem orL_all : ∀ l : List Int, orL l = 0 → ∀ x ∈ l, x = 0
  | [], _, x, hx => by cases hx
  | y :: r, h, x, hx => by
    rw [orL] at h
    by_cases h0 : y = 0
    · rw [if_pos h0] at h
      rcases List.mem_cons.1 hx with rfl | hx
      · exact h0
      · exact orL_all r h x hx
    · rw [if_neg h0] at h
      exact absurd h h0
theorem mthE_ok {m : Mth} (h : mthE m = 0) : (m.ab = true → m.st = false) ∧ (m.n = nClinit → m.st = true) := by
  unfold mthE at h
  cases hp : meth (bl m.d) with
  | none => rw [hp] at h; cases h
  | some p =>
    rw [hp] at h
    dsimp only at h
    by_cases h1 : (!mayN m (ms p.2)) = true
    · rw [if_pos h1] at h; cases h
    rw [if_neg h1] at h
    by_cases h2 : (!witM m) = true
    · rw [if_pos h2] at h; cases h
    rw [if_neg h2] at h
    by_cases h3 : (m.ab && !barM m) = true
    · rw [if_pos h3] at h; cases h
    constructor
    · intro ha
      rw [ha] at h3
      unfold barM at h3
      cases hs : m.st with
      | false => rfl
      | true => rw [hs] at h3; simp at h3
    · intro hn
      unfold mayN at h1
      have e : (m.n.toList == [60, 99, 108, 105, 110, 105, 116, 62]) = true := by rw [hn, bl_toList]; rfl
      rw [if_pos e] at h1
      cases hs : m.st with
      | true => rfl
      | false => rw [hs] at h1; simp at h1
/-- What holds of a program's methods. -/
def Mk (P : List Cls) : Prop := ∀ c ∈ P, ∀ m ∈ c.me, (m.ab = true → m.st = false) ∧ (m.n = nClinit → m.st = true)
theorem mk_of {l : List Cls} (h : link l = (some (prog l), 0, nNone)) : Mk (prog l) := fun c hc m hm => by
  rcases List.mem_append.1 ((prog_perm l).mem_iff.1 hc) with hg | hl
  · have h2 : (given.all fun c => c.me.all fun m => (!m.ab || !m.st) && (!nq m.n nClinit || m.st)) = true := by decide +kernel
    have h3 := List.all_eq_true.1 (List.all_eq_true.1 h2 c hg) m hm
    rw [Bool.and_eq_true] at h3
    refine ⟨fun ha => ?_, fun hn => ?_⟩
    · rw [ha] at h3; simpa using h3.1
    · rw [nq_iff.2 hn] at h3; simpa using h3.2
  · refine mthE_ok ?_
    have hk : chkE c = 0 := by
      unfold link at h
      by_cases h1 : 30 < l.length
      · rw [if_pos h1] at h; cases h
      · rw [if_neg h1] at h
        cases h2 : (l.find? fun c => chkE c != 0) with
        | some d => rw [h2] at h; cases h
        | none =>
          rw [List.find?_eq_none] at h2
          simpa using h2 c hl
    unfold chkE at hk
    exact firstF_all _ _ (orL_all _ hk _ (by simp)) m hm
theorem fst1_some {F : ByteArray → Option Mth} {m : Mth} {o : ByteArray} : ∀ {l : List ByteArray}, fst1 F l = (o, some m) → o ∈ l ∧ F o = some m
  | [], h => by cases h
  | x :: r, h => by
    rw [fst1] at h
    cases hx : F x with
    | some m' => rw [hx] at h; cases h; exact ⟨by simp, hx⟩
    | none =>
      rw [hx] at h
      obtain ⟨h1, h2⟩ := fst1_some (l := r) h
      exact ⟨List.mem_cons_of_mem _ h1, h2⟩
theorem mth_is {P : List Cls} {c n d : ByteArray} {m : Mth} (h : mth P c n d = some m) : ∃ x, lk P c = some x ∧ m ∈ x.me ∧ m.n = n ∧ m.d = d := by
  unfold mth meOf at h
  cases hl : lk P c with
  | none => rw [hl] at h; cases h
  | some x =>
    rw [hl] at h
    dsimp only at h
    have h1 := List.find?_some h
    unfold mIs at h1
    rw [Bool.and_eq_true] at h1
    exact ⟨x, rfl, List.mem_of_find?_eq_some h, nq_iff.1 h1.1, nq_iff.1 h1.2⟩
theorem abv_no {P : List Cls} {c : ByteArray} (h : lk P c = none) : abv P c = [] := by
  have h1 : (walkN P c).1 = [] := by unfold walkN; rw [wk_no h]
  have h2 : ifs P c = [] := by unfold ifs; rw [h1]; rfl
  have h3 : isIf P c = false := by unfold isIf; rw [h]
  unfold abv ifcE
  rw [h1, h2, h3]
  have h4 : srtS ([] ++ if false = true then [c] else []) = [] := List.length_eq_zero_iff.1 (by rw [srtS_len]; simp)
  rw [h4]
  rfl
/-- What a call that has found something says. -/
theorem call_is {P : List Cls} (g : Gd P) (k : Mk P) {x : Ins} {o : ByteArray} {m : Mth} (h : resQ P x = (o, some m)) :
    ∃ (C D : Cls) (j : Nat), clsOf P x.c = (C, true) ∧ clsOf P o = (D, true) ∧ D.me[j]? = some m ∧ m.n = x.n ∧ m.d = x.d ∧
      ((x.op = 32 ∧ m.st = true ∧ m.ab = false) ∨ (x.op = 33 ∧ m.st = false ∧ m.ab = false ∧ (nq m.n nInit = false ∨ nq o x.c = true)) ∨ (x.op = 34 ∧ m.st = false ∧ C.it = false) ∨ (x.op = 35 ∧ m.st = false ∧ C.it = true)) := by
  unfold resQ at h
  cases hf : fst1 (mthF P x.n x.d) (abv P x.c) with
  | mk o' om =>
    rw [hf] at h
    cases om with
    | none => cases h
    | some m' =>
      dsimp only at h
      by_cases ht : tkB (isIc P x.c) x.op x.c o' m' = true
      · rw [if_pos ht] at h
        cases h
        obtain ⟨h1, h2⟩ := fst1_some hf
        obtain ⟨D, hD, hm, hn, hd⟩ := mth_is h2
        obtain ⟨j, hj⟩ := List.getElem?_of_mem hm
        obtain ⟨C, hC⟩ : ∃ C, lk P x.c = some C := by
          cases hl : lk P x.c with
          | none => rw [abv_no hl] at h1; cases h1
          | some C => exact ⟨C, rfl⟩
        have hi : isIc P x.c = C.it := by rw [isI_if g]; unfold isIf; rw [hC]
        rw [hi] at ht
        refine ⟨C, D, j, by unfold clsOf; rw [hC], by unfold clsOf; rw [hD], hj, hn, hd, ?_⟩
        unfold tkB at ht
        by_cases h32 : x.op = 32
        · rw [if_pos h32] at ht
          refine Or.inl ⟨h32, ht, ?_⟩
          cases ha : m.ab with
          | false => rfl
          | true => rw [(k D (lk_some hD).1 m hm).1 ha] at ht; cases ht
        rw [if_neg h32] at ht
        by_cases h33 : x.op = 33
        · rw [if_pos h33] at ht
          simp only [Bool.and_eq_true, Bool.or_eq_true, Bool.not_eq_true'] at ht
          exact Or.inr (Or.inl ⟨h33, ht.1, ht.2.1, ht.2.2⟩)
        rw [if_neg h33] at ht
        by_cases h34 : x.op = 34
        · rw [if_pos h34] at ht
          simp only [Bool.and_eq_true, Bool.not_eq_true'] at ht
          exact Or.inr (Or.inr (Or.inl ⟨h34, ht.1, ht.2⟩))
        rw [if_neg h34] at ht
        by_cases h35 : x.op = 35
        · rw [if_pos h35] at ht
          simp only [Bool.and_eq_true, Bool.not_eq_true'] at ht
          exact Or.inr (Or.inr (Or.inr ⟨h35, ht.1, ht.2⟩))
        rw [if_neg h35] at ht
        cases ht
      · rw [if_neg ht] at h
        cases h
theorem call_no {P : List Cls} {x : Ins} {o : ByteArray} (h : resQ P x = (o, none)) : o = ⟨#[]⟩ := by
  unfold resQ at h
  split at h
  · split at h
    · cases h
    · cases h; rfl
  · cases h; rfl

/-- A class of that one method. -/
def oneC (m : Mth) : Cls := ⟨⟨#[]⟩, ⟨#[]⟩, false, false, [], [], [m]⟩
set_option maxHeartbeats 8000000 in
set_option maxRecDepth 100000 in
theorem sameM_any (HSMA : ∀ (a b : Cls) (vi vf vm ui uf um : Value) (w : World) (ha : ClsAt w a vi vf vm) (hb : ClsAt w b ui uf um), Calls Tryz.prog 32 #[.agg #[.string a.n, .string a.s, .bool a.it, .bool a.ab, vi, vf, vm], .agg #[.string b.n, .string b.s, .bool b.it, .bool b.ab, ui, uf, um]] w fun e w' => e = .returned (.bool (eqC a b)) ∧ Ch w w')
    (a b : Mth) (a1 a2 a3 a4 : Option Addr) (c1 c2 c3 c4 : Nat) (w : World) (s1 : Sl 6 RI w (.slice a1 a.code.length c1) a.code) (s2 : Sl 4 RH w (.slice a2 a.hs.length c2) a.hs) (s3 : Sl 6 RI w (.slice a3 b.code.length c3) b.code) (s4 : Sl 4 RH w (.slice a4 b.hs.length c4) b.hs) :
    Calls Tryz.prog 66 #[.agg #[.string a.n, .string a.d, .bool a.st, .bool a.ab, .int .i64 a.sk, .int .i64 a.lo, .slice a1 a.code.length c1, .slice a2 a.hs.length c2], .agg #[.string b.n, .string b.d, .bool b.st, .bool b.ab, .int .i64 b.sk, .int .i64 b.lo, .slice a3 b.code.length c3, .slice a4 b.hs.length c4]] w fun e w' => e = .returned (.bool (eqC (oneC a) (oneC b))) ∧ Ch w w' := by
  have HS : Hid (∀ w', Ch w w' → Sl 6 RI w' (.slice a1 a.code.length c1) a.code ∧ Sl 4 RH w' (.slice a2 a.hs.length c2) a.hs ∧ Sl 6 RI w' (.slice a3 b.code.length c3) b.code ∧ Sl 4 RH w' (.slice a4 b.hs.length c4) b.hs) := fun w' k => ⟨s1.keepI k, s2.keepH k, s3.keepI k, s4.keepH k⟩
  have HM : Hid (∀ w vm um, Sl 8 RM w vm [a] → Sl 8 RM w um [b] → Calls Tryz.prog 32 #[.agg #[.string ⟨#[]⟩, .string ⟨#[]⟩, .bool false, .bool false, .slice none 0 0, .slice none 0 0, vm], .agg #[.string ⟨#[]⟩, .string ⟨#[]⟩, .bool false, .bool false, .slice none 0 0, .slice none 0 0, um]] w fun e w' => e = .returned (.bool (eqC (oneC a) (oneC b))) ∧ Ch w w') := fun w vm um h1 h2 => HSMA (oneC a) (oneC b) _ _ _ _ _ _ w ⟨nilR _ _ _, nilR _ _ _, h1⟩ ⟨nilR _ _ _, nilR _ _ _, h2⟩
  clear HSMA s1 s2 s3 s4
  generalize eqC (oneC a) (oneC b) = r at *
  have B1 := Bo.new (Ch.refl w) #[.string a.n, .string a.d, .bool a.st, .bool a.ab, .int .i64 a.sk, .int .i64 a.lo, .slice a1 a.code.length c1, .slice a2 a.hs.length c2] 66
  have B2 := Bo.new B1.ch #[.string b.n, .string b.d, .bool b.st, .bool b.ab, .int .i64 b.sk, .int .i64 b.lo, .slice a3 b.code.length c3, .slice a4 b.hs.length c4] 66
  have B1 := B1.call ((Ch.refl _).alloc (.cells #[.string b.n, .string b.d, .bool b.st, .bool b.ab, .int .i64 b.sk, .int .i64 b.lo, .slice a3 b.code.length c3, .slice a4 b.hs.length c4] 66))
  have e1 : (w.alloc (.cells #[.string a.n, .string a.d, .bool a.st, .bool a.ab, .int .i64 a.sk, .int .i64 a.lo, .slice a1 a.code.length c1, .slice a2 a.hs.length c2] 66)).heap.size = w.heap.size + 1 := by simp
  rw [e1] at B2
  clear e1
  have p0 := B1.c 0 rfl
  have q0 := B2.c 0 rfl
  have p1 := B1.c 1 rfl
  have q1 := B2.c 1 rfl
  have p2 := B1.c 2 rfl
  have q2 := B2.c 2 rfl
  have p3 := B1.c 3 rfl
  have q3 := B2.c 3 rfl
  have p4 := B1.c 4 rfl
  have q4 := B2.c 4 rfl
  have p5 := B1.c 5 rfl
  have q5 := B2.c 5 rfl
  have p6 := B1.c 6 rfl
  have q6 := B2.c 6 rfl
  have p7 := B1.c 7 rfl
  have q7 := B2.c 7 rfl
  have q0' := cell_keep ((Ch.refl _).alloc (.cells #[.string a.n, .string a.d, .bool a.st, .bool a.ab, .int .i64 a.sk, .int .i64 a.lo, .slice a1 a.code.length c1, .slice a2 a.hs.length c2] 66)) q0
  have q1' := cell_keep ((Ch.refl _).alloc (.cells #[.string a.n, .string a.d, .bool a.st, .bool a.ab, .int .i64 a.sk, .int .i64 a.lo, .slice a1 a.code.length c1, .slice a2 a.hs.length c2] 66)) q1
  have q2' := cell_keep ((Ch.refl _).alloc (.cells #[.string a.n, .string a.d, .bool a.st, .bool a.ab, .int .i64 a.sk, .int .i64 a.lo, .slice a1 a.code.length c1, .slice a2 a.hs.length c2] 66)) q2
  have q3' := cell_keep ((Ch.refl _).alloc (.cells #[.string a.n, .string a.d, .bool a.st, .bool a.ab, .int .i64 a.sk, .int .i64 a.lo, .slice a1 a.code.length c1, .slice a2 a.hs.length c2] 66)) q3
  have q4' := cell_keep ((Ch.refl _).alloc (.cells #[.string a.n, .string a.d, .bool a.st, .bool a.ab, .int .i64 a.sk, .int .i64 a.lo, .slice a1 a.code.length c1, .slice a2 a.hs.length c2] 66)) q4
  have q5' := cell_keep ((Ch.refl _).alloc (.cells #[.string a.n, .string a.d, .bool a.st, .bool a.ab, .int .i64 a.sk, .int .i64 a.lo, .slice a1 a.code.length c1, .slice a2 a.hs.length c2] 66)) q5
  have q6' := cell_keep ((Ch.refl _).alloc (.cells #[.string a.n, .string a.d, .bool a.st, .bool a.ab, .int .i64 a.sk, .int .i64 a.lo, .slice a1 a.code.length c1, .slice a2 a.hs.length c2] 66)) q6
  have q7' := cell_keep ((Ch.refl _).alloc (.cells #[.string a.n, .string a.d, .bool a.st, .bool a.ab, .int .i64 a.sk, .int .i64 a.lo, .slice a1 a.code.length c1, .slice a2 a.hs.length c2] 66)) q7
  go_enter Tryz.func66, Tryz.ntmps66
  go_wp2_with (first
    | (go_at_call 32; refine (HM.out _ _ _ (one_sl (by repeat (first | (refine alloc_at _ _ _ ?_; simp; done) | refine al_keep ?_)) ⟨_, _, rfl, (HS.out _ (by repeat (first | exact Ch.refl _ | refine Ch.drew ?_ | refine Ch.alloc ?_ _ | refine Ch.trans ?_ (by assumption)))).1, (HS.out _ (by repeat (first | exact Ch.refl _ | refine Ch.drew ?_ | refine Ch.alloc ?_ _ | refine Ch.trans ?_ (by assumption)))).2.1⟩) (one_sl (by repeat (first | (refine alloc_at _ _ _ ?_; simp; done) | refine al_keep ?_)) ⟨_, _, rfl, (HS.out _ (by repeat (first | exact Ch.refl _ | refine Ch.drew ?_ | refine Ch.alloc ?_ _ | refine Ch.trans ?_ (by assumption)))).2.2.1, (HS.out _ (by repeat (first | exact Ch.refl _ | refine Ch.drew ?_ | refine Ch.alloc ?_ _ | refine Ch.trans ?_ (by assumption)))).2.2.2⟩)).mono ?_; rintro e w2 ⟨rfl, c2⟩)
    | fail)
  go_ret
  exact ⟨rfl, Ch.trans (by repeat (first | exact Ch.refl _ | refine Ch.drew ?_ | refine Ch.alloc ?_ _ | refine Ch.trans ?_ (by assumption))) c2⟩
end Go.Proofs.YthmepecmeambmaaGreat
namespace Go.Proofs.YthmepecmeambmaaGreat
open Go.RowKit
set_option linter.unusedVariables false

theorem tw_pair : ∀ (l p : List (ByteArray × ByteArray)), tw nd2 p l = false → (∀ x ∈ l, x ∉ p) ∧ l.Nodup
  | [], p, _ => ⟨(fun x hx => by cases hx), List.nodup_nil⟩
  | x :: r, p, h => by
    rw [tw, Bool.or_eq_false_iff] at h
    obtain ⟨h1, h2⟩ := tw_pair r (p ++ [x]) h.2
    have hx : x ∉ p := fun hm => by
      have := List.any_eq_false.1 h.1 x hm
      exact this (nd2_iff.2 rfl)
    refine ⟨fun y hy => ?_, List.nodup_cons.2 ⟨fun hm => h1 x hm (by simp), h2⟩⟩
    rcases List.mem_cons.1 hy with rfl | hy
    · exact hx
    · exact fun hm => h1 y hy (List.mem_append_left _ hm)
/-- Of a class's methods no two have one name and type. -/
theorem me_one {P : List Cls} (g : Gd P) {c : Cls} (hc : c ∈ P) : (c.me.map fun m => (m.n, m.d)).Nodup := by
  rcases g.each c hc with hg | hk
  · have h2 : (given.all fun c => !tw nd2 [] (c.me.map fun m => (m.n, m.d))) = true := by decide +kernel
    have := List.all_eq_true.1 h2 c hg
    exact (tw_pair _ [] (by simpa using this)).2
  · have h4 : k4 c = true := hk 4 (by omega)
    unfold k4 at h4
    rw [Bool.and_eq_true] at h4
    exact (tw_pair _ [] (by simpa using h4.2)).2
theorem find_one : ∀ (l : List Mth), (l.map fun m => (m.n, m.d)).Nodup → ∀ m ∈ l, l.find? (mIs m.n m.d) = some m
  | [], _, m, hm => by cases hm
  | y :: r, h, m, hm => by
    rw [List.map_cons, List.nodup_cons] at h
    rw [List.find?_cons]
    rcases List.mem_cons.1 hm with rfl | hm
    · have e : mIs m.n m.d m = true := by unfold mIs; rw [nq_self, nq_self]; rfl
      rw [e]
    · cases e : mIs m.n m.d y with
      | false => exact find_one r h.2 m hm
      | true =>
        exfalso
        unfold mIs at e
        rw [Bool.and_eq_true] at e
        refine h.1 (List.mem_map.2 ⟨m, hm, ?_⟩)
        rw [nq_iff.1 e.1, nq_iff.1 e.2]
theorem mth_of {P : List Cls} (g : Gd P) {n : ByteArray} {c : Cls} (hc : lk P n = some c) {m : Mth} (hm : m ∈ c.me) : mth P n m.n m.d = some m := by
  unfold mth meOf
  rw [hc]
  exact find_one _ (me_one g (lk_some hc).1) m hm
theorem fst1_is {F : ByteArray → Option Mth} : ∀ {l : List ByteArray} {y : ByteArray} {m : Mth}, y ∈ l → F y = some m → (fst1 F l).2.isSome = true
  | [], y, m, h, _ => by cases h
  | x :: r, y, m, h, hF => by
    rw [fst1]
    cases hx : F x with
    | some m' => rfl
    | none =>
      rcases List.mem_cons.1 h with rfl | h
      · rw [hx] at hF; cases hF
      · exact fst1_is h hF
theorem dsp_of {P : List Cls} (g : Gd P) {n : ByteArray} {c : Cls} (hc : lk P n = some c) {m : Mth} (hm : m ∈ c.me) (h1 : m.st = false) (h2 : m.ab = false) : dspF P m.n m.d n = some m := by
  unfold dspF
  rw [mth_of g hc hm, Option.filter_some]
  unfold dsp
  rw [h1, h2]
  rfl
/-- What is found is such. -/
theorem dsp_is {P : List Cls} {n d : ByteArray} {l : List ByteArray} {o : ByteArray} {m : Mth} (h : fst1 (dspF P n d) l = (o, some m)) : o ∈ l ∧ m.st = false ∧ m.ab = false ∧ m.n = n ∧ m.d = d := by
  obtain ⟨h1, h2⟩ := fst1_some h
  unfold dspF at h2
  cases hm : mth P o n d with
  | none => rw [hm] at h2; cases h2
  | some m' =>
    rw [hm, Option.filter_some] at h2
    by_cases hd : dsp m' = true
    · rw [if_pos hd] at h2
      cases h2
      unfold dsp at hd
      rw [Bool.and_eq_true] at hd
      obtain ⟨_, _, _, h3, h4⟩ := mth_is hm
      exact ⟨h1, by simpa using hd.1, by simpa using hd.2, h3, h4⟩
    · rw [if_neg hd] at h2
      cases h2
theorem given_pth {P : List Cls} (g : Gd P) {b : ByteArray} : ∀ (r : List ByteArray) (c : Cls), c ∈ given → pth (lk P) c.n r b → ∀ y ∈ r, ∃ d ∈ given, d.n = y ∧ lk P y = some d
  | [], c, hc, _, y, hy => by cases hy
  | x :: r, c, hc, ⟨e, d, h1, h2⟩, y, hy => by
    rw [g.giv c hc] at h1
    cases h1
    subst e
    rcases List.mem_cons.1 hy with rfl | hy
    · exact ⟨c, hc, rfl, g.giv c hc⟩
    rcases given_up hc with ⟨h, _⟩ | ⟨d, hd, h3, _⟩
    · rw [h] at h2
      cases r with
      | nil => cases hy
      | cons z r =>
        obtain ⟨_, d, h5, _⟩ := h2
        rw [g.emp] at h5
        cases h5
    · rw [← h3] at h2
      exact given_pth g r d hd h2 y hy
theorem given_sup {P : List Cls} (g : Gd P) {b : ByteArray} : ∀ (r : List ByteArray) (c : Cls), c ∈ given → pth (lk P) c.n r b → ∀ y ∈ r, y = c.n ∨ ∃ d ∈ given, d.s = y
  | [], c, hc, _, y, hy => by cases hy
  | x :: r, c, hc, ⟨e, d, h1, h2⟩, y, hy => by
    rw [g.giv c hc] at h1
    cases h1
    subst e
    rcases List.mem_cons.1 hy with rfl | hy
    · exact Or.inl rfl
    rcases given_up hc with ⟨h, _⟩ | ⟨d, hd, h3, _⟩
    · rw [h] at h2
      cases r with
      | nil => cases hy
      | cons z r =>
        obtain ⟨_, d, h5, _⟩ := h2
        rw [g.emp] at h5
        cases h5
    · rw [← h3] at h2
      rcases given_sup g r d hd h2 y hy with h | h
      · exact Or.inr ⟨c, hc, by rw [h, h3]⟩
      · exact Or.inr h
theorem given_ifs {P : List Cls} (g : Gd P) {c : Cls} (hc : c ∈ given) : ifs P c.n = [] := by
  obtain ⟨e, _, h2, _, _⟩ := walk_none g c.n
  have hw := given_pth g _ c hc h2
  unfold ifs
  generalize (walkN P c.n).1 = W at *
  have h3 : ∀ (W : List ByteArray), (∀ y ∈ W, ∃ d ∈ given, d.n = y ∧ lk P y = some d) → addW (lk P) [] W = [] := fun W hW => by
    induction W with
    | nil => rfl
    | cons y r ih =>
      obtain ⟨d, hd, _, hl⟩ := hW y (by simp)
      have h4 : imOf (lk P) y = [] := by unfold imOf; rw [hl]; exact given_im d hd
      rw [addW, h4]
      exact ih fun z hz => hW z (List.mem_cons_of_mem _ hz)
  rw [h3 W hw]
  rfl
/-- Of a concrete class nothing that is not static is left. -/
theorem dsp_all {P : List Cls} (g : Gd P) (k : Mk P) {x : Cls} (hx : x ∈ P) (hc : conc P x.n = true) {y : ByteArray} (hy : y ∈ (walkN P x.n).1 ++ ifcE P x.n) {c : Cls} (hl : lk P y = some c) {m : Mth} (hm : m ∈ c.me) (hs : m.st = false) :
    (fst1 (dspF P m.n m.d) (walkN P x.n).1).2.isSome = true := by
  have hxl := lk_of g.nd hx
  unfold conc at hc
  rw [hxl] at hc
  dsimp only at hc
  rw [Bool.and_eq_true] at hc
  have hit : x.it = false := by simpa using hc.1
  have hab : x.ab = false := by simpa using hc.2
  have hy2 : y ∈ (walkN P x.n).1 ∨ y ∈ ifs P x.n := by
    rcases List.mem_append.1 hy with h | h
    · exact Or.inl h
    · rcases ifc_mem.1 h with h | ⟨h1, h2⟩
      · exact Or.inr h
      · unfold isIf at h2
        rw [hxl] at h2
        dsimp only at h2
        rw [hit] at h2
        cases h2
  cases ha : m.ab with
  | false =>
    rcases hy2 with h | h
    · exact fst1_is h (dsp_of g hl hm hs ha)
    · exfalso
      have h1 := ifs_if g x.n y h
      unfold isIf at h1
      rw [hl] at h1
      have h1 : c.it = true := h1
      have hcP := (lk_some hl).1
      have hn : m.n = nClinit := by
        rcases g.each c hcP with hg | hk
        · have h2 : (given.all fun c => !c.it || c.me.all (·.ab)) = true := by decide +kernel
          have h3 := List.all_eq_true.1 h2 c hg
          rw [h1] at h3
          have h4 := List.all_eq_true.1 (by simpa using h3 : c.me.all (·.ab) = true) m hm
          rw [ha] at h4
          cases h4
        · have h5 : k5 c = true := hk 5 (by omega)
          unfold k5 at h5
          rw [h1] at h5
          have h6 : (c.me.any fun m => !m.ab && !nq m.n nClinit) = false := by
            simp only [Bool.not_true, Bool.false_or, Bool.and_eq_true, Bool.not_eq_true'] at h5
            exact h5.2.2
          have h7 := List.any_eq_false.1 h6 m hm
          rw [ha] at h7
          have h8 : nq m.n nClinit = true := by simpa using h7
          exact nq_iff.1 h8
      rw [(k c hcP m hm).2 hn] at hs
      cases hs
  | true =>
    rcases g.each x hx with hg | hk
    · exfalso
      have hgc : c ∈ given := by
        rcases hy2 with h | h
        · obtain ⟨e, _, h2, _, _⟩ := walk_none g x.n
          obtain ⟨d, hd, _, h4⟩ := given_pth g _ x hg h2 y h
          rw [hl] at h4
          cases h4
          exact hd
        · rw [given_ifs g hg] at h
          cases h
      have h2 : (given.all fun c => c.it || c.me.all fun m => !m.ab) = true := by decide +kernel
      have h3 := List.all_eq_true.1 h2 c hgc
      rw [Bool.or_eq_true] at h3
      rcases h3 with h3 | h3
      · rcases hy2 with h | h
        · obtain ⟨e, _, h5, _, _⟩ := walk_none g x.n
          have hcn := (lk_some hl).2
          rcases given_sup g _ x hg h5 y h with h6 | ⟨d, hd, h6⟩
          · rw [h6, hxl] at hl
            cases hl
            rw [hit] at h3
            cases h3
          · have h7 : (given.all fun d => given.all fun c => !nq c.n d.s || !c.it) = true := by decide +kernel
            have h8 := List.all_eq_true.1 (List.all_eq_true.1 h7 d hd) c hgc
            rw [nq_iff.2 (hcn.trans h6.symm), h3] at h8
            cases h8
        · rw [given_ifs g hg] at h
          cases h
      · have h4 := List.all_eq_true.1 h3 m hm
        rw [ha] at h4
        cases h4
    · have h7 : k7 P x = true := hk 7 (by omega)
      rw [k7_eq, hab] at h7
      have h8 := List.all_eq_true.1 (by simpa using h7 : ((walkN P x.n).1 ++ ifs P x.n).all (ansN P (walkN P x.n).1) = true) y (List.mem_append.2 hy2)
      unfold ansN meOf at h8
      rw [hl] at h8
      have h9 := List.all_eq_true.1 h8 m hm
      unfold ansA at h9
      rw [ha] at h9
      have h10 : answ (lk P) (walkN P x.n).1 m = true := by simpa using h9
      unfold answ at h10
      obtain ⟨n', hn', h11⟩ := List.any_eq_true.1 h10
      obtain ⟨o, ho, h12⟩ := List.any_eq_true.1 h11
      unfold meOf at ho
      cases hl' : lk P n' with
      | none => rw [hl'] at ho; cases ho
      | some c' =>
        rw [hl'] at ho
        simp only [Bool.and_eq_true, Bool.not_eq_true'] at h12
        have hF := dsp_of g hl' ho h12.2.2.1 h12.2.2.2
        rw [nq_iff.1 h12.1, nq_iff.1 h12.2.1] at hF
        exact fst1_is hn' hF
end Go.Proofs.YthmepecmeambmaaGreat
namespace Go.Proofs.YthmepecmeambmaaGreat
open Go.RowKit
set_option linter.unusedVariables false

/-- A row of names behind a row of names of one's own, where a region draws its order. -/
theorem Ow.catW {B B2 : Nat} {w : World} {v x2 : Value} {xs ys : List ByteArray} (h : Ow 1 9 RS B w v xs) (h2 : Ow 1 9 RS B2 w x2 ys)
    {o : Oper} {a : Act} {K : Act → World → Prop} {Q : Exit → Act → World → Prop} (s x : Operand)
    (ho : o.op = .call { callee := .builtin .append, args := #[s, x], argTypes := #[32, 32] }) (hs : a.eval s = v) (hx : a.eval x = x2) (hL : xs.length ≤ 100000) (hL2 : ys.length ≤ 100000) (hB : B ≤ w.heap.size)
    (hK : ∀ v' w', Ow 1 9 RS B w' v' (xs ++ ys) → w.grownBy w' v.ownBlock → (∀ k, v.ownBlock = some k → B ≤ k) → K (a.put o.dst v') w') : o.wp Tryz.prog a w K Q := by
  obtain ⟨i0, hi, hz0, hz1, hz2⟩ := info_parts infS9
  obtain ⟨C, c1, c2, c3⟩ := id h
  have hcell : ∀ ao n c, x2 = .slice ao n c → ∀ j y, ys[j]? = some y → ∃ g, ao = some ⟨g, 0, none⟩ ∧ w.cell? ⟨g, j, none⟩ = some (.string y) := fun ao n c e j y hj => by
    subst e
    obtain ⟨g, cs, e1, _, _, e2, q0, _⟩ := h2.at hj
    have e2 : cs = [.string y] := e2
    subst e2
    have q0 := q0 0 _ rfl
    have off0 : j * 1 + 0 = j := by omega
    rw [off0] at q0
    exact ⟨g, e1, q0⟩
  obtain ⟨D2, d1, d2, d3⟩ := id h2
  rcases d2.2 with ⟨hv, h0⟩ | ⟨g, cap, cur, hv, hb, hg, hc1, hc2, hc3, ht⟩
  · have hy : ys = [] := List.length_eq_zero_iff.1 h0
    subst hy
    have hrun := run_append_owned_none (P := Tryz.prog) (w := w) B 32 o.type 9 i0 1 Tryz.underlying32 hi v xs.length _ c2
    have hx' := hx.trans hv
    unfold Oper.wp
    simp [execOp, ho, resolve, invoke, builtin, hs, hx', hrun, Result.andThen]
    exact hK v w (by rw [List.append_nil]; exact h) (grown_self _ _) (fun k hk => (c2.lt k hk).1)
  · have hx' := hx.trans hv
    obtain ⟨v', w', hr, g1, g2, _, _⟩ := run_append_own_at (P := Tryz.prog) w B 32 o.type 9 i0 (.string ⟨#[]⟩) 1 16 Tryz.underlying32 hi hz0 hz1 hz2 (by rfl) (by decide) v xs.length _ c2 ⟨g, 0, none⟩ ys.length cap (ys.map Value.string) (by simp) (fun j q hj => by
      have ea : (⟨g, 0, none⟩ : Addr).add j = ⟨g, j, none⟩ := by unfold Addr.add; split <;> simp_all
      rw [ea]
      rw [List.getElem?_map] at hj
      cases hy : ys[j]? with
      | none => rw [hy] at hj; cases hj
      | some y =>
        rw [hy] at hj
        have hj : Value.string y = q := by simpa using hj
        subst hj
        obtain ⟨g', e1, q0⟩ := hcell _ _ _ hv j y hy
        have e1 : g = g' := by simpa using e1
        subst e1
        exact q0) (fun q hq => by
      obtain ⟨y, _, rfl⟩ := List.mem_map.1 hq
      rfl) (by unfold maxLen; omega) (by omega) hB
    unfold Oper.wp execOp
    simp only [ho, resolve, invoke, builtin, Sem.run_bind, Sem.run_pure, Result.andThen_ok, List.map_toArray, List.map_cons, List.map_nil, hs, hx', hr]
    refine hK v' w' ⟨fun i => if i < xs.length then C i else [.string (ys.getD (i - xs.length) ⟨#[]⟩)], fun i => by dsimp only; split; exact c1 i; rfl, ?_, fun i a hia => ?_⟩ g2 (fun k hk => (c2.lt k hk).1)
    · rw [List.length_append]
      rw [← range_map_str, flat_app C (fun i => [.string (ys.getD i ⟨#[]⟩)]) xs.length ys.length] at g1
      exact g1
    · dsimp only
      by_cases hlt : i < xs.length
      · rw [if_pos hlt]
        rw [List.getElem?_append_left hlt] at hia
        exact c3 i a hia
      · rw [if_neg hlt]
        rw [List.getElem?_append_right (by omega)] at hia
        show [Value.string (ys.getD (i - xs.length) ⟨#[]⟩)] = [.string a]
        simp [List.getD, hia]

set_option maxHeartbeats 64000000 in
set_option maxRecDepth 100000 in
theorem dispatch_walk (l : List Cls) (v : Value) (w : World) (h : Sl 7 RC w v l) : Calls Tryz.prog 18 #[v] w fun e w' => e = .returned (.bool true) ∧ Ch w w' := by
  have hg := classesT_any l v w h
  have HC : Hid (∀ w', Ch w w' → okCs l → Calls Tryz.prog 24 #[v] w' fun e w2 => ∃ u, e = .returned (.tuple #[u, .int .i64 (link l).2.1, .string (link l).2.2]) ∧ Pv w2 (link l).1 u ∧ Ch w' w2) := fun w' k hT => classes_any l v w' (h.keep (fun cs a ⟨vi, vf, vm, e, q⟩ => ⟨vi, vf, vm, e, q.keep k⟩) k) hT
  obtain ⟨ao, cl, rfl, _, _⟩ := h.form
  clear h
  go_enter Tryz.func18, Tryz.ntmps18
  go_wp2_with (first
    | (go_at_call 22; (with_reducible refine hg.mono ?_); clear hg; rintro e w1 ⟨⟨r, rfl, hr⟩, c1⟩; cases r)
    | fail)
  · go_wp2_with (first
      | (go_at_call 60; (with_reducible refine (awake8 _).mono ?_); rintro e w2 ⟨rfl, c2⟩)
      | fail)
    go_ret
    exact ⟨rfl, c1.trans c2⟩
  have hT := hr (by first | rfl | trivial)
  have hcall := HC.out w1 c1 hT
  rcases link_two l hT with ⟨er', nm, hl, hne⟩ | ⟨hl, g⟩
  · rw [hl] at hcall
    have t0 : (er' != 0) = true := by simpa using hne
    go_wp2_with (first
      | (go_at_call 24; (with_reducible refine hcall.mono ?_); clear hcall; rintro e w2 ⟨u, rfl, hu, c2⟩; have hu : u = .pointer none := hu; subst hu)
      | (go_at_call 60; (with_reducible refine (awake8 _).mono ?_); rintro e w3 ⟨rfl, c3⟩)
      | fail)
    go_ret
    exact ⟨rfl, (c1.trans c2).trans c3⟩
  rw [hl] at hcall
  have HG : Hid (Gd (prog l)) := g
  have HTP : Hid (okCs (prog l)) := okc_prog hT
  have HMK : Hid (Mk (prog l)) := mk_of hl
  clear HC hl hr g hT
  generalize prog l = P at *
  have hnl : (nms P).length = P.length := by unfold nms; simp
  go_wp2_with (first
    | (go_at_call 24; (with_reducible refine hcall.mono ?_); clear hcall; rintro e w2 ⟨u, rfl, ⟨gp, bp, rfl, hm⟩, c2⟩; have hn := namesAll_any P gp bp w2 hm)
    | (go_at_call 26; (with_reducible refine hn.mono ?_); clear hn; rintro e w3 ⟨v3, rfl, o3, c3⟩; have hform : ∃ a d, v3 = .slice a P.length d := (by obtain ⟨a, d, h⟩ := o3.form; exact ⟨a, d, by rw [h, hnl]⟩); obtain ⟨a3, d3, rfl⟩ := hform)
    | fail)
  have HP : Hid (∀ w', Ch w3 w' → Pm w' gp bp P) := fun w' k => hm.keep (c3.trans k)
  have HN : Hid (∀ w', Ch w3 w' → Ow 1 9 RS w2.heap.size w' (.slice a3 P.length d3) (nms P)) := fun w' k => o3.keepS k
  have H3 : Hid (Ch w w3) := (c1.trans c2).trans c3
  have hPl := hm.2.1
  clear hm o3 c1 c2 c3
  go_loopw [7] (fun i wr => ∃ k : Nat, k ≤ P.length ∧ i = .int .i64 k ∧ Ch w3 wr) (fun i _ => P.length - (intOf i).toNat)
  case atStart => exact ⟨0, Nat.zero_le _, rfl, Ch.refl _⟩
  case round =>
    obtain ⟨k, hk, rfl, hcr⟩ := hrel
    by_cases hlt : k < P.length
    · obtain ⟨x, hx⟩ : ∃ x, P[k]? = some x := ⟨_, List.getElem?_eq_getElem hlt⟩
      have hxn : (nms P)[k]? = some x.n := by unfold nms; rw [List.getElem?_map, hx]; rfl
      have hxm := List.mem_of_getElem? hx
      obtain ⟨gn, _, e1, _, _, e2, q0, _⟩ := (HN.out wr hcr).at hxn
      have e2 : _ = [Value.string x.n] := e2
      subst e1 e2
      have HNX : Hid (∀ w', Ch w3 w' → w'.cell? ⟨gn, k, none⟩ = some (.string x.n)) := fun w' kk => by
        obtain ⟨g', cs, e1, _, _, e2, q0, _⟩ := (HN.out w' kk).at hxn
        have e2 : cs = [.string x.n] := e2
        subst e2
        cases e1
        have q0 := q0 0 _ rfl
        have off0 : k * 1 + 0 = k := by omega
        rw [off0] at q0
        exact q0
      have HSU : Hid (∀ w', Ch w3 w' → Calls Tryz.prog 33 #[.pointer (some ⟨gp, 0, none⟩), .string x.n] w' fun e w2 => ∃ v, e = .returned v ∧ Ow 1 9 RS w'.heap.size w2 v (walkN P x.n).1 ∧ Ch w' w2) := fun w' kk => supers_any x.n P gp bp w' (HP.out w' kk)
      have HTI : Hid (∀ w', Ch w3 w' → Calls Tryz.prog 34 #[.pointer (some ⟨gp, 0, none⟩), .string x.n] w' fun e w2 => ∃ v, e = .returned v ∧ Ow 1 9 RS w'.heap.size w2 v (ifcE P x.n) ∧ Ch w' w2) := fun w' kk => interfaces_told x.n P gp bp w' (HP.out w' kk) HG.out.im
      have HCL : Hid (∀ w' m c, Ch w3 w' → clsOf P m = (c, true) → Calls Tryz.prog 31 #[.pointer (some ⟨gp, 0, none⟩), .string m] w' fun e w2 => ∃ vi vf vm, e = .returned (.tuple #[.agg #[.string c.n, .string c.s, .bool c.it, .bool c.ab, vi, vf, vm], .bool true]) ∧ OwC w'.heap.size w2 c vi vf vm ∧ Ch w' w2) := fun w' m c kk hc => by
        have := class_any m P gp bp w' (HP.out w' kk) HTP.out
        rw [hc] at this
        exact this
      have HDI : Hid (∀ w' n d, Ch w3 w' → Calls Tryz.prog 69 #[.pointer (some ⟨gp, 0, none⟩), .string x.n, .string n, .string d] w' fun e w2 => ∃ v, e = .returned (.tuple #[.string (fst1 (dspF P n d) (walkN P x.n).1).1, v, .bool (fst1 (dspF P n d) (walkN P x.n).1).2.isSome]) ∧ Mw w' w2 v ((fst1 (dspF P n d) (walkN P x.n).1).2.getD noM) ∧ Ch w' w2) := fun w' n d kk => dispatch_any x.n n d P gp bp w' (HP.out w' kk) HTP.out
      have HCON : Hid (∀ w', Ch w3 w' → Calls Tryz.prog 40 #[.pointer (some ⟨gp, 0, none⟩), .string x.n] w' fun e w2 => e = .returned (.bool (conc P x.n)) ∧ Ch w' w2) := fun w' kk => concrete_any x.n P gp bp w' (HP.out w' kk)
      have HHAS : Hid (∀ w' v o, Sl 1 RS w' v (walkN P x.n).1 → o ∈ (walkN P x.n).1 → Calls Tryz.prog 39 #[v, .string o] w' fun e w2 => e = .returned (.bool true) ∧ w2 = w') := fun w' v o hv ho => by
        have := has_any (walkN P x.n).1 o v w' hv
        rwa [hasN_iff.2 ho] at this
      have HALLD : Hid (∀ y c m, y ∈ (walkN P x.n).1 ++ ifcE P x.n → clsOf P y = (c, true) → m ∈ c.me → conc P x.n = true → (fst1 (dspF P m.n m.d) (walkN P x.n).1).2 = none → m.st = true) := fun y c m hy hc hm hco hno => by
        cases hs : m.st with
        | true => rfl
        | false =>
          unfold clsOf at hc
          cases hl : lk P y with
          | none => rw [hl] at hc; cases hc
          | some c' =>
            rw [hl] at hc
            cases hc
            have := dsp_all HG.out HMK.out hxm hco hy hl hm hs
            rw [hno] at this
            cases this
      have HCX : Hid (∀ y, y ∈ (walkN P x.n).1 ++ ifcE P x.n → ∃ c, clsOf P y = (c, true) ∧ c.me.length ≤ 12000) := fun y hy => by
        obtain ⟨_, _, ⟨c, hc⟩, _⟩ := abv_in HG.out hxm hy
        exact ⟨c, by unfold clsOf; rw [hc], (lim_i (HTP.out c (lk_some hc).1)).2.2⟩
      have hl1 : (walkN P x.n).1.length ≤ P.length := by
        obtain ⟨e, _, h2, h3, _⟩ := walk_none HG.out x.n
        exact way_le h2 h3
      have hl2 := ifc_len HG.out x.n
      generalize hW : (walkN P x.n).1 = W at *
      generalize ifcE P x.n = I at *
      have HW : Hid ((walkN P x.n).1 = W) := hW
      clear hx hxn hxm q0 hW
      have kd := hcr.trans (Ch.refl wr).drew
      have sd := HNX.out _ kd
      go_wp2_with fail
      refine wp_region_held_drew (S := fun w' => w'.cell? ⟨gn, k, none⟩ = some (.string x.n)) (by kernel_rfl) (by exact sd) (fun hHeld => ?_)
      refine wpAnyH_take (i := 0) (oi := ({ dst := some 46, op := Go.Op.move (Go.Operand.tmp 3), type := 25, pos := "law.go:74", after := #[], guard := none } : Oper)) (v := ?_) rfl (by kernel_rfl) (by kernel_rfl) (by kernel_rfl) (fun _ _ _ h => h) (Or.inl ⟨by rfl, ?_⟩) (by assumption) ?_
      rotate_left
      focus (intro w' hSw; (try dsimp only at hSw); go_split_ands; go_simp; try with_reducible rfl)
      (try simp only [Act.put, List.setIfInBounds_toArray, List.set_cons_zero, List.set_cons_succ])
      refine wpAnyH_take (i := 1) (oi := ({ dst := some 47, op := Go.Op.move (Go.Operand.tmp 6), type := 32, pos := "law.go:74", after := #[], guard := none } : Oper)) (v := ?_) rfl (by kernel_rfl) (by kernel_rfl) (by kernel_rfl) (fun _ _ _ h => h) (Or.inl ⟨by rfl, ?_⟩) (by assumption) ?_
      rotate_left
      focus (intro w' hSw; (try dsimp only at hSw); go_split_ands; go_simp; try with_reducible rfl)
      (try simp only [Act.put, List.setIfInBounds_toArray, List.set_cons_zero, List.set_cons_succ])
      refine wpAnyH_take (i := 2) (oi := ({ dst := some 48, op := Go.Op.move (Go.Operand.tmp 7), type := 3, pos := "law.go:74", after := #[], guard := none } : Oper)) (v := ?_) rfl (by kernel_rfl) (by kernel_rfl) (by kernel_rfl) (fun _ _ _ h => h) (Or.inl ⟨by rfl, ?_⟩) (by assumption) ?_
      rotate_left
      focus (intro w' hSw; (try dsimp only at hSw); go_split_ands; go_simp; try with_reducible rfl)
      (try simp only [Act.put, List.setIfInBounds_toArray, List.set_cons_zero, List.set_cons_succ])
      refine wpAnyH_take (i := 3) (oi := ({ dst := some 49, op := Go.Op.indexAddr 32 (Go.Operand.tmp 47) (Go.Operand.tmp 48), type := 0, pos := "law.go:74", after := #[{ on := 1, ground := Go.Ground.data }, { on := 2, ground := Go.Ground.data }], guard := none } : Oper)) (v := ?_) rfl (by kernel_rfl) (by kernel_rfl) (by kernel_rfl) (fun _ _ _ h => h) (Or.inl ⟨by rfl, ?_⟩) (by assumption) ?_
      rotate_left
      focus (intro w' hSw; (try dsimp only at hSw); go_split_ands; go_simp; try with_reducible rfl)
      (try simp only [Act.put, List.setIfInBounds_toArray, List.set_cons_zero, List.set_cons_succ])
      refine wpAnyH_take (i := 4) (oi := ({ dst := some 50, op := Go.Op.load 9 (Go.Operand.tmp 49), type := 9, pos := "law.go:74", after := #[{ on := 3, ground := Go.Ground.data }], guard := none } : Oper)) (v := ?_) rfl (by kernel_rfl) (by kernel_rfl) (by kernel_rfl) (fun _ _ _ h => h) (Or.inl ⟨by rfl, ?_⟩) (by assumption) ?_
      rotate_left
      focus (intro w' hSw; (try dsimp only at hSw); go_split_ands; go_simp; try with_reducible rfl)
      (try simp only [Act.put, List.setIfInBounds_toArray, List.set_cons_zero, List.set_cons_succ])
      refine wpAnyH_take (i := 6) (oi := ({ dst := some 52, op := Go.Op.move (Go.Operand.tmp 3), type := 25, pos := "law.go:74", after := #[], guard := none } : Oper)) (v := ?_) rfl (by kernel_rfl) (by kernel_rfl) (by kernel_rfl) (fun _ _ _ h => h) (Or.inl ⟨by rfl, ?_⟩) (by assumption) ?_
      rotate_left
      focus (intro w' hSw; (try dsimp only at hSw); go_split_ands; go_simp; try with_reducible rfl)
      (try simp only [Act.put, List.setIfInBounds_toArray, List.set_cons_zero, List.set_cons_succ])
      refine wpAnyH_take (i := 7) (oi := ({ dst := some 53, op := Go.Op.move (Go.Operand.tmp 6), type := 32, pos := "law.go:74", after := #[], guard := none } : Oper)) (v := ?_) rfl (by kernel_rfl) (by kernel_rfl) (by kernel_rfl) (fun _ _ _ h => h) (Or.inl ⟨by rfl, ?_⟩) (by assumption) ?_
      rotate_left
      focus (intro w' hSw; (try dsimp only at hSw); go_split_ands; go_simp; try with_reducible rfl)
      (try simp only [Act.put, List.setIfInBounds_toArray, List.set_cons_zero, List.set_cons_succ])
      refine wpAnyH_take (i := 8) (oi := ({ dst := some 54, op := Go.Op.move (Go.Operand.tmp 7), type := 3, pos := "law.go:74", after := #[], guard := none } : Oper)) (v := ?_) rfl (by kernel_rfl) (by kernel_rfl) (by kernel_rfl) (fun _ _ _ h => h) (Or.inl ⟨by rfl, ?_⟩) (by assumption) ?_
      rotate_left
      focus (intro w' hSw; (try dsimp only at hSw); go_split_ands; go_simp; try with_reducible rfl)
      (try simp only [Act.put, List.setIfInBounds_toArray, List.set_cons_zero, List.set_cons_succ])
      refine wpAnyH_take (i := 9) (oi := ({ dst := some 55, op := Go.Op.indexAddr 32 (Go.Operand.tmp 53) (Go.Operand.tmp 54), type := 0, pos := "law.go:74", after := #[{ on := 7, ground := Go.Ground.data }, { on := 8, ground := Go.Ground.data }], guard := none } : Oper)) (v := ?_) rfl (by kernel_rfl) (by kernel_rfl) (by kernel_rfl) (fun _ _ _ h => h) (Or.inl ⟨by rfl, ?_⟩) (by assumption) ?_
      rotate_left
      focus (intro w' hSw; (try dsimp only at hSw); go_split_ands; go_simp; try with_reducible rfl)
      (try simp only [Act.put, List.setIfInBounds_toArray, List.set_cons_zero, List.set_cons_succ])
      refine wpAnyH_take (i := 10) (oi := ({ dst := some 56, op := Go.Op.load 9 (Go.Operand.tmp 55), type := 9, pos := "law.go:74", after := #[{ on := 9, ground := Go.Ground.data }], guard := none } : Oper)) (v := ?_) rfl (by kernel_rfl) (by kernel_rfl) (by kernel_rfl) (fun _ _ _ h => h) (Or.inl ⟨by rfl, ?_⟩) (by assumption) ?_
      rotate_left
      focus (intro w' hSw; (try dsimp only at hSw); go_split_ands; go_simp; try with_reducible rfl)
      (try simp only [Act.put, List.setIfInBounds_toArray, List.set_cons_zero, List.set_cons_succ])
      refine wpAnyH_ready (rs := [5]) (by kernel_rfl) (by simp) ?_
      refine AllReadyH.cons (o := ({ dst := some 51, op := Go.Op.call { callee := Go.Callee.value (Go.Operand.func 33), args := #[Go.Operand.tmp 46, Go.Operand.tmp 50], argTypes := #[25, 9] }, type := 32, pos := "law.go:74", after := #[{ on := 0, ground := Go.Ground.data }, { on := 4, ground := Go.Ground.data }], guard := none } : Oper)) rfl (fun K hK => ?_) AllReadyH.nil
      go_simp
      go_at_call 33; (with_reducible refine (HSU.out _ kd).mono ?_); rintro e w4 ⟨v4, rfl, o4, c4⟩; have k4 := kd.trans c4; obtain ⟨a4, d4, rfl⟩ := o4.form
      refine hK.out _ _ ?_ (fun hHeld => ?_)
      exact HNX.out _ k4
      clear hK K
      (try simp only [Act.put, List.setIfInBounds_toArray, List.set_cons_zero, List.set_cons_succ])
      refine wpAnyH_ready (rs := [11]) (by kernel_rfl) (by simp) ?_
      refine AllReadyH.cons (o := ({ dst := some 57, op := Go.Op.call { callee := Go.Callee.value (Go.Operand.func 34), args := #[Go.Operand.tmp 52, Go.Operand.tmp 56], argTypes := #[25, 9] }, type := 32, pos := "law.go:74", after := #[{ on := 6, ground := Go.Ground.data }, { on := 10, ground := Go.Ground.data }, { on := 5, ground := Go.Ground.chain }], guard := none } : Oper)) rfl (fun K hK => ?_) AllReadyH.nil
      go_simp
      go_at_call 34; (with_reducible refine (HTI.out _ k4).mono ?_); rintro e w5 ⟨v5, rfl, o5, c5⟩; have k5 := k4.trans c5; have o4 := o4.keepS c5; have hsz5 := (c4.trans c5).size; obtain ⟨a5, d5, rfl⟩ := o5.form
      refine hK.out _ _ ?_ (fun hHeld => ?_)
      exact HNX.out _ k5
      clear hK K
      (try simp only [Act.put, List.setIfInBounds_toArray, List.set_cons_zero, List.set_cons_succ])
      refine wpAnyH_ready (rs := [12]) (by kernel_rfl) (by simp) ?_
      refine AllReadyH.cons (o := ({ dst := some 58, op := Go.Op.call { callee := Go.Callee.builtin Go.Builtin.append, args := #[Go.Operand.tmp 51, Go.Operand.tmp 57], argTypes := #[32, 32] }, type := 32, pos := "law.go:74", after := #[{ on := 5, ground := Go.Ground.data }, { on := 11, ground := Go.Ground.data }, { on := 11, ground := Go.Ground.chain }], guard := none } : Oper)) rfl (fun K hK => ?_) AllReadyH.nil
      refine o4.catW o5 (.tmp 51) (.tmp 57) rfl rfl rfl (by omega) (by omega) hsz5 ?_
      intro v8 w8 o8 g8 b8
      have k8 := kd.trans ((c4.trans c5).grown g8 b8)
      have hform8 : ∃ a d, v8 = .slice a (W.length + I.length) d := (by obtain ⟨a, d, h⟩ := o8.form; exact ⟨a, d, by rw [h, List.length_append]⟩)
      obtain ⟨a8, d8, rfl⟩ := hform8
      refine hK.out _ _ ?_ (fun hHeld => ?_)
      exact HNX.out _ k8
      clear hK K
      (try simp only [Act.put, List.setIfInBounds_toArray, List.set_cons_zero, List.set_cons_succ])
      refine wpAnyH_take (i := 13) (oi := ({ dst := some 8, op := Go.Op.assign (Go.Operand.tmp 58), type := 32, pos := "law.go:74", after := #[{ on := 12, ground := Go.Ground.data }, { on := 12, ground := Go.Ground.chain }, { on := 0, ground := Go.Ground.phase }, { on := 1, ground := Go.Ground.phase }, { on := 2, ground := Go.Ground.phase }, { on := 3, ground := Go.Ground.phase }, { on := 4, ground := Go.Ground.phase }, { on := 5, ground := Go.Ground.phase }, { on := 6, ground := Go.Ground.phase }, { on := 7, ground := Go.Ground.phase }, { on := 8, ground := Go.Ground.phase }, { on := 9, ground := Go.Ground.phase }, { on := 10, ground := Go.Ground.phase }, { on := 11, ground := Go.Ground.phase }, { on := 12, ground := Go.Ground.phase }], guard := none } : Oper)) (v := ?_) rfl (by kernel_rfl) (by kernel_rfl) (by kernel_rfl) (fun _ _ _ h => h) (Or.inl ⟨by rfl, ?_⟩) (by assumption) ?_
      rotate_left
      focus (intro w' hSw; (try dsimp only at hSw); go_split_ands; go_simp; try with_reducible rfl)
      (try simp only [Act.put, List.setIfInBounds_toArray, List.set_cons_zero, List.set_cons_succ])
      refine wpAnyH_done (by kernel_rfl) ?_ _
      go_wp2_with fail
      have HALL : Hid (∀ w', Ch w8 w' → Ow 1 9 RS wr.drew.heap.size w' (.slice a8 (W.length + I.length) d8) (W ++ I)) := fun w' kk => by
        have := o8.keepS kk
        simpa using this
      have H8 : Hid (Ch w3 w8) := k8
      have hbd : W.length + I.length ≤ 3000 := by omega
      have hnA : (W ++ I).length = W.length + I.length := List.length_append
      clear o8 k8 kd sd hcr
      go_loopw [9] (fun i wr => ∃ k2 : Nat, k2 ≤ W.length + I.length ∧ i = .int .i64 k2 ∧ Ch w8 wr) (fun i _ => W.length + I.length - (intOf i).toNat)
      case atStart => exact ⟨0, Nat.zero_le _, rfl, Ch.refl _⟩
      case round =>
        obtain ⟨k2, hk2, rfl, hc2⟩ := hrel
        have k2c := H8.out.trans hc2
        by_cases hlt2 : k2 < W.length + I.length
        · obtain ⟨y, hy⟩ : ∃ y, (W ++ I)[k2]? = some y := ⟨_, List.getElem?_eq_getElem (by rw [hnA]; exact hlt2)⟩
          have hym := List.mem_of_getElem? hy
          obtain ⟨c, hc, hcl⟩ := HCX.out y hym
          obtain ⟨gA, csA, eA, _, _, eA2, pA, _⟩ := (HALL.out _ hc2).at hy
          have eA2 : csA = [Value.string y] := eA2
          subst eA eA2
          have pA := pA 0 _ rfl
          have offA : k2 * 1 + 0 = k2 := by omega
          rw [offA] at pA
          have hcls := HCL.out _ y c k2c hc
          have HAM : Hid (∀ m, m ∈ c.me → conc P x.n = true → (fst1 (dspF P m.n m.d) W).2 = none → m.st = true) := fun m hm => HALLD.out y c m hym hc hm
          have HK2 : Hid (k2 + 1 ≤ W.length + I.length) := (by omega : k2 + 1 ≤ W.length + I.length)
          clear hy hym offA
          go_wp2_with (first
            | (go_at_call 31; (with_reducible refine hcls.mono ?_); clear hcls; rintro e wc ⟨vi, vf, vm, rfl, ow, cc⟩; have OWc : Hid (OwC _ wc c vi vf vm) := ow; obtain ⟨ac3, dc3, rfl⟩ := Ow.form ow.i; obtain ⟨ac4, dc4, rfl⟩ := Ow.form ow.f; obtain ⟨ac5, dc5, rfl⟩ := Ow.form ow.m; clear ow; have Tc := Bo.new (hc2.trans cc) #[.string ⟨#[]⟩, .string ⟨#[]⟩, .bool false, .bool false, .slice none 0 0, .slice none 0 0, .slice none 0 0] 41)
            | (refine wpList_store_row rfl 41 (.tmp 10) (.tmp 72) rfl wc.heap.size #[.string c.n, .string c.s, .bool c.it, .bool c.ab, .slice ac3 c.im.length dc3, .slice ac4 c.fs.length dc4, .slice ac5 c.me.length dc5] rfl rfl 41 _ Tc.b infoC rfl (one7 _ _ _ _ _ _ _ _ _ _ _ _ _) ?_; have Tc := Tc.setRow #[.string c.n, .string c.s, .bool c.it, .bool c.ab, .slice ac3 c.im.length dc3, .slice ac4 c.fs.length dc4, .slice ac5 c.me.length dc5]; have kc : Ch wc ((wc.alloc (.cells #[.string ⟨#[]⟩, .string ⟨#[]⟩, .bool false, .bool false, .slice none 0 0, .slice none 0 0, .slice none 0 0] 41)).setRow wc.heap.size #[.string c.n, .string c.s, .bool c.it, .bool c.ab, .slice ac3 c.im.length dc3, .slice ac4 c.fs.length dc4, .slice ac5 c.me.length dc5]) := ((Ch.refl wc).alloc (.cells #[.string ⟨#[]⟩, .string ⟨#[]⟩, .bool false, .bool false, .slice none 0 0, .slice none 0 0, .slice none 0 0] 41)).setRow wc.heap.size #[.string c.n, .string c.s, .bool c.it, .bool c.ab, .slice ac3 c.im.length dc3, .slice ac4 c.fs.length dc4, .slice ac5 c.me.length dc5] (Nat.le_refl _))
            | fail)
          generalize ((wc.alloc (.cells #[.string ⟨#[]⟩, .string ⟨#[]⟩, .bool false, .bool false, .slice none 0 0, .slice none 0 0, .slice none 0 0] 41)).setRow wc.heap.size #[.string c.n, .string c.s, .bool c.it, .bool c.ab, .slice ac3 c.im.length dc3, .slice ac4 c.fs.length dc4, .slice ac5 c.me.length dc5]) = wz at *
          have HOD : Hid (OwC _ wz c _ _ _) := OWc.out.keep kc
          have HTc : Hid (Bo w8 wc.heap.size 41 #[.string c.n, .string c.s, .bool c.it, .bool c.ab, .slice ac3 c.im.length dc3, .slice ac4 c.fs.length dc4, .slice ac5 c.me.length dc5] wz) := Tc
          have HZ : Hid (Ch w8 wz) := Tc.ch
          have d6 := Tc.c 6 rfl
          clear OWc kc cc Tc pA hc2 k2c
          go_loopw [12] (fun i wr => ∃ j : Nat, j ≤ c.me.length ∧ i = .int .i64 j ∧ Ch wz wr) (fun i _ => c.me.length - (intOf i).toNat)
          case atStart => exact ⟨0, Nat.zero_le _, rfl, Ch.refl _⟩
          case round =>
            obtain ⟨j, hj, rfl, hc3⟩ := hrel
            clear d6
            have d6 := (HTc.out.call hc3).c 6 rfl
            by_cases hlt3 : j < c.me.length
            · obtain ⟨m, hm⟩ : ∃ m, c.me[j]? = some m := ⟨_, List.getElem?_eq_getElem hlt3⟩
              have HMM : Hid (conc P x.n = true → (fst1 (dspF P m.n m.d) W).2 = none → m.st = true) := HAM.out m (List.mem_of_getElem? hm)
              obtain ⟨gm, csm, e1, _, _, ⟨vcm, vhm, e2, om1, om2⟩, q, _⟩ := (Ow.keep HOD.out.m (fun _ _ x => x.keep hc3) hc3).at hm
              subst e1 e2
              obtain ⟨am1, cm1, rfl⟩ := om1.form
              obtain ⟨am2, cm2, rfl⟩ := om2.form
              have p0 := q 0 _ rfl
              rw [Nat.add_zero] at p0
              have p1 := q 1 _ rfl
              have p2 := q 2 _ rfl
              have p3 := q 3 _ rfl
              have p4 := q 4 _ rfl
              have p5 := q 5 _ rfl
              have p6 := q 6 _ rfl
              have p7 := q 7 _ rfl
              have HJ : Hid (j + 1 ≤ c.me.length) := (by omega : j + 1 ≤ c.me.length)
              have kw : Ch w3 wr := (H8.out.trans HZ.out).trans hc3
              have HDM : Hid (∀ w', Ch w3 w' → Calls Tryz.prog 69 #[.pointer (some ⟨gp, 0, none⟩), .string x.n, .string m.n, .string m.d] w' fun e w2 => ∃ v, e = .returned (.tuple #[.string (fst1 (dspF P m.n m.d) W).1, v, .bool (fst1 (dspF P m.n m.d) W).2.isSome]) ∧ Mw w' w2 v ((fst1 (dspF P m.n m.d) W).2.getD noM) ∧ Ch w' w2) := fun w' kk => HDI.out w' m.n m.d kk
              obtain ⟨o, od, hod⟩ : ∃ o od, fst1 (dspF P m.n m.d) W = (o, od) := ⟨_, _, rfl⟩
              rw [hod] at HMM HDM
              dsimp only at HMM HDM
              have T13 := Bo.new hc3 #[.string ⟨#[]⟩, .string ⟨#[]⟩, .bool false, .bool false, .int .i64 0, .int .i64 0, .slice none 0 0, .slice none 0 0] 66
              have HK3 : Hid (Ch w3 wz) := H8.out.trans HZ.out
              clear q om1 om2 hm
              cases od with
              | some d =>
                obtain ⟨ho, hst, hab, hdn, hdd⟩ := dsp_is hod
                have e0 : (some d).getD noM = d := rfl
                rw [e0] at HDM
                have hn1 : (d.n.toList != m.n.toList) = false := by rw [hdn]; simp
                have hn2 : (d.d.toList != m.d.toList) = false := by rw [hdd]; simp
                have hn3 : (d.n.toList == m.n.toList) = true := by rw [hdn]; simp
                have hn4 : (d.d.toList == m.d.toList) = true := by rw [hdd]; simp
                clear e0 hdn hdd hod
                go_wp2_with (first
                  | (refine wpList_store_row rfl 66 (.tmp 13) (.tmp 85) rfl wr.heap.size #[.string m.n, .string m.d, .bool m.st, .bool m.ab, .int .i64 m.sk, .int .i64 m.lo, .slice am1 m.code.length cm1, .slice am2 m.hs.length cm2] rfl rfl 66 _ T13.b infoM rfl (one8 _ _ _ _ _ _ _ _ _ _ _ _) ?_; have T13 := T13.setRow #[.string m.n, .string m.d, .bool m.st, .bool m.ab, .int .i64 m.sk, .int .i64 m.lo, .slice am1 m.code.length cm1, .slice am2 m.hs.length cm2])
                  | fail)
                have T13u := T13
                have T13 := T13.call (Ch.refl _).drew
                have s0 := HNX.out _ (HK3.out.trans T13.ch)
                refine wp_region_held_drew (S := fun w' => w'.cell? ⟨gn, k, none⟩ = some (.string x.n) ∧ w'.cell? ⟨wr.heap.size, 0, none⟩ = some (.string m.n) ∧ w'.cell? ⟨wr.heap.size, 1, none⟩ = some (.string m.d)) (by kernel_rfl) (by exact ⟨s0, T13.c 0 rfl, T13.c 1 rfl⟩) (fun hHeld => ?_)
                refine wpAnyH_take (i := 0) (oi := ({ dst := some 87, op := Go.Op.move (Go.Operand.tmp 3), type := 25, pos := "law.go:79", after := #[], guard := none } : Oper)) (v := ?_) rfl (by kernel_rfl) (by kernel_rfl) (by kernel_rfl) (fun _ _ _ h => h) (Or.inl ⟨by rfl, ?_⟩) (by assumption) ?_
                rotate_left
                focus (intro w' hSw; (try dsimp only at hSw); go_split_ands; go_simp; try with_reducible rfl)
                (try simp only [Act.put, List.setIfInBounds_toArray, List.set_cons_zero, List.set_cons_succ])
                refine wpAnyH_take (i := 1) (oi := ({ dst := some 88, op := Go.Op.move (Go.Operand.tmp 6), type := 32, pos := "law.go:79", after := #[], guard := none } : Oper)) (v := ?_) rfl (by kernel_rfl) (by kernel_rfl) (by kernel_rfl) (fun _ _ _ h => h) (Or.inl ⟨by rfl, ?_⟩) (by assumption) ?_
                rotate_left
                focus (intro w' hSw; (try dsimp only at hSw); go_split_ands; go_simp; try with_reducible rfl)
                (try simp only [Act.put, List.setIfInBounds_toArray, List.set_cons_zero, List.set_cons_succ])
                refine wpAnyH_take (i := 2) (oi := ({ dst := some 89, op := Go.Op.move (Go.Operand.tmp 7), type := 3, pos := "law.go:79", after := #[], guard := none } : Oper)) (v := ?_) rfl (by kernel_rfl) (by kernel_rfl) (by kernel_rfl) (fun _ _ _ h => h) (Or.inl ⟨by rfl, ?_⟩) (by assumption) ?_
                rotate_left
                focus (intro w' hSw; (try dsimp only at hSw); go_split_ands; go_simp; try with_reducible rfl)
                (try simp only [Act.put, List.setIfInBounds_toArray, List.set_cons_zero, List.set_cons_succ])
                refine wpAnyH_take (i := 3) (oi := ({ dst := some 90, op := Go.Op.indexAddr 32 (Go.Operand.tmp 88) (Go.Operand.tmp 89), type := 0, pos := "law.go:79", after := #[{ on := 1, ground := Go.Ground.data }, { on := 2, ground := Go.Ground.data }], guard := none } : Oper)) (v := ?_) rfl (by kernel_rfl) (by kernel_rfl) (by kernel_rfl) (fun _ _ _ h => h) (Or.inl ⟨by rfl, ?_⟩) (by assumption) ?_
                rotate_left
                focus (intro w' hSw; (try dsimp only at hSw); go_split_ands; go_simp; try with_reducible rfl)
                (try simp only [Act.put, List.setIfInBounds_toArray, List.set_cons_zero, List.set_cons_succ])
                refine wpAnyH_take (i := 4) (oi := ({ dst := some 91, op := Go.Op.load 9 (Go.Operand.tmp 90), type := 9, pos := "law.go:79", after := #[{ on := 3, ground := Go.Ground.data }], guard := none } : Oper)) (v := ?_) rfl (by kernel_rfl) (by kernel_rfl) (by kernel_rfl) (fun _ _ _ h => h) (Or.inl ⟨by rfl, ?_⟩) (by assumption) ?_
                rotate_left
                focus (intro w' hSw; (try dsimp only at hSw); go_split_ands; go_simp; try with_reducible rfl)
                (try simp only [Act.put, List.setIfInBounds_toArray, List.set_cons_zero, List.set_cons_succ])
                refine wpAnyH_take (i := 5) (oi := ({ dst := some 92, op := Go.Op.fieldAddr 66 (Go.Operand.tmp 13) 0, type := 0, pos := "law.go:79", after := #[], guard := none } : Oper)) (v := ?_) rfl (by kernel_rfl) (by kernel_rfl) (by kernel_rfl) (fun _ _ _ h => h) (Or.inl ⟨by rfl, ?_⟩) (by assumption) ?_
                rotate_left
                focus (intro w' hSw; (try dsimp only at hSw); go_split_ands; go_simp; try with_reducible rfl)
                (try simp only [Act.put, List.setIfInBounds_toArray, List.set_cons_zero, List.set_cons_succ])
                refine wpAnyH_take (i := 6) (oi := ({ dst := some 93, op := Go.Op.load 9 (Go.Operand.tmp 92), type := 9, pos := "law.go:79", after := #[{ on := 5, ground := Go.Ground.data }], guard := none } : Oper)) (v := ?_) rfl (by kernel_rfl) (by kernel_rfl) (by kernel_rfl) (fun _ _ _ h => h) (Or.inl ⟨by rfl, ?_⟩) (by assumption) ?_
                rotate_left
                focus (intro w' hSw; (try dsimp only at hSw); go_split_ands; go_simp; try with_reducible rfl)
                (try simp only [Act.put, List.setIfInBounds_toArray, List.set_cons_zero, List.set_cons_succ])
                refine wpAnyH_take (i := 7) (oi := ({ dst := some 94, op := Go.Op.fieldAddr 66 (Go.Operand.tmp 13) 1, type := 0, pos := "law.go:79", after := #[], guard := none } : Oper)) (v := ?_) rfl (by kernel_rfl) (by kernel_rfl) (by kernel_rfl) (fun _ _ _ h => h) (Or.inl ⟨by rfl, ?_⟩) (by assumption) ?_
                rotate_left
                focus (intro w' hSw; (try dsimp only at hSw); go_split_ands; go_simp; try with_reducible rfl)
                (try simp only [Act.put, List.setIfInBounds_toArray, List.set_cons_zero, List.set_cons_succ])
                refine wpAnyH_take (i := 8) (oi := ({ dst := some 95, op := Go.Op.load 9 (Go.Operand.tmp 94), type := 9, pos := "law.go:79", after := #[{ on := 7, ground := Go.Ground.data }], guard := none } : Oper)) (v := ?_) rfl (by kernel_rfl) (by kernel_rfl) (by kernel_rfl) (fun _ _ _ h => h) (Or.inl ⟨by rfl, ?_⟩) (by assumption) ?_
                rotate_left
                focus (intro w' hSw; (try dsimp only at hSw); go_split_ands; go_simp; try with_reducible rfl)
                (try simp only [Act.put, List.setIfInBounds_toArray, List.set_cons_zero, List.set_cons_succ])
                refine wpAnyH_ready (rs := [9, 14]) (by kernel_rfl) (by simp) ?_
                refine (AllReadyH.cons (o := ({ dst := some 96, op := Go.Op.call { callee := Go.Callee.value (Go.Operand.func 69), args := #[Go.Operand.tmp 87, Go.Operand.tmp 91, Go.Operand.tmp 93, Go.Operand.tmp 95], argTypes := #[25, 9, 9, 9] }, type := 93, pos := "law.go:79", after := #[{ on := 0, ground := Go.Ground.data }, { on := 4, ground := Go.Ground.data }, { on := 6, ground := Go.Ground.data }, { on := 8, ground := Go.Ground.data }], guard := none } : Oper)) rfl (fun K hK => ?_) (AllReadyH.cons (o := ({ dst := some 15, op := Go.Op.alloc 66, type := 0, pos := "law.go:79", after := #[], guard := none } : Oper)) rfl (fun K hK => ?_) AllReadyH.nil))
                · go_simp
                  go_at_call 69; (with_reducible refine (HDM.out _ (HK3.out.trans T13.ch)).mono ?_); rintro e wd ⟨vd, rfl, ⟨vcd, vhd, rfl, od1, od2⟩, cd⟩; have T13 := T13.call cd; obtain ⟨ad1, cd1, rfl⟩ := od1.form; obtain ⟨ad2, cd2, rfl⟩ := od2.form; unfold mV
                  refine hK.out _ _ ?_ (fun hHeld => ?_)
                  exact ⟨HNX.out _ (HK3.out.trans T13.ch), T13.c 0 rfl, T13.c 1 rfl⟩
                  clear hK K
                  (try simp only [Act.put, List.setIfInBounds_toArray, List.set_cons_zero, List.set_cons_succ])
                  refine wpAnyH_take (i := 10) (oi := ({ dst := some 86, op := Go.Op.move (Go.Operand.tmp 96), type := 93, pos := "law.go:79", after := #[{ on := 9, ground := Go.Ground.data }], guard := none } : Oper)) (v := ?_) rfl (by kernel_rfl) (by kernel_rfl) (by kernel_rfl) (fun _ _ _ h => h) (Or.inl ⟨by rfl, ?_⟩) (by assumption) ?_
                  rotate_left
                  focus (intro w' hSw; (try dsimp only at hSw); go_split_ands; go_simp; try with_reducible rfl)
                  (try simp only [Act.put, List.setIfInBounds_toArray, List.set_cons_zero, List.set_cons_succ])
                  refine wpAnyH_take (i := 11) (oi := ({ dst := some 97, op := Go.Op.extract (Go.Operand.tmp 86) 0, type := 9, pos := "law.go:79", after := #[{ on := 10, ground := Go.Ground.data }], guard := none } : Oper)) (v := ?_) rfl (by kernel_rfl) (by kernel_rfl) (by kernel_rfl) (fun _ _ _ h => h) (Or.inl ⟨by rfl, ?_⟩) (by assumption) ?_
                  rotate_left
                  focus (intro w' hSw; (try dsimp only at hSw); go_split_ands; go_simp; try with_reducible rfl)
                  (try simp only [Act.put, List.setIfInBounds_toArray, List.set_cons_zero, List.set_cons_succ])
                  refine wpAnyH_take (i := 12) (oi := ({ dst := some 98, op := Go.Op.extract (Go.Operand.tmp 86) 1, type := 66, pos := "law.go:79", after := #[{ on := 10, ground := Go.Ground.data }, { on := 15, ground := Go.Ground.gcOnly Go.Departure.lateStores }], guard := none } : Oper)) (v := ?_) rfl (by kernel_rfl) (by kernel_rfl) (by kernel_rfl) (fun _ _ _ h => h) (Or.inl ⟨by rfl, ?_⟩) (by assumption) ?_
                  rotate_left
                  focus (intro w' hSw; (try dsimp only at hSw); go_split_ands; go_simp; try with_reducible rfl)
                  (try simp only [Act.put, List.setIfInBounds_toArray, List.set_cons_zero, List.set_cons_succ])
                  refine wpAnyH_take (i := 13) (oi := ({ dst := some 99, op := Go.Op.extract (Go.Operand.tmp 86) 2, type := 4, pos := "law.go:79", after := #[{ on := 10, ground := Go.Ground.data }, { on := 16, ground := Go.Ground.gcOnly Go.Departure.lateStores }], guard := none } : Oper)) (v := ?_) rfl (by kernel_rfl) (by kernel_rfl) (by kernel_rfl) (fun _ _ _ h => h) (Or.inl ⟨by rfl, ?_⟩) (by assumption) ?_
                  rotate_left
                  focus (intro w' hSw; (try dsimp only at hSw); go_split_ands; go_simp; try with_reducible rfl)
                  (try simp only [Act.put, List.setIfInBounds_toArray, List.set_cons_zero, List.set_cons_succ])
                  refine wpAnyH_ready (rs := [14]) (by kernel_rfl) (by simp) ?_
                  refine AllReadyH.cons (o := ({ dst := some 15, op := Go.Op.alloc 66, type := 0, pos := "law.go:79", after := #[], guard := none } : Oper)) rfl (fun K hK => ?_) AllReadyH.nil
                  go_simp
                  have T15 := Bo.new T13.ch #[.string ⟨#[]⟩, .string ⟨#[]⟩, .bool false, .bool false, .int .i64 0, .int .i64 0, .slice none 0 0, .slice none 0 0] 66
                  have hlt15 := T13.lt
                  have T13 := T13.call ((Ch.refl _).alloc (.cells #[.string ⟨#[]⟩, .string ⟨#[]⟩, .bool false, .bool false, .int .i64 0, .int .i64 0, .slice none 0 0, .slice none 0 0] 66))
                  refine hK.out _ _ ?_ (fun hHeld => ?_)
                  exact ⟨HNX.out _ (HK3.out.trans T13.ch), T13.c 0 rfl, T13.c 1 rfl⟩
                  clear hK K
                  (try simp only [Act.put, List.setIfInBounds_toArray, List.set_cons_zero, List.set_cons_succ])
                  refine wpAnyH_take (i := 15) (oi := ({ dst := some 14, op := Go.Op.assign (Go.Operand.tmp 97), type := 9, pos := "law.go:79", after := #[{ on := 11, ground := Go.Ground.data }, { on := 9, ground := Go.Ground.chain }, { on := 0, ground := Go.Ground.phase }, { on := 1, ground := Go.Ground.phase }, { on := 2, ground := Go.Ground.phase }, { on := 3, ground := Go.Ground.phase }, { on := 4, ground := Go.Ground.phase }, { on := 5, ground := Go.Ground.phase }, { on := 6, ground := Go.Ground.phase }, { on := 7, ground := Go.Ground.phase }, { on := 8, ground := Go.Ground.phase }, { on := 9, ground := Go.Ground.phase }, { on := 10, ground := Go.Ground.phase }, { on := 11, ground := Go.Ground.phase }, { on := 12, ground := Go.Ground.textOnly Go.Departure.lateStores }, { on := 13, ground := Go.Ground.textOnly Go.Departure.lateStores }, { on := 14, ground := Go.Ground.phase }], guard := none } : Oper)) (v := ?_) rfl (by kernel_rfl) (by kernel_rfl) (by kernel_rfl) (fun _ _ _ h => h) (Or.inl ⟨by rfl, ?_⟩) (by assumption) ?_
                  rotate_left
                  focus (intro w' hSw; (try dsimp only at hSw); go_split_ands; go_simp; try with_reducible rfl)
                  (try simp only [Act.put, List.setIfInBounds_toArray, List.set_cons_zero, List.set_cons_succ])
                  refine wpAnyH_ready (rs := [16]) (by kernel_rfl) (by simp) ?_
                  refine AllReadyH.cons (o := ({ dst := none, op := Go.Op.store 66 (Go.Operand.tmp 15) (Go.Operand.tmp 98), type := 0, pos := "law.go:79", after := #[{ on := 14, ground := Go.Ground.data }, { on := 12, ground := Go.Ground.data }, { on := 15, ground := Go.Ground.chain }, { on := 0, ground := Go.Ground.phase }, { on := 1, ground := Go.Ground.phase }, { on := 2, ground := Go.Ground.phase }, { on := 3, ground := Go.Ground.phase }, { on := 4, ground := Go.Ground.phase }, { on := 5, ground := Go.Ground.phase }, { on := 6, ground := Go.Ground.phase }, { on := 7, ground := Go.Ground.phase }, { on := 8, ground := Go.Ground.phase }, { on := 9, ground := Go.Ground.phase }, { on := 10, ground := Go.Ground.phase }, { on := 11, ground := Go.Ground.phase }, { on := 12, ground := Go.Ground.phase }, { on := 13, ground := Go.Ground.textOnly Go.Departure.lateStores }, { on := 14, ground := Go.Ground.phase }, { on := 15, ground := Go.Ground.phase }], guard := none } : Oper)) rfl (fun K hK => ?_) AllReadyH.nil
                  refine wp_store_row 66 (.tmp 15) (.tmp 98) rfl _ #[.string d.n, .string d.d, .bool false, .bool false, .int .i64 d.sk, .int .i64 d.lo, .slice ad1 d.code.length cd1, .slice ad2 d.hs.length cd2] rfl rfl 66 _ T15.b infoM rfl (one8 _ _ _ _ _ _ _ _ _ _ _ _) ?_
                  have T15 := T15.setRow #[.string d.n, .string d.d, .bool false, .bool false, .int .i64 d.sk, .int .i64 d.lo, .slice ad1 d.code.length cd1, .slice ad2 d.hs.length cd2]
                  have T13 := T13.farRow #[.string d.n, .string d.d, .bool false, .bool false, .int .i64 d.sk, .int .i64 d.lo, .slice ad1 d.code.length cd1, .slice ad2 d.hs.length cd2] (Nat.ne_of_lt hlt15) T15.le
                  refine hK.out _ _ ?_ (fun hHeld => ?_)
                  exact ⟨HNX.out _ (HK3.out.trans T13.ch), T13.c 0 rfl, T13.c 1 rfl⟩
                  clear hK K
                  (try simp only [Act.put])
                  refine wpAnyH_take (i := 17) (oi := ({ dst := some 16, op := Go.Op.assign (Go.Operand.tmp 99), type := 4, pos := "law.go:79", after := #[{ on := 13, ground := Go.Ground.data }, { on := 16, ground := Go.Ground.chain }, { on := 0, ground := Go.Ground.phase }, { on := 1, ground := Go.Ground.phase }, { on := 2, ground := Go.Ground.phase }, { on := 3, ground := Go.Ground.phase }, { on := 4, ground := Go.Ground.phase }, { on := 5, ground := Go.Ground.phase }, { on := 6, ground := Go.Ground.phase }, { on := 7, ground := Go.Ground.phase }, { on := 8, ground := Go.Ground.phase }, { on := 9, ground := Go.Ground.phase }, { on := 10, ground := Go.Ground.phase }, { on := 11, ground := Go.Ground.phase }, { on := 12, ground := Go.Ground.phase }, { on := 13, ground := Go.Ground.phase }, { on := 14, ground := Go.Ground.phase }, { on := 15, ground := Go.Ground.phase }, { on := 16, ground := Go.Ground.phase }], guard := none } : Oper)) (v := ?_) rfl (by kernel_rfl) (by kernel_rfl) (by kernel_rfl) (fun _ _ _ h => h) (Or.inl ⟨by rfl, ?_⟩) (by assumption) ?_
                  rotate_left
                  focus (intro w' hSw; (try dsimp only at hSw); go_split_ands; go_simp; try with_reducible rfl)
                  (try simp only [Act.put, List.setIfInBounds_toArray, List.set_cons_zero, List.set_cons_succ])
                  refine wpAnyH_done (by kernel_rfl) ?_ _
                  have z0 := T15.c 0 rfl
                  have z1 := T15.c 1 rfl
                  have z2 := T15.c 2 rfl
                  have z3 := T15.c 3 rfl
                  have y0 := T13.c 0 rfl
                  have y1 := T13.c 1 rfl
                  have s1 := HNX.out _ (HK3.out.trans T13.ch)
                  go_wp2_with (first
                    | (go_at_call 33; (with_reducible refine (HSU.out _ (HK3.out.trans T13.ch)).mono ?_); rintro e wf ⟨vf, rfl, of, cf⟩; have kf := T13.ch.trans cf; have hhas := HHAS.out wf vf o of.sl ho; obtain ⟨af, df, rfl⟩ := of.form)
                    | (go_at_call 39; (with_reducible refine hhas.mono ?_); clear hhas; rintro e wg ⟨rfl, hw⟩; have hw := hw.symm; subst hw)
                    | fail)
                  have hj := HJ.out
                  go_roundw
                  case rel => exact ⟨j + 1, HJ.out, by go_num, kf⟩
                  case measure => simp [intOf]; omega
                · go_simp
                  have T15 := (Bo.new T13u.ch #[.string ⟨#[]⟩, .string ⟨#[]⟩, .bool false, .bool false, .int .i64 0, .int .i64 0, .slice none 0 0, .slice none 0 0] 66).call (Ch.refl _).drew
                  have e15 : ((wr.alloc (.cells #[.string ⟨#[]⟩, .string ⟨#[]⟩, .bool false, .bool false, .int .i64 0, .int .i64 0, .slice none 0 0, .slice none 0 0] 66)).setRow wr.heap.size #[.string m.n, .string m.d, .bool m.st, .bool m.ab, .int .i64 m.sk, .int .i64 m.lo, .slice am1 m.code.length cm1, .slice am2 m.hs.length cm2]).heap.size = wr.heap.size + 1 := by simp
                  rw [e15] at T15
                  have hlt15 : wr.heap.size < wr.heap.size + 1 := Nat.lt_succ_self _
                  have T13 := (T13u.call ((Ch.refl _).alloc (.cells #[.string ⟨#[]⟩, .string ⟨#[]⟩, .bool false, .bool false, .int .i64 0, .int .i64 0, .slice none 0 0, .slice none 0 0] 66))).call (Ch.refl _).drew
                  refine hK.out _ _ ?_ (fun hHeld => ?_)
                  exact ⟨HNX.out _ (HK3.out.trans T13.ch), T13.c 0 rfl, T13.c 1 rfl⟩
                  clear hK K
                  (try simp only [Act.put, List.setIfInBounds_toArray, List.set_cons_zero, List.set_cons_succ])
                  refine wpAnyH_ready (rs := [9]) (by kernel_rfl) (by simp) ?_
                  refine AllReadyH.cons (o := ({ dst := some 96, op := Go.Op.call { callee := Go.Callee.value (Go.Operand.func 69), args := #[Go.Operand.tmp 87, Go.Operand.tmp 91, Go.Operand.tmp 93, Go.Operand.tmp 95], argTypes := #[25, 9, 9, 9] }, type := 93, pos := "law.go:79", after := #[{ on := 0, ground := Go.Ground.data }, { on := 4, ground := Go.Ground.data }, { on := 6, ground := Go.Ground.data }, { on := 8, ground := Go.Ground.data }], guard := none } : Oper)) rfl (fun K hK => ?_) AllReadyH.nil
                  go_simp
                  go_at_call 69; (with_reducible refine (HDM.out _ (HK3.out.trans T13.ch)).mono ?_); rintro e wd ⟨vd, rfl, ⟨vcd, vhd, rfl, od1, od2⟩, cd⟩; have T13 := T13.call cd; have T15 := T15.call cd; obtain ⟨ad1, cd1, rfl⟩ := od1.form; obtain ⟨ad2, cd2, rfl⟩ := od2.form; unfold mV
                  refine hK.out _ _ ?_ (fun hHeld => ?_)
                  exact ⟨HNX.out _ (HK3.out.trans T13.ch), T13.c 0 rfl, T13.c 1 rfl⟩
                  clear hK K
                  (try simp only [Act.put, List.setIfInBounds_toArray, List.set_cons_zero, List.set_cons_succ])
                  refine wpAnyH_take (i := 10) (oi := ({ dst := some 86, op := Go.Op.move (Go.Operand.tmp 96), type := 93, pos := "law.go:79", after := #[{ on := 9, ground := Go.Ground.data }], guard := none } : Oper)) (v := ?_) rfl (by kernel_rfl) (by kernel_rfl) (by kernel_rfl) (fun _ _ _ h => h) (Or.inl ⟨by rfl, ?_⟩) (by assumption) ?_
                  rotate_left
                  focus (intro w' hSw; (try dsimp only at hSw); go_split_ands; go_simp; try with_reducible rfl)
                  (try simp only [Act.put, List.setIfInBounds_toArray, List.set_cons_zero, List.set_cons_succ])
                  refine wpAnyH_take (i := 11) (oi := ({ dst := some 97, op := Go.Op.extract (Go.Operand.tmp 86) 0, type := 9, pos := "law.go:79", after := #[{ on := 10, ground := Go.Ground.data }], guard := none } : Oper)) (v := ?_) rfl (by kernel_rfl) (by kernel_rfl) (by kernel_rfl) (fun _ _ _ h => h) (Or.inl ⟨by rfl, ?_⟩) (by assumption) ?_
                  rotate_left
                  focus (intro w' hSw; (try dsimp only at hSw); go_split_ands; go_simp; try with_reducible rfl)
                  (try simp only [Act.put, List.setIfInBounds_toArray, List.set_cons_zero, List.set_cons_succ])
                  refine wpAnyH_take (i := 12) (oi := ({ dst := some 98, op := Go.Op.extract (Go.Operand.tmp 86) 1, type := 66, pos := "law.go:79", after := #[{ on := 10, ground := Go.Ground.data }, { on := 15, ground := Go.Ground.gcOnly Go.Departure.lateStores }], guard := none } : Oper)) (v := ?_) rfl (by kernel_rfl) (by kernel_rfl) (by kernel_rfl) (fun _ _ _ h => h) (Or.inl ⟨by rfl, ?_⟩) (by assumption) ?_
                  rotate_left
                  focus (intro w' hSw; (try dsimp only at hSw); go_split_ands; go_simp; try with_reducible rfl)
                  (try simp only [Act.put, List.setIfInBounds_toArray, List.set_cons_zero, List.set_cons_succ])
                  refine wpAnyH_take (i := 13) (oi := ({ dst := some 99, op := Go.Op.extract (Go.Operand.tmp 86) 2, type := 4, pos := "law.go:79", after := #[{ on := 10, ground := Go.Ground.data }, { on := 16, ground := Go.Ground.gcOnly Go.Departure.lateStores }], guard := none } : Oper)) (v := ?_) rfl (by kernel_rfl) (by kernel_rfl) (by kernel_rfl) (fun _ _ _ h => h) (Or.inl ⟨by rfl, ?_⟩) (by assumption) ?_
                  rotate_left
                  focus (intro w' hSw; (try dsimp only at hSw); go_split_ands; go_simp; try with_reducible rfl)
                  (try simp only [Act.put, List.setIfInBounds_toArray, List.set_cons_zero, List.set_cons_succ])
                  refine wpAnyH_take (i := 15) (oi := ({ dst := some 14, op := Go.Op.assign (Go.Operand.tmp 97), type := 9, pos := "law.go:79", after := #[{ on := 11, ground := Go.Ground.data }, { on := 9, ground := Go.Ground.chain }, { on := 0, ground := Go.Ground.phase }, { on := 1, ground := Go.Ground.phase }, { on := 2, ground := Go.Ground.phase }, { on := 3, ground := Go.Ground.phase }, { on := 4, ground := Go.Ground.phase }, { on := 5, ground := Go.Ground.phase }, { on := 6, ground := Go.Ground.phase }, { on := 7, ground := Go.Ground.phase }, { on := 8, ground := Go.Ground.phase }, { on := 9, ground := Go.Ground.phase }, { on := 10, ground := Go.Ground.phase }, { on := 11, ground := Go.Ground.phase }, { on := 12, ground := Go.Ground.textOnly Go.Departure.lateStores }, { on := 13, ground := Go.Ground.textOnly Go.Departure.lateStores }, { on := 14, ground := Go.Ground.phase }], guard := none } : Oper)) (v := ?_) rfl (by kernel_rfl) (by kernel_rfl) (by kernel_rfl) (fun _ _ _ h => h) (Or.inl ⟨by rfl, ?_⟩) (by assumption) ?_
                  rotate_left
                  focus (intro w' hSw; (try dsimp only at hSw); go_split_ands; go_simp; try with_reducible rfl)
                  (try simp only [Act.put, List.setIfInBounds_toArray, List.set_cons_zero, List.set_cons_succ])
                  refine wpAnyH_ready (rs := [16]) (by kernel_rfl) (by simp) ?_
                  refine AllReadyH.cons (o := ({ dst := none, op := Go.Op.store 66 (Go.Operand.tmp 15) (Go.Operand.tmp 98), type := 0, pos := "law.go:79", after := #[{ on := 14, ground := Go.Ground.data }, { on := 12, ground := Go.Ground.data }, { on := 15, ground := Go.Ground.chain }, { on := 0, ground := Go.Ground.phase }, { on := 1, ground := Go.Ground.phase }, { on := 2, ground := Go.Ground.phase }, { on := 3, ground := Go.Ground.phase }, { on := 4, ground := Go.Ground.phase }, { on := 5, ground := Go.Ground.phase }, { on := 6, ground := Go.Ground.phase }, { on := 7, ground := Go.Ground.phase }, { on := 8, ground := Go.Ground.phase }, { on := 9, ground := Go.Ground.phase }, { on := 10, ground := Go.Ground.phase }, { on := 11, ground := Go.Ground.phase }, { on := 12, ground := Go.Ground.phase }, { on := 13, ground := Go.Ground.textOnly Go.Departure.lateStores }, { on := 14, ground := Go.Ground.phase }, { on := 15, ground := Go.Ground.phase }], guard := none } : Oper)) rfl (fun K hK => ?_) AllReadyH.nil
                  refine wp_store_row 66 (.tmp 15) (.tmp 98) rfl _ #[.string d.n, .string d.d, .bool false, .bool false, .int .i64 d.sk, .int .i64 d.lo, .slice ad1 d.code.length cd1, .slice ad2 d.hs.length cd2] rfl rfl 66 _ T15.b infoM rfl (one8 _ _ _ _ _ _ _ _ _ _ _ _) ?_
                  have T15 := T15.setRow #[.string d.n, .string d.d, .bool false, .bool false, .int .i64 d.sk, .int .i64 d.lo, .slice ad1 d.code.length cd1, .slice ad2 d.hs.length cd2]
                  have T13 := T13.farRow #[.string d.n, .string d.d, .bool false, .bool false, .int .i64 d.sk, .int .i64 d.lo, .slice ad1 d.code.length cd1, .slice ad2 d.hs.length cd2] (Nat.ne_of_lt hlt15) T15.le
                  refine hK.out _ _ ?_ (fun hHeld => ?_)
                  exact ⟨HNX.out _ (HK3.out.trans T13.ch), T13.c 0 rfl, T13.c 1 rfl⟩
                  clear hK K
                  (try simp only [Act.put])
                  refine wpAnyH_take (i := 17) (oi := ({ dst := some 16, op := Go.Op.assign (Go.Operand.tmp 99), type := 4, pos := "law.go:79", after := #[{ on := 13, ground := Go.Ground.data }, { on := 16, ground := Go.Ground.chain }, { on := 0, ground := Go.Ground.phase }, { on := 1, ground := Go.Ground.phase }, { on := 2, ground := Go.Ground.phase }, { on := 3, ground := Go.Ground.phase }, { on := 4, ground := Go.Ground.phase }, { on := 5, ground := Go.Ground.phase }, { on := 6, ground := Go.Ground.phase }, { on := 7, ground := Go.Ground.phase }, { on := 8, ground := Go.Ground.phase }, { on := 9, ground := Go.Ground.phase }, { on := 10, ground := Go.Ground.phase }, { on := 11, ground := Go.Ground.phase }, { on := 12, ground := Go.Ground.phase }, { on := 13, ground := Go.Ground.phase }, { on := 14, ground := Go.Ground.phase }, { on := 15, ground := Go.Ground.phase }, { on := 16, ground := Go.Ground.phase }], guard := none } : Oper)) (v := ?_) rfl (by kernel_rfl) (by kernel_rfl) (by kernel_rfl) (fun _ _ _ h => h) (Or.inl ⟨by rfl, ?_⟩) (by assumption) ?_
                  rotate_left
                  focus (intro w' hSw; (try dsimp only at hSw); go_split_ands; go_simp; try with_reducible rfl)
                  (try simp only [Act.put, List.setIfInBounds_toArray, List.set_cons_zero, List.set_cons_succ])
                  refine wpAnyH_done (by kernel_rfl) ?_ _
                  have z0 := T15.c 0 rfl
                  have z1 := T15.c 1 rfl
                  have z2 := T15.c 2 rfl
                  have z3 := T15.c 3 rfl
                  have y0 := T13.c 0 rfl
                  have y1 := T13.c 1 rfl
                  have s1 := HNX.out _ (HK3.out.trans T13.ch)
                  go_wp2_with (first
                    | (go_at_call 33; (with_reducible refine (HSU.out _ (HK3.out.trans T13.ch)).mono ?_); rintro e wf ⟨vf, rfl, of, cf⟩; have kf := T13.ch.trans cf; have hhas := HHAS.out wf vf o of.sl ho; obtain ⟨af, df, rfl⟩ := of.form)
                    | (go_at_call 39; (with_reducible refine hhas.mono ?_); clear hhas; rintro e wg ⟨rfl, hw⟩; have hw := hw.symm; subst hw)
                    | fail)
                  have hj := HJ.out
                  go_roundw
                  case rel => exact ⟨j + 1, HJ.out, by go_num, kf⟩
                  case measure => simp [intOf]; omega
              | none =>
                obtain ⟨d, hd⟩ : ∃ d, (none : Option Mth).getD noM = d := ⟨_, rfl⟩
                rw [hd] at HDM
                have HMS : Hid (conc P x.n = true → m.st = true) := fun h => HMM.out h rfl
                clear hd hod HMM
                obtain ⟨bc, hbc⟩ : ∃ bc, conc P x.n = bc := ⟨_, rfl⟩
                rw [hbc] at HMS
                have HC40 : Hid (∀ w', Ch w3 w' → Calls Tryz.prog 40 #[.pointer (some ⟨gp, 0, none⟩), .string x.n] w' fun e w2 => e = .returned (.bool bc) ∧ Ch w' w2) := fun w' kk => by
                  have := HCON.out w' kk
                  rwa [hbc] at this
                clear hbc
                go_wp2_with (first
                  | (refine wpList_store_row rfl 66 (.tmp 13) (.tmp 85) rfl wr.heap.size #[.string m.n, .string m.d, .bool m.st, .bool m.ab, .int .i64 m.sk, .int .i64 m.lo, .slice am1 m.code.length cm1, .slice am2 m.hs.length cm2] rfl rfl 66 _ T13.b infoM rfl (one8 _ _ _ _ _ _ _ _ _ _ _ _) ?_; have T13 := T13.setRow #[.string m.n, .string m.d, .bool m.st, .bool m.ab, .int .i64 m.sk, .int .i64 m.lo, .slice am1 m.code.length cm1, .slice am2 m.hs.length cm2])
                  | fail)
                have T13u := T13
                have T13 := T13.call (Ch.refl _).drew
                have s0 := HNX.out _ (HK3.out.trans T13.ch)
                refine wp_region_held_drew (S := fun w' => w'.cell? ⟨gn, k, none⟩ = some (.string x.n) ∧ w'.cell? ⟨wr.heap.size, 0, none⟩ = some (.string m.n) ∧ w'.cell? ⟨wr.heap.size, 1, none⟩ = some (.string m.d)) (by kernel_rfl) (by exact ⟨s0, T13.c 0 rfl, T13.c 1 rfl⟩) (fun hHeld => ?_)
                refine wpAnyH_take (i := 0) (oi := ({ dst := some 87, op := Go.Op.move (Go.Operand.tmp 3), type := 25, pos := "law.go:79", after := #[], guard := none } : Oper)) (v := ?_) rfl (by kernel_rfl) (by kernel_rfl) (by kernel_rfl) (fun _ _ _ h => h) (Or.inl ⟨by rfl, ?_⟩) (by assumption) ?_
                rotate_left
                focus (intro w' hSw; (try dsimp only at hSw); go_split_ands; go_simp; try with_reducible rfl)
                (try simp only [Act.put, List.setIfInBounds_toArray, List.set_cons_zero, List.set_cons_succ])
                refine wpAnyH_take (i := 1) (oi := ({ dst := some 88, op := Go.Op.move (Go.Operand.tmp 6), type := 32, pos := "law.go:79", after := #[], guard := none } : Oper)) (v := ?_) rfl (by kernel_rfl) (by kernel_rfl) (by kernel_rfl) (fun _ _ _ h => h) (Or.inl ⟨by rfl, ?_⟩) (by assumption) ?_
                rotate_left
                focus (intro w' hSw; (try dsimp only at hSw); go_split_ands; go_simp; try with_reducible rfl)
                (try simp only [Act.put, List.setIfInBounds_toArray, List.set_cons_zero, List.set_cons_succ])
                refine wpAnyH_take (i := 2) (oi := ({ dst := some 89, op := Go.Op.move (Go.Operand.tmp 7), type := 3, pos := "law.go:79", after := #[], guard := none } : Oper)) (v := ?_) rfl (by kernel_rfl) (by kernel_rfl) (by kernel_rfl) (fun _ _ _ h => h) (Or.inl ⟨by rfl, ?_⟩) (by assumption) ?_
                rotate_left
                focus (intro w' hSw; (try dsimp only at hSw); go_split_ands; go_simp; try with_reducible rfl)
                (try simp only [Act.put, List.setIfInBounds_toArray, List.set_cons_zero, List.set_cons_succ])
                refine wpAnyH_take (i := 3) (oi := ({ dst := some 90, op := Go.Op.indexAddr 32 (Go.Operand.tmp 88) (Go.Operand.tmp 89), type := 0, pos := "law.go:79", after := #[{ on := 1, ground := Go.Ground.data }, { on := 2, ground := Go.Ground.data }], guard := none } : Oper)) (v := ?_) rfl (by kernel_rfl) (by kernel_rfl) (by kernel_rfl) (fun _ _ _ h => h) (Or.inl ⟨by rfl, ?_⟩) (by assumption) ?_
                rotate_left
                focus (intro w' hSw; (try dsimp only at hSw); go_split_ands; go_simp; try with_reducible rfl)
                (try simp only [Act.put, List.setIfInBounds_toArray, List.set_cons_zero, List.set_cons_succ])
                refine wpAnyH_take (i := 4) (oi := ({ dst := some 91, op := Go.Op.load 9 (Go.Operand.tmp 90), type := 9, pos := "law.go:79", after := #[{ on := 3, ground := Go.Ground.data }], guard := none } : Oper)) (v := ?_) rfl (by kernel_rfl) (by kernel_rfl) (by kernel_rfl) (fun _ _ _ h => h) (Or.inl ⟨by rfl, ?_⟩) (by assumption) ?_
                rotate_left
                focus (intro w' hSw; (try dsimp only at hSw); go_split_ands; go_simp; try with_reducible rfl)
                (try simp only [Act.put, List.setIfInBounds_toArray, List.set_cons_zero, List.set_cons_succ])
                refine wpAnyH_take (i := 5) (oi := ({ dst := some 92, op := Go.Op.fieldAddr 66 (Go.Operand.tmp 13) 0, type := 0, pos := "law.go:79", after := #[], guard := none } : Oper)) (v := ?_) rfl (by kernel_rfl) (by kernel_rfl) (by kernel_rfl) (fun _ _ _ h => h) (Or.inl ⟨by rfl, ?_⟩) (by assumption) ?_
                rotate_left
                focus (intro w' hSw; (try dsimp only at hSw); go_split_ands; go_simp; try with_reducible rfl)
                (try simp only [Act.put, List.setIfInBounds_toArray, List.set_cons_zero, List.set_cons_succ])
                refine wpAnyH_take (i := 6) (oi := ({ dst := some 93, op := Go.Op.load 9 (Go.Operand.tmp 92), type := 9, pos := "law.go:79", after := #[{ on := 5, ground := Go.Ground.data }], guard := none } : Oper)) (v := ?_) rfl (by kernel_rfl) (by kernel_rfl) (by kernel_rfl) (fun _ _ _ h => h) (Or.inl ⟨by rfl, ?_⟩) (by assumption) ?_
                rotate_left
                focus (intro w' hSw; (try dsimp only at hSw); go_split_ands; go_simp; try with_reducible rfl)
                (try simp only [Act.put, List.setIfInBounds_toArray, List.set_cons_zero, List.set_cons_succ])
                refine wpAnyH_take (i := 7) (oi := ({ dst := some 94, op := Go.Op.fieldAddr 66 (Go.Operand.tmp 13) 1, type := 0, pos := "law.go:79", after := #[], guard := none } : Oper)) (v := ?_) rfl (by kernel_rfl) (by kernel_rfl) (by kernel_rfl) (fun _ _ _ h => h) (Or.inl ⟨by rfl, ?_⟩) (by assumption) ?_
                rotate_left
                focus (intro w' hSw; (try dsimp only at hSw); go_split_ands; go_simp; try with_reducible rfl)
                (try simp only [Act.put, List.setIfInBounds_toArray, List.set_cons_zero, List.set_cons_succ])
                refine wpAnyH_take (i := 8) (oi := ({ dst := some 95, op := Go.Op.load 9 (Go.Operand.tmp 94), type := 9, pos := "law.go:79", after := #[{ on := 7, ground := Go.Ground.data }], guard := none } : Oper)) (v := ?_) rfl (by kernel_rfl) (by kernel_rfl) (by kernel_rfl) (fun _ _ _ h => h) (Or.inl ⟨by rfl, ?_⟩) (by assumption) ?_
                rotate_left
                focus (intro w' hSw; (try dsimp only at hSw); go_split_ands; go_simp; try with_reducible rfl)
                (try simp only [Act.put, List.setIfInBounds_toArray, List.set_cons_zero, List.set_cons_succ])
                refine wpAnyH_ready (rs := [9, 14]) (by kernel_rfl) (by simp) ?_
                refine (AllReadyH.cons (o := ({ dst := some 96, op := Go.Op.call { callee := Go.Callee.value (Go.Operand.func 69), args := #[Go.Operand.tmp 87, Go.Operand.tmp 91, Go.Operand.tmp 93, Go.Operand.tmp 95], argTypes := #[25, 9, 9, 9] }, type := 93, pos := "law.go:79", after := #[{ on := 0, ground := Go.Ground.data }, { on := 4, ground := Go.Ground.data }, { on := 6, ground := Go.Ground.data }, { on := 8, ground := Go.Ground.data }], guard := none } : Oper)) rfl (fun K hK => ?_) (AllReadyH.cons (o := ({ dst := some 15, op := Go.Op.alloc 66, type := 0, pos := "law.go:79", after := #[], guard := none } : Oper)) rfl (fun K hK => ?_) AllReadyH.nil))
                · go_simp
                  go_at_call 69; (with_reducible refine (HDM.out _ (HK3.out.trans T13.ch)).mono ?_); rintro e wd ⟨vd, rfl, ⟨vcd, vhd, rfl, od1, od2⟩, cd⟩; have T13 := T13.call cd; obtain ⟨ad1, cd1, rfl⟩ := od1.form; obtain ⟨ad2, cd2, rfl⟩ := od2.form; unfold mV
                  refine hK.out _ _ ?_ (fun hHeld => ?_)
                  exact ⟨HNX.out _ (HK3.out.trans T13.ch), T13.c 0 rfl, T13.c 1 rfl⟩
                  clear hK K
                  (try simp only [Act.put, List.setIfInBounds_toArray, List.set_cons_zero, List.set_cons_succ])
                  refine wpAnyH_take (i := 10) (oi := ({ dst := some 86, op := Go.Op.move (Go.Operand.tmp 96), type := 93, pos := "law.go:79", after := #[{ on := 9, ground := Go.Ground.data }], guard := none } : Oper)) (v := ?_) rfl (by kernel_rfl) (by kernel_rfl) (by kernel_rfl) (fun _ _ _ h => h) (Or.inl ⟨by rfl, ?_⟩) (by assumption) ?_
                  rotate_left
                  focus (intro w' hSw; (try dsimp only at hSw); go_split_ands; go_simp; try with_reducible rfl)
                  (try simp only [Act.put, List.setIfInBounds_toArray, List.set_cons_zero, List.set_cons_succ])
                  refine wpAnyH_take (i := 11) (oi := ({ dst := some 97, op := Go.Op.extract (Go.Operand.tmp 86) 0, type := 9, pos := "law.go:79", after := #[{ on := 10, ground := Go.Ground.data }], guard := none } : Oper)) (v := ?_) rfl (by kernel_rfl) (by kernel_rfl) (by kernel_rfl) (fun _ _ _ h => h) (Or.inl ⟨by rfl, ?_⟩) (by assumption) ?_
                  rotate_left
                  focus (intro w' hSw; (try dsimp only at hSw); go_split_ands; go_simp; try with_reducible rfl)
                  (try simp only [Act.put, List.setIfInBounds_toArray, List.set_cons_zero, List.set_cons_succ])
                  refine wpAnyH_take (i := 12) (oi := ({ dst := some 98, op := Go.Op.extract (Go.Operand.tmp 86) 1, type := 66, pos := "law.go:79", after := #[{ on := 10, ground := Go.Ground.data }, { on := 15, ground := Go.Ground.gcOnly Go.Departure.lateStores }], guard := none } : Oper)) (v := ?_) rfl (by kernel_rfl) (by kernel_rfl) (by kernel_rfl) (fun _ _ _ h => h) (Or.inl ⟨by rfl, ?_⟩) (by assumption) ?_
                  rotate_left
                  focus (intro w' hSw; (try dsimp only at hSw); go_split_ands; go_simp; try with_reducible rfl)
                  (try simp only [Act.put, List.setIfInBounds_toArray, List.set_cons_zero, List.set_cons_succ])
                  refine wpAnyH_take (i := 13) (oi := ({ dst := some 99, op := Go.Op.extract (Go.Operand.tmp 86) 2, type := 4, pos := "law.go:79", after := #[{ on := 10, ground := Go.Ground.data }, { on := 16, ground := Go.Ground.gcOnly Go.Departure.lateStores }], guard := none } : Oper)) (v := ?_) rfl (by kernel_rfl) (by kernel_rfl) (by kernel_rfl) (fun _ _ _ h => h) (Or.inl ⟨by rfl, ?_⟩) (by assumption) ?_
                  rotate_left
                  focus (intro w' hSw; (try dsimp only at hSw); go_split_ands; go_simp; try with_reducible rfl)
                  (try simp only [Act.put, List.setIfInBounds_toArray, List.set_cons_zero, List.set_cons_succ])
                  refine wpAnyH_ready (rs := [14]) (by kernel_rfl) (by simp) ?_
                  refine AllReadyH.cons (o := ({ dst := some 15, op := Go.Op.alloc 66, type := 0, pos := "law.go:79", after := #[], guard := none } : Oper)) rfl (fun K hK => ?_) AllReadyH.nil
                  go_simp
                  have T15 := Bo.new T13.ch #[.string ⟨#[]⟩, .string ⟨#[]⟩, .bool false, .bool false, .int .i64 0, .int .i64 0, .slice none 0 0, .slice none 0 0] 66
                  have hlt15 := T13.lt
                  have T13 := T13.call ((Ch.refl _).alloc (.cells #[.string ⟨#[]⟩, .string ⟨#[]⟩, .bool false, .bool false, .int .i64 0, .int .i64 0, .slice none 0 0, .slice none 0 0] 66))
                  refine hK.out _ _ ?_ (fun hHeld => ?_)
                  exact ⟨HNX.out _ (HK3.out.trans T13.ch), T13.c 0 rfl, T13.c 1 rfl⟩
                  clear hK K
                  (try simp only [Act.put, List.setIfInBounds_toArray, List.set_cons_zero, List.set_cons_succ])
                  refine wpAnyH_take (i := 15) (oi := ({ dst := some 14, op := Go.Op.assign (Go.Operand.tmp 97), type := 9, pos := "law.go:79", after := #[{ on := 11, ground := Go.Ground.data }, { on := 9, ground := Go.Ground.chain }, { on := 0, ground := Go.Ground.phase }, { on := 1, ground := Go.Ground.phase }, { on := 2, ground := Go.Ground.phase }, { on := 3, ground := Go.Ground.phase }, { on := 4, ground := Go.Ground.phase }, { on := 5, ground := Go.Ground.phase }, { on := 6, ground := Go.Ground.phase }, { on := 7, ground := Go.Ground.phase }, { on := 8, ground := Go.Ground.phase }, { on := 9, ground := Go.Ground.phase }, { on := 10, ground := Go.Ground.phase }, { on := 11, ground := Go.Ground.phase }, { on := 12, ground := Go.Ground.textOnly Go.Departure.lateStores }, { on := 13, ground := Go.Ground.textOnly Go.Departure.lateStores }, { on := 14, ground := Go.Ground.phase }], guard := none } : Oper)) (v := ?_) rfl (by kernel_rfl) (by kernel_rfl) (by kernel_rfl) (fun _ _ _ h => h) (Or.inl ⟨by rfl, ?_⟩) (by assumption) ?_
                  rotate_left
                  focus (intro w' hSw; (try dsimp only at hSw); go_split_ands; go_simp; try with_reducible rfl)
                  (try simp only [Act.put, List.setIfInBounds_toArray, List.set_cons_zero, List.set_cons_succ])
                  refine wpAnyH_ready (rs := [16]) (by kernel_rfl) (by simp) ?_
                  refine AllReadyH.cons (o := ({ dst := none, op := Go.Op.store 66 (Go.Operand.tmp 15) (Go.Operand.tmp 98), type := 0, pos := "law.go:79", after := #[{ on := 14, ground := Go.Ground.data }, { on := 12, ground := Go.Ground.data }, { on := 15, ground := Go.Ground.chain }, { on := 0, ground := Go.Ground.phase }, { on := 1, ground := Go.Ground.phase }, { on := 2, ground := Go.Ground.phase }, { on := 3, ground := Go.Ground.phase }, { on := 4, ground := Go.Ground.phase }, { on := 5, ground := Go.Ground.phase }, { on := 6, ground := Go.Ground.phase }, { on := 7, ground := Go.Ground.phase }, { on := 8, ground := Go.Ground.phase }, { on := 9, ground := Go.Ground.phase }, { on := 10, ground := Go.Ground.phase }, { on := 11, ground := Go.Ground.phase }, { on := 12, ground := Go.Ground.phase }, { on := 13, ground := Go.Ground.textOnly Go.Departure.lateStores }, { on := 14, ground := Go.Ground.phase }, { on := 15, ground := Go.Ground.phase }], guard := none } : Oper)) rfl (fun K hK => ?_) AllReadyH.nil
                  refine wp_store_row 66 (.tmp 15) (.tmp 98) rfl _ #[.string d.n, .string d.d, .bool d.st, .bool d.ab, .int .i64 d.sk, .int .i64 d.lo, .slice ad1 d.code.length cd1, .slice ad2 d.hs.length cd2] rfl rfl 66 _ T15.b infoM rfl (one8 _ _ _ _ _ _ _ _ _ _ _ _) ?_
                  have T15 := T15.setRow #[.string d.n, .string d.d, .bool d.st, .bool d.ab, .int .i64 d.sk, .int .i64 d.lo, .slice ad1 d.code.length cd1, .slice ad2 d.hs.length cd2]
                  have T13 := T13.farRow #[.string d.n, .string d.d, .bool d.st, .bool d.ab, .int .i64 d.sk, .int .i64 d.lo, .slice ad1 d.code.length cd1, .slice ad2 d.hs.length cd2] (Nat.ne_of_lt hlt15) T15.le
                  refine hK.out _ _ ?_ (fun hHeld => ?_)
                  exact ⟨HNX.out _ (HK3.out.trans T13.ch), T13.c 0 rfl, T13.c 1 rfl⟩
                  clear hK K
                  (try simp only [Act.put])
                  refine wpAnyH_take (i := 17) (oi := ({ dst := some 16, op := Go.Op.assign (Go.Operand.tmp 99), type := 4, pos := "law.go:79", after := #[{ on := 13, ground := Go.Ground.data }, { on := 16, ground := Go.Ground.chain }, { on := 0, ground := Go.Ground.phase }, { on := 1, ground := Go.Ground.phase }, { on := 2, ground := Go.Ground.phase }, { on := 3, ground := Go.Ground.phase }, { on := 4, ground := Go.Ground.phase }, { on := 5, ground := Go.Ground.phase }, { on := 6, ground := Go.Ground.phase }, { on := 7, ground := Go.Ground.phase }, { on := 8, ground := Go.Ground.phase }, { on := 9, ground := Go.Ground.phase }, { on := 10, ground := Go.Ground.phase }, { on := 11, ground := Go.Ground.phase }, { on := 12, ground := Go.Ground.phase }, { on := 13, ground := Go.Ground.phase }, { on := 14, ground := Go.Ground.phase }, { on := 15, ground := Go.Ground.phase }, { on := 16, ground := Go.Ground.phase }], guard := none } : Oper)) (v := ?_) rfl (by kernel_rfl) (by kernel_rfl) (by kernel_rfl) (fun _ _ _ h => h) (Or.inl ⟨by rfl, ?_⟩) (by assumption) ?_
                  rotate_left
                  focus (intro w' hSw; (try dsimp only at hSw); go_split_ands; go_simp; try with_reducible rfl)
                  (try simp only [Act.put, List.setIfInBounds_toArray, List.set_cons_zero, List.set_cons_succ])
                  refine wpAnyH_done (by kernel_rfl) ?_ _
                  have y2 := T13.c 2 rfl
                  have s1 := HNX.out _ (HK3.out.trans T13.ch)
                  have hj := HJ.out
                  cases bc with
                  | false =>
                    go_wp2_with (first
                      | (go_at_call 40; (with_reducible refine (HC40.out _ (HK3.out.trans T13.ch)).mono ?_); rintro e wf ⟨rfl, cf⟩; have T13 := T13.call cf)
                      | fail)
                    go_roundw
                    case rel => exact ⟨j + 1, HJ.out, by go_num, T13.ch⟩
                    case measure => simp [intOf]; omega
                  | true =>
                    have hs := HMS.out rfl
                    rw [hs] at y2
                    go_wp2_with (first
                      | (go_at_call 40; (with_reducible refine (HC40.out _ (HK3.out.trans T13.ch)).mono ?_); rintro e wf ⟨rfl, cf⟩; have T13 := T13.call cf; clear y2; have y2 := T13.c 2 rfl; rw [hs] at y2)
                      | fail)
                    go_roundw
                    case rel => exact ⟨j + 1, HJ.out, by go_num, T13.ch⟩
                    case measure => simp [intOf]; omega
                · go_simp
                  have T15 := (Bo.new T13u.ch #[.string ⟨#[]⟩, .string ⟨#[]⟩, .bool false, .bool false, .int .i64 0, .int .i64 0, .slice none 0 0, .slice none 0 0] 66).call (Ch.refl _).drew
                  have e15 : ((wr.alloc (.cells #[.string ⟨#[]⟩, .string ⟨#[]⟩, .bool false, .bool false, .int .i64 0, .int .i64 0, .slice none 0 0, .slice none 0 0] 66)).setRow wr.heap.size #[.string m.n, .string m.d, .bool m.st, .bool m.ab, .int .i64 m.sk, .int .i64 m.lo, .slice am1 m.code.length cm1, .slice am2 m.hs.length cm2]).heap.size = wr.heap.size + 1 := by simp
                  rw [e15] at T15
                  have hlt15 : wr.heap.size < wr.heap.size + 1 := Nat.lt_succ_self _
                  have T13 := (T13u.call ((Ch.refl _).alloc (.cells #[.string ⟨#[]⟩, .string ⟨#[]⟩, .bool false, .bool false, .int .i64 0, .int .i64 0, .slice none 0 0, .slice none 0 0] 66))).call (Ch.refl _).drew
                  refine hK.out _ _ ?_ (fun hHeld => ?_)
                  exact ⟨HNX.out _ (HK3.out.trans T13.ch), T13.c 0 rfl, T13.c 1 rfl⟩
                  clear hK K
                  (try simp only [Act.put, List.setIfInBounds_toArray, List.set_cons_zero, List.set_cons_succ])
                  refine wpAnyH_ready (rs := [9]) (by kernel_rfl) (by simp) ?_
                  refine AllReadyH.cons (o := ({ dst := some 96, op := Go.Op.call { callee := Go.Callee.value (Go.Operand.func 69), args := #[Go.Operand.tmp 87, Go.Operand.tmp 91, Go.Operand.tmp 93, Go.Operand.tmp 95], argTypes := #[25, 9, 9, 9] }, type := 93, pos := "law.go:79", after := #[{ on := 0, ground := Go.Ground.data }, { on := 4, ground := Go.Ground.data }, { on := 6, ground := Go.Ground.data }, { on := 8, ground := Go.Ground.data }], guard := none } : Oper)) rfl (fun K hK => ?_) AllReadyH.nil
                  go_simp
                  go_at_call 69; (with_reducible refine (HDM.out _ (HK3.out.trans T13.ch)).mono ?_); rintro e wd ⟨vd, rfl, ⟨vcd, vhd, rfl, od1, od2⟩, cd⟩; have T13 := T13.call cd; have T15 := T15.call cd; obtain ⟨ad1, cd1, rfl⟩ := od1.form; obtain ⟨ad2, cd2, rfl⟩ := od2.form; unfold mV
                  refine hK.out _ _ ?_ (fun hHeld => ?_)
                  exact ⟨HNX.out _ (HK3.out.trans T13.ch), T13.c 0 rfl, T13.c 1 rfl⟩
                  clear hK K
                  (try simp only [Act.put, List.setIfInBounds_toArray, List.set_cons_zero, List.set_cons_succ])
                  refine wpAnyH_take (i := 10) (oi := ({ dst := some 86, op := Go.Op.move (Go.Operand.tmp 96), type := 93, pos := "law.go:79", after := #[{ on := 9, ground := Go.Ground.data }], guard := none } : Oper)) (v := ?_) rfl (by kernel_rfl) (by kernel_rfl) (by kernel_rfl) (fun _ _ _ h => h) (Or.inl ⟨by rfl, ?_⟩) (by assumption) ?_
                  rotate_left
                  focus (intro w' hSw; (try dsimp only at hSw); go_split_ands; go_simp; try with_reducible rfl)
                  (try simp only [Act.put, List.setIfInBounds_toArray, List.set_cons_zero, List.set_cons_succ])
                  refine wpAnyH_take (i := 11) (oi := ({ dst := some 97, op := Go.Op.extract (Go.Operand.tmp 86) 0, type := 9, pos := "law.go:79", after := #[{ on := 10, ground := Go.Ground.data }], guard := none } : Oper)) (v := ?_) rfl (by kernel_rfl) (by kernel_rfl) (by kernel_rfl) (fun _ _ _ h => h) (Or.inl ⟨by rfl, ?_⟩) (by assumption) ?_
                  rotate_left
                  focus (intro w' hSw; (try dsimp only at hSw); go_split_ands; go_simp; try with_reducible rfl)
                  (try simp only [Act.put, List.setIfInBounds_toArray, List.set_cons_zero, List.set_cons_succ])
                  refine wpAnyH_take (i := 12) (oi := ({ dst := some 98, op := Go.Op.extract (Go.Operand.tmp 86) 1, type := 66, pos := "law.go:79", after := #[{ on := 10, ground := Go.Ground.data }, { on := 15, ground := Go.Ground.gcOnly Go.Departure.lateStores }], guard := none } : Oper)) (v := ?_) rfl (by kernel_rfl) (by kernel_rfl) (by kernel_rfl) (fun _ _ _ h => h) (Or.inl ⟨by rfl, ?_⟩) (by assumption) ?_
                  rotate_left
                  focus (intro w' hSw; (try dsimp only at hSw); go_split_ands; go_simp; try with_reducible rfl)
                  (try simp only [Act.put, List.setIfInBounds_toArray, List.set_cons_zero, List.set_cons_succ])
                  refine wpAnyH_take (i := 13) (oi := ({ dst := some 99, op := Go.Op.extract (Go.Operand.tmp 86) 2, type := 4, pos := "law.go:79", after := #[{ on := 10, ground := Go.Ground.data }, { on := 16, ground := Go.Ground.gcOnly Go.Departure.lateStores }], guard := none } : Oper)) (v := ?_) rfl (by kernel_rfl) (by kernel_rfl) (by kernel_rfl) (fun _ _ _ h => h) (Or.inl ⟨by rfl, ?_⟩) (by assumption) ?_
                  rotate_left
                  focus (intro w' hSw; (try dsimp only at hSw); go_split_ands; go_simp; try with_reducible rfl)
                  (try simp only [Act.put, List.setIfInBounds_toArray, List.set_cons_zero, List.set_cons_succ])
                  refine wpAnyH_take (i := 15) (oi := ({ dst := some 14, op := Go.Op.assign (Go.Operand.tmp 97), type := 9, pos := "law.go:79", after := #[{ on := 11, ground := Go.Ground.data }, { on := 9, ground := Go.Ground.chain }, { on := 0, ground := Go.Ground.phase }, { on := 1, ground := Go.Ground.phase }, { on := 2, ground := Go.Ground.phase }, { on := 3, ground := Go.Ground.phase }, { on := 4, ground := Go.Ground.phase }, { on := 5, ground := Go.Ground.phase }, { on := 6, ground := Go.Ground.phase }, { on := 7, ground := Go.Ground.phase }, { on := 8, ground := Go.Ground.phase }, { on := 9, ground := Go.Ground.phase }, { on := 10, ground := Go.Ground.phase }, { on := 11, ground := Go.Ground.phase }, { on := 12, ground := Go.Ground.textOnly Go.Departure.lateStores }, { on := 13, ground := Go.Ground.textOnly Go.Departure.lateStores }, { on := 14, ground := Go.Ground.phase }], guard := none } : Oper)) (v := ?_) rfl (by kernel_rfl) (by kernel_rfl) (by kernel_rfl) (fun _ _ _ h => h) (Or.inl ⟨by rfl, ?_⟩) (by assumption) ?_
                  rotate_left
                  focus (intro w' hSw; (try dsimp only at hSw); go_split_ands; go_simp; try with_reducible rfl)
                  (try simp only [Act.put, List.setIfInBounds_toArray, List.set_cons_zero, List.set_cons_succ])
                  refine wpAnyH_ready (rs := [16]) (by kernel_rfl) (by simp) ?_
                  refine AllReadyH.cons (o := ({ dst := none, op := Go.Op.store 66 (Go.Operand.tmp 15) (Go.Operand.tmp 98), type := 0, pos := "law.go:79", after := #[{ on := 14, ground := Go.Ground.data }, { on := 12, ground := Go.Ground.data }, { on := 15, ground := Go.Ground.chain }, { on := 0, ground := Go.Ground.phase }, { on := 1, ground := Go.Ground.phase }, { on := 2, ground := Go.Ground.phase }, { on := 3, ground := Go.Ground.phase }, { on := 4, ground := Go.Ground.phase }, { on := 5, ground := Go.Ground.phase }, { on := 6, ground := Go.Ground.phase }, { on := 7, ground := Go.Ground.phase }, { on := 8, ground := Go.Ground.phase }, { on := 9, ground := Go.Ground.phase }, { on := 10, ground := Go.Ground.phase }, { on := 11, ground := Go.Ground.phase }, { on := 12, ground := Go.Ground.phase }, { on := 13, ground := Go.Ground.textOnly Go.Departure.lateStores }, { on := 14, ground := Go.Ground.phase }, { on := 15, ground := Go.Ground.phase }], guard := none } : Oper)) rfl (fun K hK => ?_) AllReadyH.nil
                  refine wp_store_row 66 (.tmp 15) (.tmp 98) rfl _ #[.string d.n, .string d.d, .bool d.st, .bool d.ab, .int .i64 d.sk, .int .i64 d.lo, .slice ad1 d.code.length cd1, .slice ad2 d.hs.length cd2] rfl rfl 66 _ T15.b infoM rfl (one8 _ _ _ _ _ _ _ _ _ _ _ _) ?_
                  have T15 := T15.setRow #[.string d.n, .string d.d, .bool d.st, .bool d.ab, .int .i64 d.sk, .int .i64 d.lo, .slice ad1 d.code.length cd1, .slice ad2 d.hs.length cd2]
                  have T13 := T13.farRow #[.string d.n, .string d.d, .bool d.st, .bool d.ab, .int .i64 d.sk, .int .i64 d.lo, .slice ad1 d.code.length cd1, .slice ad2 d.hs.length cd2] (Nat.ne_of_lt hlt15) T15.le
                  refine hK.out _ _ ?_ (fun hHeld => ?_)
                  exact ⟨HNX.out _ (HK3.out.trans T13.ch), T13.c 0 rfl, T13.c 1 rfl⟩
                  clear hK K
                  (try simp only [Act.put])
                  refine wpAnyH_take (i := 17) (oi := ({ dst := some 16, op := Go.Op.assign (Go.Operand.tmp 99), type := 4, pos := "law.go:79", after := #[{ on := 13, ground := Go.Ground.data }, { on := 16, ground := Go.Ground.chain }, { on := 0, ground := Go.Ground.phase }, { on := 1, ground := Go.Ground.phase }, { on := 2, ground := Go.Ground.phase }, { on := 3, ground := Go.Ground.phase }, { on := 4, ground := Go.Ground.phase }, { on := 5, ground := Go.Ground.phase }, { on := 6, ground := Go.Ground.phase }, { on := 7, ground := Go.Ground.phase }, { on := 8, ground := Go.Ground.phase }, { on := 9, ground := Go.Ground.phase }, { on := 10, ground := Go.Ground.phase }, { on := 11, ground := Go.Ground.phase }, { on := 12, ground := Go.Ground.phase }, { on := 13, ground := Go.Ground.phase }, { on := 14, ground := Go.Ground.phase }, { on := 15, ground := Go.Ground.phase }, { on := 16, ground := Go.Ground.phase }], guard := none } : Oper)) (v := ?_) rfl (by kernel_rfl) (by kernel_rfl) (by kernel_rfl) (fun _ _ _ h => h) (Or.inl ⟨by rfl, ?_⟩) (by assumption) ?_
                  rotate_left
                  focus (intro w' hSw; (try dsimp only at hSw); go_split_ands; go_simp; try with_reducible rfl)
                  (try simp only [Act.put, List.setIfInBounds_toArray, List.set_cons_zero, List.set_cons_succ])
                  refine wpAnyH_done (by kernel_rfl) ?_ _
                  have y2 := T13.c 2 rfl
                  have s1 := HNX.out _ (HK3.out.trans T13.ch)
                  have hj := HJ.out
                  cases bc with
                  | false =>
                    go_wp2_with (first
                      | (go_at_call 40; (with_reducible refine (HC40.out _ (HK3.out.trans T13.ch)).mono ?_); rintro e wf ⟨rfl, cf⟩; have T13 := T13.call cf)
                      | fail)
                    go_roundw
                    case rel => exact ⟨j + 1, HJ.out, by go_num, T13.ch⟩
                    case measure => simp [intOf]; omega
                  | true =>
                    have hs := HMS.out rfl
                    rw [hs] at y2
                    go_wp2_with (first
                      | (go_at_call 40; (with_reducible refine (HC40.out _ (HK3.out.trans T13.ch)).mono ?_); rintro e wf ⟨rfl, cf⟩; have T13 := T13.call cf; clear y2; have y2 := T13.c 2 rfl; rw [hs] at y2)
                      | fail)
                    go_roundw
                    case rel => exact ⟨j + 1, HJ.out, by go_num, T13.ch⟩
                    case measure => simp [intOf]; omega
            · obtain rfl : j = c.me.length := by omega
              go_wp2_with fail
              have h7 := HK2.out
              go_roundw
              case rel => exact ⟨k2 + 1, HK2.out, by go_num, HZ.out.trans hc3⟩
              case measure => simp [intOf]; omega
        · obtain rfl : k2 = W.length + I.length := by omega
          go_wp2_with fail
          go_roundw
          case rel => exact ⟨k + 1, by omega, by go_num, k2c⟩
          case measure => simp [intOf]; omega
    · obtain rfl : k = P.length := by omega
      go_wp2_with (first
        | (go_at_call 60; (with_reducible refine (awake8 _).mono ?_); rintro e w4 ⟨rfl, c4⟩)
        | fail)
      go_ret
      exact ⟨rfl, (H3.out.trans hcr).trans c4⟩
end Go.Proofs.YthmepecmeambmaaGreat
