/- What an object's class does: of a program that goes together. -/
import Derived.Test.YthmepecmeambmaaGreatKLqA
namespace Go.Proofs.YthmepecmeambmaaGreat
open Go.RowKit
set_option linter.unusedVariables false

theorem tw_pair : ∀ (l p : List (ByteArray × ByteArray)), tw nd2 p l = false → (∀ x ∈ l, x ∉ p) ∧ l.Nodup
  | [], p, _ => ⟨(fun x hx => by cases hx), List.nodup_nil⟩
  | x :: r, p, h => by
    rw [tw, Bool.or_eq_false_iff] at h
    obtain ⟨h1, h2⟩ := tw_pair r (p ++ [x]) h.2
    have hx : x ∉ p := fun hm => by
      have := List.any_eq_false.1 h.1 x hm
      exact this (nd2_iff.2 rfl)
    refine ⟨fun y hy => ?_, List.nodup_cons.2 ⟨fun hm => h1 x hm (by simp), h2⟩⟩
    rcases List.mem_cons.1 hy with rfl | hy
    · exact hx
    · exact fun hm => h1 y hy (List.mem_append_left _ hm)
/-- Of a class's methods no two have one name and type. -/
theorem me_one {P : List Cls} (g : Gd P) {c : Cls} (hc : c ∈ P) : (c.me.map fun m => (m.n, m.d)).Nodup := by
  rcases g.each c hc with hg | hk
  · have h2 : (given.all fun c => !tw nd2 [] (c.me.map fun m => (m.n, m.d))) = true := by decide +kernel
    have := List.all_eq_true.1 h2 c hg
    exact (tw_pair _ [] (by simpa using this)).2
  · have h4 : k4 c = true := hk 4 (by omega)
    unfold k4 at h4
    rw [Bool.and_eq_true] at h4
    exact (tw_pair _ [] (by simpa using h4.2)).2
theorem find_one : ∀ (l : List Mth), (l.map fun m => (m.n, m.d)).Nodup → ∀ m ∈ l, l.find? (mIs m.n m.d) = some m
  | [], _, m, hm => by cases hm
  | y :: r, h, m, hm => by
    rw [List.map_cons, List.nodup_cons] at h
    rw [List.find?_cons]
    rcases List.mem_cons.1 hm with rfl | hm
    · have e : mIs m.n m.d m = true := by unfold mIs; rw [nq_self, nq_self]; rfl
      rw [e]
    · cases e : mIs m.n m.d y with
      | false => exact find_one r h.2 m hm
      | true =>
        exfalso
        unfold mIs at e
        rw [Bool.and_eq_true] at e
        refine h.1 (List.mem_map.2 ⟨m, hm, ?_⟩)
        rw [nq_iff.1 e.1, nq_iff.1 e.2]
theorem mth_of {P : List Cls} (g : Gd P) {n : ByteArray} {c : Cls} (hc : lk P n = some c) {m : Mth} (hm : m ∈ c.me) : mth P n m.n m.d = some m := by
  unfold mth meOf
  rw [hc]
  exact find_one _ (me_one g (lk_some hc).1) m hm
theorem fst1_is {F : ByteArray → Option Mth} : ∀ {l : List ByteArray} {y : ByteArray} {m : Mth}, y ∈ l → F y = some m → (fst1 F l).2.isSome = true
  | [], y, m, h, _ => by cases h
  | x :: r, y, m, h, hF => by
    rw [fst1]
    cases hx : F x with
    | some m' => rfl
    | none =>
      rcases List.mem_cons.1 h with rfl | h
      · rw [hx] at hF; cases hF
      · exact fst1_is h hF
theorem dsp_of {P : List Cls} (g : Gd P) {n : ByteArray} {c : Cls} (hc : lk P n = some c) {m : Mth} (hm : m ∈ c.me) (h1 : m.st = false) (h2 : m.ab = false) : dspF P m.n m.d n = some m := by
  unfold dspF
  rw [mth_of g hc hm, Option.filter_some]
  unfold dsp
  rw [h1, h2]
  rfl
/-- What is found is such. -/
theorem dsp_is {P : List Cls} {n d : ByteArray} {l : List ByteArray} {o : ByteArray} {m : Mth} (h : fst1 (dspF P n d) l = (o, some m)) : o ∈ l ∧ m.st = false ∧ m.ab = false ∧ m.n = n ∧ m.d = d := by
  obtain ⟨h1, h2⟩ := fst1_some h
  unfold dspF at h2
  cases hm : mth P o n d with
  | none => rw [hm] at h2; cases h2
  | some m' =>
    rw [hm, Option.filter_some] at h2
    by_cases hd : dsp m' = true
    · rw [if_pos hd] at h2
      cases h2
      unfold dsp at hd
      rw [Bool.and_eq_true] at hd
      obtain ⟨_, _, _, h3, h4⟩ := mth_is hm
      exact ⟨h1, by simpa using hd.1, by simpa using hd.2, h3, h4⟩
    · rw [if_neg hd] at h2
      cases h2
theorem given_pth {P : List Cls} (g : Gd P) {b : ByteArray} : ∀ (r : List ByteArray) (c : Cls), c ∈ given → pth (lk P) c.n r b → ∀ y ∈ r, ∃ d ∈ given, d.n = y ∧ lk P y = some d
  | [], c, hc, _, y, hy => by cases hy
  | x :: r, c, hc, ⟨e, d, h1, h2⟩, y, hy => by
    rw [g.giv c hc] at h1
    cases h1
    subst e
    rcases List.mem_cons.1 hy with rfl | hy
    · exact ⟨c, hc, rfl, g.giv c hc⟩
    rcases given_up hc with ⟨h, _⟩ | ⟨d, hd, h3, _⟩
    · rw [h] at h2
      cases r with
      | nil => cases hy
      | cons z r =>
        obtain ⟨_, d, h5, _⟩ := h2
        rw [g.emp] at h5
        cases h5
    · rw [← h3] at h2
      exact given_pth g r d hd h2 y hy
theorem given_sup {P : List Cls} (g : Gd P) {b : ByteArray} : ∀ (r : List ByteArray) (c : Cls), c ∈ given → pth (lk P) c.n r b → ∀ y ∈ r, y = c.n ∨ ∃ d ∈ given, d.s = y
  | [], c, hc, _, y, hy => by cases hy
  | x :: r, c, hc, ⟨e, d, h1, h2⟩, y, hy => by
    rw [g.giv c hc] at h1
    cases h1
    subst e
    rcases List.mem_cons.1 hy with rfl | hy
    · exact Or.inl rfl
    rcases given_up hc with ⟨h, _⟩ | ⟨d, hd, h3, _⟩
    · rw [h] at h2
      cases r with
      | nil => cases hy
      | cons z r =>
        obtain ⟨_, d, h5, _⟩ := h2
        rw [g.emp] at h5
        cases h5
    · rw [← h3] at h2
      rcases given_sup g r d hd h2 y hy with h | h
      · exact Or.inr ⟨c, hc, by rw [h, h3]⟩
      · exact Or.inr h
theorem given_ifs {P : List Cls} (g : Gd P) {c : Cls} (hc : c ∈ given) : ifs P c.n = [] := by
  obtain ⟨e, _, h2, _, _⟩ := walk_none g c.n
  have hw := given_pth g _ c hc h2
  unfold ifs
  generalize (walkN P c.n).1 = W at *
  have h3 : ∀ (W : List ByteArray), (∀ y ∈ W, ∃ d ∈ given, d.n = y ∧ lk P y = some d) → addW (lk P) [] W = [] := fun W hW => by
    induction W with
    | nil => rfl
    | cons y r ih =>
      obtain ⟨d, hd, _, hl⟩ := hW y (by simp)
      have h4 : imOf (lk P) y = [] := by unfold imOf; rw [hl]; exact given_im d hd
      rw [addW, h4]
      exact ih fun z hz => hW z (List.mem_cons_of_mem _ hz)
  rw [h3 W hw]
  rfl
/-- Of a concrete class nothing that is not static is left. -/
theorem dsp_all {P : List Cls} (g : Gd P) (k : Mk P) {x : Cls} (hx : x ∈ P) (hc : conc P x.n = true) {y : ByteArray} (hy : y ∈ (walkN P x.n).1 ++ ifcE P x.n) {c : Cls} (hl : lk P y = some c) {m : Mth} (hm : m ∈ c.me) (hs : m.st = false) :
    (fst1 (dspF P m.n m.d) (walkN P x.n).1).2.isSome = true := by
  have hxl := lk_of g.nd hx
  unfold conc at hc
  rw [hxl] at hc
  dsimp only at hc
  rw [Bool.and_eq_true] at hc
  have hit : x.it = false := by simpa using hc.1
  have hab : x.ab = false := by simpa using hc.2
  have hy2 : y ∈ (walkN P x.n).1 ∨ y ∈ ifs P x.n := by
    rcases List.mem_append.1 hy with h | h
    · exact Or.inl h
    · rcases ifc_mem.1 h with h | ⟨h1, h2⟩
      · exact Or.inr h
      · unfold isIf at h2
        rw [hxl] at h2
        dsimp only at h2
        rw [hit] at h2
        cases h2
  cases ha : m.ab with
  | false =>
    rcases hy2 with h | h
    · exact fst1_is h (dsp_of g hl hm hs ha)
    · exfalso
      have h1 := ifs_if g x.n y h
      unfold isIf at h1
      rw [hl] at h1
      have h1 : c.it = true := h1
      have hcP := (lk_some hl).1
      have hn : m.n = nClinit := by
        rcases g.each c hcP with hg | hk
        · have h2 : (given.all fun c => !c.it || c.me.all (·.ab)) = true := by decide +kernel
          have h3 := List.all_eq_true.1 h2 c hg
          rw [h1] at h3
          have h4 := List.all_eq_true.1 (by simpa using h3 : c.me.all (·.ab) = true) m hm
          rw [ha] at h4
          cases h4
        · have h5 : k5 c = true := hk 5 (by omega)
          unfold k5 at h5
          rw [h1] at h5
          have h6 : (c.me.any fun m => !m.ab && !nq m.n nClinit) = false := by
            simp only [Bool.not_true, Bool.false_or, Bool.and_eq_true, Bool.not_eq_true'] at h5
            exact h5.2.2
          have h7 := List.any_eq_false.1 h6 m hm
          rw [ha] at h7
          have h8 : nq m.n nClinit = true := by simpa using h7
          exact nq_iff.1 h8
      rw [(k c hcP m hm).2 hn] at hs
      cases hs
  | true =>
    rcases g.each x hx with hg | hk
    · exfalso
      have hgc : c ∈ given := by
        rcases hy2 with h | h
        · obtain ⟨e, _, h2, _, _⟩ := walk_none g x.n
          obtain ⟨d, hd, _, h4⟩ := given_pth g _ x hg h2 y h
          rw [hl] at h4
          cases h4
          exact hd
        · rw [given_ifs g hg] at h
          cases h
      have h2 : (given.all fun c => c.it || c.me.all fun m => !m.ab) = true := by decide +kernel
      have h3 := List.all_eq_true.1 h2 c hgc
      rw [Bool.or_eq_true] at h3
      rcases h3 with h3 | h3
      · rcases hy2 with h | h
        · obtain ⟨e, _, h5, _, _⟩ := walk_none g x.n
          have hcn := (lk_some hl).2
          rcases given_sup g _ x hg h5 y h with h6 | ⟨d, hd, h6⟩
          · rw [h6, hxl] at hl
            cases hl
            rw [hit] at h3
            cases h3
          · have h7 : (given.all fun d => given.all fun c => !nq c.n d.s || !c.it) = true := by decide +kernel
            have h8 := List.all_eq_true.1 (List.all_eq_true.1 h7 d hd) c hgc
            rw [nq_iff.2 (hcn.trans h6.symm), h3] at h8
            cases h8
        · rw [given_ifs g hg] at h
          cases h
      · have h4 := List.all_eq_true.1 h3 m hm
        rw [ha] at h4
        cases h4
    · have h7 : k7 P x = true := hk 7 (by omega)
      rw [k7_eq, hab] at h7
      have h8 := List.all_eq_true.1 (by simpa using h7 : ((walkN P x.n).1 ++ ifs P x.n).all (ansN P (walkN P x.n).1) = true) y (List.mem_append.2 hy2)
      unfold ansN meOf at h8
      rw [hl] at h8
      have h9 := List.all_eq_true.1 h8 m hm
      unfold ansA at h9
      rw [ha] at h9
      have h10 : answ (lk P) (walkN P x.n).1 m = true := by simpa using h9
      unfold answ at h10
      obtain ⟨n', hn', h11⟩ := List.any_eq_true.1 h10
      obtain ⟨o, ho, h12⟩ := List.any_eq_true.1 h11
      unfold meOf at ho
      cases hl' : lk P n' with
      | none => rw [hl'] at ho; cases ho
      | some c' =>
        rw [hl'] at ho
        simp only [Bool.and_eq_true, Bool.not_eq_true'] at h12
        have hF := dsp_of g hl' ho h12.2.2.1 h12.2.2.2
        rw [nq_iff.1 h12.1, nq_iff.1 h12.2.1] at hF
        exact fst1_is hn' hF
end Go.Proofs.YthmepecmeambmaaGreat
