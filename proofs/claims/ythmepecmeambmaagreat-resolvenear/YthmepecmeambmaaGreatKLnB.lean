/- ResolveNear: a row of classes, some with a field and a method: they go together. -/
/- ResolveNear: what is found in such a row; Field of a program; a bool's row. -/
import Derived.Test.YthmepecmeambmaaGreatKLrA
import Derived.Test.YthmepecmeambmaaGreatKLpB
import Derived.Test.YthmepecmeambmaaGreatKLvA
namespace Go.Proofs.YthmepecmeambmaaGreat
open Go.RowKit
set_option linter.unusedVariables false

abbrev nF : ByteArray := ⟨#[102]⟩
abbrev nI : ByteArray := ⟨#[73]⟩
abbrev nM : ByteArray := ⟨#[109]⟩
abbrev nearF (st : Bool) : Fld := ⟨nF, nI, st⟩
abbrev nearM (st : Bool) : Mth := ⟨nM, wV, st, false, 0, 1, [wIns], []⟩
def supK : Nat → ByteArray
  | 0 => nObject
  | i + 1 => nameK i
/-- The class of number i, with or without. -/
def nearB (st b : Bool) (i : Nat) : Cls := ⟨nameK i, supK i, false, false, [], if b then [nearF st] else [], if b then [nearM st] else []⟩
def near (st : Bool) (h : Nat → Bool) (n : Nat) : List Cls := (List.range n).map fun i => nearB st (h i) i
theorem near_mem {st : Bool} {h : Nat → Bool} {n : Nat} {c : Cls} (hc : c ∈ near st h n) : ∃ i, i < n ∧ c = nearB st (h i) i := by
  obtain ⟨i, hi, rfl⟩ := List.mem_map.1 hc
  exact ⟨i, List.mem_range.1 hi, rfl⟩
theorem near_in {st : Bool} {h : Nat → Bool} {n i : Nat} (hi : i < n) : nearB st (h i) i ∈ near st h n := List.mem_map.2 ⟨i, List.mem_range.2 hi, rfl⟩
theorem near_len (st : Bool) (h : Nat → Bool) (n : Nat) : (near st h n).length = n := by simp [near]
theorem near_succ (st : Bool) (h : Nat → Bool) (n : Nat) : near st h (n + 1) = near st h n ++ [nearB st (h n) n] := by simp [near, List.range_succ]
theorem near_nms (st : Bool) (h : Nat → Bool) (n : Nat) : nms (near st h n) = (List.range n).map nameK := by unfold nms near; rw [List.map_map]; rfl
theorem near_chk {st b : Bool} {i : Nat} (hi : i < 15) : chkE (nearB st b i) = 0 ∧ clsT (nearB st b i) ≤ 12000 := by
  have h : ((List.range 15).all fun i => [true, false].all fun st => [true, false].all fun b => chkE (nearB st b i) == 0 && decide (clsT (nearB st b i) ≤ 12000)) = true := by decide +kernel
  have h1 := List.all_eq_true.1 h i (List.mem_range.2 hi)
  have h2 := List.all_eq_true.1 h1 st (by cases st <;> simp)
  have h3 := List.all_eq_true.1 h2 b (by cases b <;> simp)
  simpa using h3
theorem near_okc {st : Bool} {h : Nat → Bool} {n : Nat} (hn : n ≤ 15) : okCs (near st h n) := fun c hc => by
  obtain ⟨i, hi, rfl⟩ := near_mem hc
  exact (near_chk (by omega)).2
theorem near_all : ((nms given ++ (List.range 15).map nameK).Nodup) := by decide +kernel
theorem near_nd {st : Bool} {h : Nat → Bool} {n : Nat} (hn : n ≤ 15) : (nms (prog (near st h n))).Nodup := by
  refine (nms_perm (prog_perm _)).nodup_iff.2 ?_
  have e : nms (given ++ near st h n) = nms given ++ (List.range n).map nameK := by rw [← near_nms st h n]; unfold nms; rw [List.map_append]
  rw [e]
  refine near_all.sublist ((List.Sublist.refl _).append ?_)
  have e2 : List.range 15 = List.range n ++ (List.range (15 - n)).map (n + ·) := by
    rw [← List.range_add]
    congr 1
    omega
  rw [e2, List.map_append]
  exact List.sublist_append_left _ _
section
variable {st : Bool} {h : Nat → Bool} {n : Nat}
theorem near_lk (hn : n ≤ 15) {i : Nat} (hi : i < n) : lk (prog (near st h n)) (nameK i) = some (nearB st (h i) i) :=
  lk_of (near_nd hn) ((prog_perm _).mem_iff.2 (List.mem_append_right _ (near_in hi)))
theorem near_giv (hn : n ≤ 15) {c : Cls} (hc : c ∈ given) : lk (prog (near st h n)) c.n = some c :=
  lk_of (near_nd hn) ((prog_perm _).mem_iff.2 (List.mem_append_left _ hc))
theorem near_obj (hn : n ≤ 15) : lk (prog (near st h n)) nObject = some (initC nObject nNone) :=
  near_giv hn (c := initC nObject nNone) (by unfold given; simp)
theorem near_emp (hn : n ≤ 15) : lk (prog (near st h n)) nNone = none := by
  refine lk_none.2 fun hm => ?_
  have hm := (nms_perm (prog_perm _)).mem_iff.1 hm
  have e : nms (given ++ near st h n) = nms given ++ (List.range n).map nameK := by rw [← near_nms st h n]; unfold nms; rw [List.map_append]
  rw [e] at hm
  have hall : ((nms given ++ (List.range 15).map nameK).all fun y => !nq y nNone) = true := by decide +kernel
  have hin : nNone ∈ nms given ++ (List.range 15).map nameK := by
    rcases List.mem_append.1 hm with h1 | h1
    · exact List.mem_append_left _ h1
    · obtain ⟨i, hi, h2⟩ := List.mem_map.1 h1
      exact List.mem_append_right _ (List.mem_map.2 ⟨i, List.mem_range.2 (by have := List.mem_range.1 hi; omega), h2⟩)
  have := List.all_eq_true.1 hall _ hin
  rw [nq_self] at this
  cases this
end
/-- The way up from the class of number i. -/
def wayK : Nat → List ByteArray
  | 0 => [nameK 0, nObject]
  | i + 1 => nameK (i + 1) :: wayK i
theorem wayK_nd {i : Nat} (hi : i < 15) : (wayK i).Nodup := by
  have h : ((List.range 15).all fun i => decide ((wayK i).Nodup)) = true := by decide +kernel
  simpa using List.all_eq_true.1 h i (List.mem_range.2 hi)
theorem wayK_mem {i : Nat} : ∀ {y : ByteArray}, y ∈ wayK i → y = nObject ∨ ∃ j, j ≤ i ∧ y = nameK j := by
  induction i with
  | zero =>
    intro y hy
    simp [wayK] at hy
    rcases hy with rfl | rfl
    · exact Or.inr ⟨0, Nat.le_refl _, rfl⟩
    · exact Or.inl rfl
  | succ i ih =>
    intro y hy
    rcases List.mem_cons.1 hy with rfl | hy
    · exact Or.inr ⟨i + 1, Nat.le_refl _, rfl⟩
    · rcases ih hy with h | ⟨j, hj, h⟩
      · exact Or.inl h
      · exact Or.inr ⟨j, by omega, h⟩
theorem wayK_head (i : Nat) : nameK i ∈ wayK i := by cases i <;> simp [wayK]
section
variable {st : Bool} {h : Nat → Bool} {n : Nat}
theorem near_wk (hn : n ≤ 15) : ∀ (i f : Nat) (way : List ByteArray), i < n → (∀ y ∈ wayK i, y ∉ way) → i + 3 ≤ f → wk (lk (prog (near st h n))) f (nameK i) way = (way ++ wayK i, none)
  | 0, f, way, hi, hw, hf => by
    obtain ⟨f, rfl⟩ : ∃ g, f = g + 3 := ⟨f - 3, by omega⟩
    have h1 : hasN way (nameK 0) = false := hasN_no.2 (hw _ (by simp [wayK]))
    rw [wk_on (near_lk hn hi) h1]
    have h2 : hasN (way ++ [nameK 0]) nObject = false := hasN_no.2 fun hm => by
      rcases List.mem_append.1 hm with hm | hm
      · exact hw nObject (by simp [wayK]) hm
      · have e := wayK_nd (i := 0) (by omega)
        have hm : nObject = nameK 0 := by simpa using hm
        rw [wayK, ← hm] at e
        simp at e
    show wk _ (f + 2) nObject _ = _
    rw [wk_on (near_obj hn) h2]
    show wk _ (f + 1) nNone _ = _
    rw [wk_no (near_emp hn)]
    simp [wayK]
  | i + 1, f, way, hi, hw, hf => by
    obtain ⟨f, rfl⟩ : ∃ g, f = g + 1 := ⟨f - 1, by omega⟩
    have h1 : hasN way (nameK (i + 1)) = false := hasN_no.2 (hw _ (wayK_head _))
    rw [wk_on (near_lk hn hi) h1]
    show wk _ f (nameK i) _ = _
    have hnd := wayK_nd (i := i + 1) (by omega)
    rw [wayK, List.nodup_cons] at hnd
    rw [near_wk hn i f _ (by omega) (fun y hy hm => by
      rcases List.mem_append.1 hm with hm | hm
      · exact hw y (List.mem_cons_of_mem _ hy) hm
      · have hm : y = nameK (i + 1) := by simpa using hm
        rw [hm] at hy
        exact hnd.1 hy) (by omega)]
    simp [wayK]
theorem near_plen : (prog (near st h n)).length = n + 12 := by
  rw [(prog_perm _).length_eq, List.length_append, near_len]
  have : given.length = 12 := by decide +kernel
  omega
theorem near_walk (hn : n ≤ 15) {i : Nat} (hi : i < n) : walkN (prog (near st h n)) (nameK i) = (wayK i, none) := by
  unfold walkN
  rw [near_wk hn i _ [] hi (fun y _ hm => by cases hm) (by rw [near_plen]; omega)]
  rfl
theorem near_ifs (hn : n ≤ 15) {i : Nat} (hi : i < n) : ifs (prog (near st h n)) (nameK i) = [] := by
  unfold ifs
  rw [near_walk hn hi]
  have h3 : ∀ (W : List ByteArray), (∀ y ∈ W, y = nObject ∨ ∃ j, j ≤ i ∧ y = nameK j) → addW (lk (prog (near st h n))) [] W = [] := fun W hW => by
    induction W with
    | nil => rfl
    | cons y r ih =>
      have h4 : imOf (lk (prog (near st h n))) y = [] := by
        unfold imOf
        rcases hW y (by simp) with rfl | ⟨j, hj, rfl⟩
        · rw [near_obj hn]; rfl
        · rw [near_lk hn (by omega)]; rfl
      rw [addW, h4]
      exact ih fun z hz => hW z (List.mem_cons_of_mem _ hz)
  rw [h3 _ (fun y hy => wayK_mem hy)]
  rfl
theorem one_of_nd {P : List Cls} (hn : (nms P).Nodup) {c : Cls} (hc : c ∈ P) : k0 P c = true := by
  unfold k0
  have : (P.filter fun d => nq d.n c.n).length = 1 := by
    induction P with
    | nil => cases hc
    | cons d r ih =>
      have hn' : d.n ∉ nms r ∧ (nms r).Nodup := List.nodup_cons.1 hn
      rw [List.filter_cons]
      rcases List.mem_cons.1 hc with rfl | hc
      · rw [if_pos (nq_self _)]
        have : (r.filter fun d => nq d.n c.n) = [] := List.filter_eq_nil_iff.2 fun y hy hq => hn'.1 (by rw [← nq_iff.1 hq]; exact List.mem_map_of_mem hy)
        rw [this]
        rfl
      · have hne : nq d.n c.n = false := nq_no.2 fun e => hn'.1 (by rw [e]; exact List.mem_map_of_mem hc)
        rw [hne]
        exact ih hn'.2 hc
  rw [this]
  rfl
theorem near_me (hn : n ≤ 15) {y : ByteArray} {i : Nat} (hi : i < n) (hy : y ∈ wayK i) : ∀ m ∈ meOf (lk (prog (near st h n))) y, m.ab = false := fun m hm => by
  unfold meOf at hm
  rcases wayK_mem hy with rfl | ⟨j, hj, rfl⟩
  · rw [near_obj hn] at hm
    have hm : m ∈ [initM] := hm
    rw [List.mem_singleton.1 hm]
    rfl
  · rw [near_lk hn (by omega)] at hm
    have hm : m ∈ (if h j then [nearM st] else []) := hm
    cases hj : h j with
    | false => rw [hj] at hm; cases hm
    | true => rw [hj] at hm; rw [List.mem_singleton.1 hm]
theorem near_keeps (hn : n ≤ 15) {i : Nat} (hi : i < n) {r : Nat} (hr : r < 8) : keeps (prog (near st h n)) (nearB st (h i) i) r = true := by
  have hP := (prog_perm (near st h n)).mem_iff.2 (List.mem_append_right given (near_in (st := st) (h := h) hi))
  match r, hr with
  | 0, _ => exact one_of_nd (near_nd hn) hP
  | 1, _ =>
    show k1 _ _ = true
    unfold k1
    rw [if_neg (by simp [nearB])]
    cases i with
    | zero =>
      have e : (nearB st (h 0) 0).s = nObject := rfl
      rw [e, near_obj hn]
      decide +kernel
    | succ i =>
      have e : (nearB st (h (i + 1)) (i + 1)).s = nameK i := rfl
      rw [e, near_lk hn (by omega)]
      have h2 : ((List.range 15).all fun i => !nq (nameK i) nSys) = true := by decide +kernel
      have h3 := List.all_eq_true.1 h2 i (List.mem_range.2 (by omega))
      simpa [nearB] using h3
  | 2, _ => rfl
  | 3, _ =>
    show k3 _ _ = true
    have e : (nearB st (h i) i).n = nameK i := rfl
    rw [k3_eq, e, near_walk hn hi, near_ifs hn hi]
    rfl
  | 4, _ =>
    show k4 _ = true
    unfold k4 nearB
    cases h i <;> rfl
  | 5, _ => rfl
  | 6, _ =>
    show k6 _ = true
    unfold k6 nearB
    cases h i <;> rfl
  | 7, _ =>
    show k7 _ _ = true
    have e : (nearB st (h i) i).n = nameK i := rfl
    have e2 : (nearB st (h i) i).ab = false := rfl
    rw [k7_eq, e, e2, near_walk hn hi, near_ifs hn hi, Bool.false_or, List.append_nil]
    refine List.all_eq_true.2 fun y hy => List.all_eq_true.2 fun m hm => ?_
    unfold ansA
    rw [near_me hn hi hy m hm]
    rfl
theorem near_yes (hn : n ≤ 15) : link (near st h n) = (some (prog (near st h n)), 0, nNone) := by
  refine link_ok ?_
  unfold link
  rw [if_neg (by rw [near_len]; omega)]
  have h1 : ((near st h n).find? fun c => chkE c != 0) = none := List.find?_eq_none.2 fun c hc => by
    obtain ⟨i, hi, rfl⟩ := near_mem hc
    rw [(near_chk (by omega)).1]
    simp
  have h2 : brkR (prog (near st h n)) (near st h n) [0, 1, 2, 3, 4, 5, 6, 7] = none := by
    unfold brkR
    rw [List.findSome?_eq_none_iff]
    intro r hr
    rw [brk_none]
    intro c hc
    obtain ⟨i, hi, rfl⟩ := near_mem hc
    exact near_keeps hn hi (by simp at hr; omega)
  rw [h1, h2]
  rfl
theorem near_gd (hn : n ≤ 15) : Gd (prog (near st h n)) := by
  rcases link_two (near st h n) (near_okc hn) with ⟨e, m, h1, h2⟩ | ⟨_, g⟩
  · rw [near_yes hn] at h1
    cases h1
  · exact g
end
end Go.Proofs.YthmepecmeambmaaGreat
namespace Go.Proofs.YthmepecmeambmaaGreat
open Go.RowKit
set_option linter.unusedVariables false

/-- The nearest one below j that has it, or none. -/
def wantP (h : Nat → Bool) : Nat → ByteArray
  | 0 => ⟨#[]⟩
  | j + 1 => if h j then nameK j else wantP h j
def anyP (h : Nat → Bool) : Nat → Bool
  | 0 => false
  | j + 1 => h j || anyP h j
theorem wantP_no {h : Nat → Bool} : ∀ {j : Nat}, anyP h j = false → wantP h j = ⟨#[]⟩
  | 0, _ => rfl
  | j + 1, e => by
    rw [anyP, Bool.or_eq_false_iff] at e
    rw [wantP, if_neg (by simp [e.1]), wantP_no e.2]
theorem wantP_is {h : Nat → Bool} : ∀ {j : Nat}, anyP h j = true → ∃ i, i < j ∧ wantP h j = nameK i
  | 0, e => by cases e
  | j + 1, e => by
    rw [anyP] at e
    cases hj : h j with
    | true => exact ⟨j, by omega, by rw [wantP, if_pos hj]⟩
    | false =>
      rw [hj] at e
      obtain ⟨i, hi, h2⟩ := wantP_is (j := j) e
      exact ⟨i, by omega, by rw [wantP, if_neg (by simp [hj]), h2]⟩
theorem fst1_way {F : ByteArray → Option Mth} {m : Mth} {h : Nat → Bool} (hO : F nObject = none) : ∀ (i : Nat), (∀ j, j ≤ i → F (nameK j) = if h j then some m else none) → fst1 F (wayK i) = (wantP h (i + 1), if anyP h (i + 1) then some m else none)
  | 0, hF => by
    rw [wayK, fst1, hF 0 (Nat.le_refl _), wantP, anyP]
    cases h 0 with
    | true => rfl
    | false => simp only [Bool.false_eq_true, if_false]; rw [fst1, hO]; rfl
  | i + 1, hF => by
    rw [wayK, fst1, hF (i + 1) (Nat.le_refl _), wantP, anyP]
    cases h (i + 1) with
    | true => rfl
    | false => simp only [Bool.false_eq_true, if_false, Bool.false_or]; exact fst1_way hO i fun j hj => hF j (by omega)
theorem fst2_way {F : ByteArray → Option Fld} {m : Fld} {h : Nat → Bool} (hO : F nObject = none) : ∀ (i : Nat), (∀ j, j ≤ i → F (nameK j) = if h j then some m else none) → fst2 F (wayK i) = (wantP h (i + 1), if anyP h (i + 1) then some m else none)
  | 0, hF => by
    rw [wayK, fst2, hF 0 (Nat.le_refl _), wantP, anyP]
    cases h 0 with
    | true => rfl
    | false => simp only [Bool.false_eq_true, if_false]; rw [fst2, hO]; rfl
  | i + 1, hF => by
    rw [wayK, fst2, hF (i + 1) (Nat.le_refl _), wantP, anyP]
    cases h (i + 1) with
    | true => rfl
    | false => simp only [Bool.false_eq_true, if_false, Bool.false_or]; exact fst2_way hO i fun j hj => hF j (by omega)
theorem fst1_nil {F : ByteArray → Option Mth} : ∀ {l : List ByteArray}, (∀ y ∈ l, F y = none) → fst1 F l = (⟨#[]⟩, none)
  | [], _ => rfl
  | x :: r, h => by rw [fst1, h x (by simp)]; exact fst1_nil fun y hy => h y (List.mem_cons_of_mem _ hy)
theorem fst2_nil {F : ByteArray → Option Fld} : ∀ {l : List ByteArray}, (∀ y ∈ l, F y = none) → fst2 F l = (⟨#[]⟩, none)
  | [], _ => rfl
  | x :: r, h => by rw [fst2, h x (by simp)]; exact fst2_nil fun y hy => h y (List.mem_cons_of_mem _ hy)
section
variable {st : Bool} {h : Nat → Bool} {n : Nat}
theorem near_abv (hn : n ≤ 15) {i : Nat} (hi : i < n) : abv (prog (near st h n)) (nameK i) = wayK i := by
  have h3 : isIf (prog (near st h n)) (nameK i) = false := by unfold isIf; rw [near_lk hn hi]; rfl
  have h4 : ifcE (prog (near st h n)) (nameK i) = [] := by
    unfold ifcE
    rw [near_ifs hn hi, h3]
    exact List.length_eq_zero_iff.1 (by rw [srtS_len]; simp)
  unfold abv
  rw [near_walk hn hi, h4, List.append_nil]
theorem near_fld (hn : n ≤ 15) {i : Nat} (hi : i < n) (d : ByteArray) (s : Bool) : fldF (prog (near st h n)) nF d s (nameK i) = if h i && (nq nI d && st == s) then some (nearF st) else none := by
  unfold fldF fldQ fsOf
  rw [near_lk hn hi]
  show Option.filter _ ((if h i then [nearF st] else []).find? _) = _
  cases h i with
  | false => rfl
  | true =>
    rw [if_pos rfl, List.find?_cons, show nq (nearF st).n nF = true from nq_self _, Option.filter_some, Bool.true_and]
theorem near_fldO (hn : n ≤ 15) (d : ByteArray) (s : Bool) : fldF (prog (near st h n)) nF d s nObject = none := by
  unfold fldF fldQ fsOf
  rw [near_obj hn]
  rfl
theorem near_mth (hn : n ≤ 15) {i : Nat} (hi : i < n) : mth (prog (near st h n)) (nameK i) nM wV = if h i then some (nearM st) else none := by
  unfold mth meOf
  rw [near_lk hn hi]
  show (if h i then [nearM st] else []).find? _ = _
  cases h i with
  | false => rfl
  | true =>
    have e : mIs nM wV (nearM st) = true := by unfold mIs; rw [nq_self, nq_self]; rfl
    rw [if_pos rfl, List.find?_cons, e]
    rfl
theorem near_mthO (hn : n ≤ 15) : mth (prog (near st h n)) nObject nM wV = none := by
  unfold mth meOf
  rw [near_obj hn]
  show [initM].find? (mIs nM wV) = none
  have e : mIs nM wV initM = false := by decide +kernel
  rw [List.find?_cons, e]
  rfl
theorem near_F (hn : n ≤ 15) {k : Nat} (hk : k < n) : fst2 (fldF (prog (near st h n)) nF nI st) (abv (prog (near st h n)) (nameK k)) = (wantP h (k + 1), if anyP h (k + 1) then some (nearF st) else none) := by
  rw [near_abv hn hk]
  refine fst2_way (near_fldO hn _ _) k fun j hj => ?_
  rw [near_fld hn (by omega), nq_self]
  simp
theorem near_Fs (hn : n ≤ 15) {k : Nat} (hk : k < n) : fst2 (fldF (prog (near st h n)) nF nI (!st)) (abv (prog (near st h n)) (nameK k)) = (⟨#[]⟩, none) := by
  rw [near_abv hn hk]
  refine fst2_nil fun y hy => ?_
  rcases wayK_mem hy with rfl | ⟨j, hj, rfl⟩
  · exact near_fldO hn _ _
  · rw [near_fld hn (by omega)]
    cases st <;> simp
theorem near_Fc (hn : n ≤ 15) {k : Nat} (hk : k < n) : fst2 (fldF (prog (near st h n)) nF ⟨#[67]⟩ st) (abv (prog (near st h n)) (nameK k)) = (⟨#[]⟩, none) := by
  rw [near_abv hn hk]
  refine fst2_nil fun y hy => ?_
  rcases wayK_mem hy with rfl | ⟨j, hj, rfl⟩
  · exact near_fldO hn _ _
  · rw [near_fld hn (by omega)]
    have e : nq nI ⟨#[67]⟩ = false := by decide +kernel
    rw [e]
    simp
theorem near_M (hn : n ≤ 15) {k : Nat} (hk : k < n) : fst1 (mthF (prog (near st h n)) nM wV) (abv (prog (near st h n)) (nameK k)) = (wantP h (k + 1), if anyP h (k + 1) then some (nearM st) else none) := by
  rw [near_abv hn hk]
  exact fst1_way (F := mthF (prog (near st h n)) nM wV) (near_mthO hn) k fun j hj => near_mth hn (by omega)
theorem near_D (hn : n ≤ 15) {k : Nat} (hk : k < n) : fst1 (dspF (prog (near st h n)) nM wV) (walkN (prog (near st h n)) (nameK k)).1 = if st then (⟨#[]⟩, none) else (wantP h (k + 1), if anyP h (k + 1) then some (nearM st) else none) := by
  rw [near_walk hn hk]
  have hF : ∀ j, j ≤ k → dspF (prog (near st h n)) nM wV (nameK j) = if !st && h j then some (nearM st) else none := fun j hj => by
    unfold dspF
    rw [near_mth hn (by omega)]
    cases h j <;> cases st <;> rfl
  have hO : dspF (prog (near st h n)) nM wV nObject = none := by
    unfold dspF
    rw [near_mthO hn]
    rfl
  cases st with
  | true =>
    rw [if_pos rfl]
    refine fst1_nil fun y hy => ?_
    rcases wayK_mem hy with rfl | ⟨j, hj, rfl⟩
    · exact hO
    · rw [hF j hj]; rfl
  | false =>
    rw [if_neg (by simp)]
    exact fst1_way hO k fun j hj => by rw [hF j hj]; simp
end
theorem fieldP_any (c n d : ByteArray) (s : Bool) (P : List Cls) (g b : Nat) (w : World) (h : Pm w g b P) (hT : okCs P) (G : Gd P) :
    Calls Tryz.prog 62 #[.pointer (some ⟨g, 0, none⟩), .string c, .string n, .string d, .bool s] w fun e w' => e = .returned (.tuple #[.string (fst2 (fldF P n d s) (abv P c)).1, .int .i64 (er (fst2 (fldF P n d s) (abv P c)).2)]) ∧ Ch w w' :=
  field_gen c n d s (some ⟨g, 0, none⟩) (abv P c) (fldF P n d s) w (fun x hx => nms_sz hT x (abv_nms G hx))
    (fun w' k => (above_any c P g b w' (h.keep k) G).mono (fun e w2 ⟨v, h1, h2, h3⟩ => ⟨v, h1, h2.sl, h3⟩))
    (fun w' tp tn td ts k k1 k2 k3 k4 x _ => askF_any x n d s tp tn td ts P g b w' (h.keep k) hT k1 k2 k3 k4)
theorem nmN_any (k : Nat) (w : World) (hk : k ≤ 40) : Calls Tryz.prog 76 #[.int .i64 (k : Int)] w fun e w' => e = .returned (.string (nameK k)) ∧ Ch w w' := by
  have HD := decimal_any k w hk
  unfold nameK
  have hss : (strOfNums (decN k)).size ≤ 2 := by
    rw [str_size]; unfold decN; split <;> simp
  obtain ⟨s, hs⟩ : ∃ s, strOfNums (decN k) = s := ⟨_, rfl⟩
  rw [hs] at HD hss ⊢
  clear hs
  go_enter Tryz.func76, Tryz.ntmps76
  go_wp2_with (first
    | (go_at_call 44; (with_reducible refine HD.mono ?_); clear HD; rintro e w3 ⟨rfl, c3⟩)
    | fail)
  go_ret
  exact ⟨rfl, c3⟩
/-- A bool in a row. -/
def RB (w : World) (cs : List Value) (b : Bool) : Prop := cs = [.bool b]
theorem Sl.atB {w : World} {ao : Option Addr} {n cap : Nat} {xs : List Bool} (h : Sl 1 RB w (.slice ao n cap) xs) {i : Nat} {b : Bool} (hi : xs[i]? = some b) : ∃ g off, ao = some ⟨g, off, none⟩ ∧ w.cell? ⟨g, off + i, none⟩ = some (.bool b) := by
  obtain ⟨g, off, cs, ha, rfl, hc⟩ := h.at hi
  exact ⟨g, off, ha, by simpa using hc 0 _ rfl⟩
end Go.Proofs.YthmepecmeambmaaGreat
