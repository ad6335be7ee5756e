/- A class and what is read of its bytes. -/
import Derived.Test.YtdalibfgkkgcpaaGreatKDecH
import Derived.Test.YtdalibfgkkgcpaaGreatKEqA
namespace Go.Proofs.YtdalibfgkkgcpaaGreat
open Go.RowKit
set_option linter.unusedVariables false

theorem own_shape (x : Ins) : (own x).op = x.op := rfl
theorem if_if {α : Type} (b : Bool) (x y : α) (f : α → List Int) : (if b then f (if b then x else y) else []) = if b then f x else [] := by cases b <;> rfl
theorem pick_if (b : Bool) (x y : ByteArray) : pickL b (if b then x else y) = pickL b x := by cases b <;> rfl
theorem insX_own (x : Ins) : insX (own x) = insX x := by
  unfold insX own
  dsimp only
  rw [pick_if, pick_if, pick_if]
theorem insB_own (L : List (List UInt8)) (x : Ins) : insB L (own x) = insB L x := by
  unfold insB
  rw [insX_own]
  unfold own
  dsimp only
  rw [if_if _ _ _ (fun a => be a 4), if_if _ _ _ (fun a => be a 4)]
theorem insE_own (l m : Int) (x : Ins) : insE l m (own x) = insE l m x := by
  unfold insE own
  dsimp only
  generalize kd (ix x.op) = k
  by_cases h2 : k = 2
  · subst h2; rfl
  by_cases h3 : k = 3
  · subst h3; rfl
  by_cases h4 : k = 4
  · subst h4; rfl
  by_cases h5 : k = 5
  · subst h5; rfl
  by_cases h6 : k = 6
  · subst h6; rfl
  by_cases h7 : k = 7
  · subst h7; rfl
  by_cases h8 : k = 8
  · subst h8; rfl
  by_cases h9 : k = 9
  · subst h9; rfl
  by_cases h10 : k = 10
  · subst h10; rfl
  simp [chk, nam, sA, sB, h2, h3, h4, h5, h6, h7, h8, h9, h10]
theorem firstF_map {α : Type} (f : α → Int) (g : α → α) (h : ∀ x, f (g x) = f x) : ∀ l : List α, firstF f (l.map g) = firstF f l
  | [] => rfl
  | x :: l => by rw [List.map_cons, firstF, firstF, h, firstF_map f g h l]
theorem mthX_own (m : Mth) : mthX (ownM m) = mthX m := by
  unfold mthX ownM
  dsimp only
  rw [List.flatMap_map]
  simp only [insX_own]
theorem mthB_own (L : List (List UInt8)) (m : Mth) : mthB L (ownM m) = mthB L m := by
  unfold mthB ownM
  dsimp only
  rw [List.flatMap_map, List.length_map]
  simp only [insB_own]
theorem mthE_own (m : Mth) : mthE (ownM m) = mthE m := by
  have h1 : codE (ownM m) = codE m := by
    unfold codE ownM
    dsimp only
    rw [firstF_map _ own (fun x => insE_own _ _ x), List.length_map]
  have h2 : witM (ownM m) = witM m := by unfold witM ownM; dsimp only; rw [List.length_map]
  have h3 : barM (ownM m) = barM m := by unfold barM ownM; dsimp only; rw [List.length_map]
  have h4 : ∀ r, mayN (ownM m) r = mayN m r := fun r => rfl
  have h5 : ∀ n, argM (ownM m) n = argM m n := fun n => rfl
  have h6 : (ownM m).code.length = m.code.length := List.length_map ..
  unfold mthE
  rw [h1, h2, h3, h6]
  rfl
theorem clsX_own (c : Cls) : clsX (ownC c) = clsX c := by
  have h : (c.me.map ownM).flatMap mthX = c.me.flatMap mthX := by rw [List.flatMap_map]; exact congrArg (fun f => c.me.flatMap f) (funext mthX_own)
  unfold clsX ownC
  dsimp only
  rw [h]
theorem poolL_own (c : Cls) : poolL (ownC c) = poolL c := by unfold poolL; rw [clsX_own]
theorem encB_own (c : Cls) : encB (ownC c) = encB c := by
  unfold encB
  rw [poolL_own]
  have h : (c.me.map ownM).flatMap (mthB (poolL c)) = c.me.flatMap (mthB (poolL c)) := by rw [List.flatMap_map]; exact congrArg (fun f => c.me.flatMap f) (funext (mthB_own _))
  unfold clsB ownC
  dsimp only
  rw [h, List.length_map]
theorem chkE_own (c : Cls) : chkE (ownC c) = chkE c := by
  have h1 : polE (ownC c) = polE c := by unfold polE; rw [poolL_own]
  have h2 : hdE (ownC c) = hdE c := by unfold hdE ownC; dsimp only; rw [List.length_map]
  have h3 : firstF mthE (ownC c).me = firstF mthE c.me := firstF_map mthE ownM mthE_own c.me
  unfold chkE
  rw [h1, h2, h3]
  rfl

/- Alike. -/
theorem eqL_map {α : Type} (f : α → α → Bool) (g : α → α) (h : ∀ x, f x (g x) = true) : ∀ l : List α, eqL f l (l.map g) = true
  | [] => rfl
  | x :: l => by rw [List.map_cons, eqL, h, eqL_map f g h l]; rfl
theorem eqM_own (m : Mth) : eqM m (ownM m) = true := by
  have h1 : eqL eqO m.code (m.code.map own) = true := eqL_map eqO own (fun x => by unfold eqO; rw [own_own]; exact eqI_refl _) _
  have h2 : eqL eqH m.hs m.hs = true := eqL_refl eqH (fun x => by simp [eqH]) _
  unfold eqM ownM
  dsimp only
  rw [h1, h2]
  simp
theorem eqC_own (c : Cls) : eqC c (ownC c) = true := by
  have h1 : eqL eqT c.im c.im = true := eqL_refl eqT (fun x => by simp [eqT]) _
  have h2 : eqL eqF c.fs c.fs = true := eqL_refl eqF (fun x => by simp [eqF]) _
  have h3 : eqL eqM c.me (c.me.map ownM) = true := eqL_map eqM ownM eqM_own _
  unfold eqC ownC
  dsimp only
  rw [h1, h2, h3]
  simp
theorem eqL_to {α : Type} (f : α → α → Bool) (g : α → α) (h : ∀ x y, f x y = true → g x = g y) : ∀ a b : List α, eqL f a b = true → a.map g = b.map g
  | [], [], _ => rfl
  | x :: a, y :: b, e => by
    rw [eqL, Bool.and_eq_true] at e
    rw [List.map_cons, List.map_cons, h x y e.1, eqL_to f g h a b e.2]
  | [], _ :: _, e => by simp [eqL] at e
  | _ :: _, [], e => by simp [eqL] at e
theorem txt_of {a b : ByteArray} (h : (a.toList == b.toList) = true) : a = b := by
  have h : a.toList = b.toList := by simpa using h
  rw [bl_toList, bl_toList] at h
  exact bl_ext h
theorem eqI_to {x y : Ins} (h : eqI x y = true) : x = y := by
  simp only [eqI, Bool.and_eq_true] at h
  obtain ⟨h1, h2, h3, h4, h5, h6⟩ := h
  cases x; cases y
  simp only at h1 h2 h3 h4 h5 h6
  rw [beq_iff_eq.1 h1, beq_iff_eq.1 h2, beq_iff_eq.1 h3, txt_of h4, txt_of h5, txt_of h6]
theorem eqM_to (m n : Mth) (h : eqM m n = true) : ownM m = ownM n := by
  simp only [eqM, Bool.and_eq_true] at h
  obtain ⟨h1, h2, h3, h4, h5, h6, h7, h8⟩ := h
  have e7 := eqL_to eqO own (fun x y e => eqI_to e) _ _ h7
  have e8 := eqL_to eqH id (fun x y e => by
    simp only [eqH, Bool.and_eq_true] at e
    obtain ⟨a1, a2, a3, a4⟩ := e
    cases x; cases y
    simp only at a1 a2 a3 a4
    rw [beq_iff_eq.1 a1, beq_iff_eq.1 a2, beq_iff_eq.1 a3, txt_of a4]) _ _ h8
  rw [List.map_id, List.map_id] at e8
  cases m; cases n
  simp only at h1 h2 h3 h4 h5 h6 e7 e8
  simp only [ownM, Mth.mk.injEq]
  exact ⟨txt_of h1, txt_of h2, beq_iff_eq.1 h3, beq_iff_eq.1 h4, beq_iff_eq.1 h5, beq_iff_eq.1 h6, e7, e8⟩
theorem eqC_to (a b : Cls) (h : eqC a b = true) : ownC a = ownC b := by
  simp only [eqC, Bool.and_eq_true] at h
  obtain ⟨h1, h2, h3, h4, h5, h6, h7⟩ := h
  have e5 := eqL_to eqT id (fun x y e => txt_of e) _ _ h5
  have e6 := eqL_to eqF id (fun x y e => by
    simp only [eqF, Bool.and_eq_true] at e
    obtain ⟨a1, a2, a3⟩ := e
    cases x; cases y
    simp only at a1 a2 a3
    rw [txt_of a1, txt_of a2, beq_iff_eq.1 a3]) _ _ h6
  have e7 := eqL_to eqM ownM eqM_to _ _ h7
  rw [List.map_id, List.map_id] at e5 e6
  cases a; cases b
  simp only at h1 h2 h3 h4 e5 e6 e7
  simp only [ownC, Cls.mk.injEq]
  exact ⟨txt_of h1, txt_of h2, beq_iff_eq.1 h3, beq_iff_eq.1 h4, e5, e6, e7⟩
theorem eqC_enc (a b : Cls) (h : eqC a b = true) : encB a = encB b := by rw [← encB_own a, ← encB_own b, eqC_to a b h]

/- What is read of what was written. -/
theorem mth_kinds {m : Mth} (h : mthE m = 0) : ∀ x ∈ m.code, kd (ix x.op) ≠ 0 := by
  unfold mthE at h
  split at h
  · omega
  · rename_i p hp
    by_cases h1 : (!mayN m (ms p.2)) = true
    · rw [if_pos h1] at h; omega
    rw [if_neg h1] at h
    by_cases h2 : (!witM m) = true
    · rw [if_pos h2] at h; omega
    rw [if_neg h2] at h
    by_cases h3 : (m.ab && !barM m) = true
    · rw [if_pos h3] at h; omega
    rw [if_neg h3] at h
    by_cases h4 : (!m.ab && ((m.code.length : Int) == 0)) = true
    · rw [if_pos h4] at h; omega
    rw [if_neg h4] at h
    by_cases h5 : m.ab = true
    · have hb : barM m = true := by
        cases hb : barM m
        · exact absurd (by simp [h5, hb]) h3
        · rfl
      simp [barM] at hb
      have hc0 : m.code = [] := hb.2.2.2.1
      intro x hx
      rw [hc0] at hx; cases hx
    · rw [if_neg h5] at h
      by_cases h6 : m.lo < argM m p.1.length
      · rw [if_pos h6] at h; omega
      rw [if_neg h6] at h
      have hz := orL_zero _ h
      intro x hx hk
      have := firstF_zero _ _ (hz (firstF (insE m.code.length m.lo) m.code) (by simp)) x hx
      unfold insE chk at this
      rw [if_pos hk] at this
      omega
theorem back_pre (c : Cls) (hok : chkE c = 0) (hT : clsT c ≤ 12000) : RdB 0 preR (encB c) (ownC c) := by
  obtain ⟨hC, hP⟩ := cOk_of hok
  have hz := orL_zero _ hok
  have h1 : hdE c = 0 := hz _ (by simp)
  have h2 := firstF_zero _ _ (hz (firstF fldE c.fs) (by simp))
  have h3 := firstF_zero _ _ (hz (firstF mthE c.me) (by simp))
  refine RdB.pre c hC h2 (fun m hm => mth_kinds (h3 m hm)) (fun m hm => by rw [mthE_own]; exact h3 m hm) ?_ (fun t ht => (poolL_mem c t).2 ht) hP (encF_small hT).txt
  unfold hdE at h1 ⊢
  dsimp only
  split at h1
  · next e =>
    split at h1
    · omega
    · next e2 =>
      simp only [Bool.or_eq_true, decide_eq_true_eq, not_or] at e2
      rw [if_pos e, if_neg (by simp; omega)]
  · omega
theorem back_dec (c : Cls) (hok : chkE c = 0) (hT : clsT c ≤ 12000) : decR (encB c) (cl 0) = (ownC c, cl (encB c).length) := dec_back (back_pre c hok hT) (by rw [chkE_own]; exact hok) (encB_own c)
theorem cut_dec (c : Cls) (hok : chkE c = 0) (hT : clsT c ≤ 12000) (k : Nat) (hk : k < (encB c).length) : (decR ((encB c).take k) (cl 0)).2.e = 2 ∧ (decR ((encB c).take k) (cl 0)).2.ea ≤ k := dec_cut (back_pre c hok hT) k hk
theorem sy_ea {s : St} (h : (sy s).e = 0) : (sy s).ea = 0 := by
  unfold sy at h ⊢
  split
  · next he =>
    rw [if_pos he] at h
    split
    · next hf => rw [if_pos hf] at h; simp at h
    · rfl
  · next he => rw [if_neg he] at h; exact absurd h he
theorem dec_ea (bs : List Int) (h : (decR bs (cl 0)).2.e = 0) : (decR bs (cl 0)).2.ea = 0 := by
  have : ∀ c s, (pstR c bs s).2.e = 0 → (pstR c bs s).2.ea = 0 := fun c s h => by
    unfold pstR fb at h ⊢
    split
    · next hb => rw [if_pos hb] at h; exact sy_ea h
    · next hb =>
      rw [if_neg hb] at h
      unfold bd at h ⊢
      dsimp only at h ⊢
      split
      · next hb2 => rw [if_pos hb2] at h; exact sy_ea h
      · next hb2 => rw [if_neg hb2] at h; exact sy_ea h
  exact this _ _ h
theorem encB_pos (c : Cls) : 4 ≤ (encB c).length := by unfold encB headB; simp only [List.length_append, be_len]; omega
theorem pool_in (c : Cls) : ∀ s ∈ poolL c, s.length ≤ (encB c).length := fun s hs => by
  have h1 := sum_mem List.length (poolL c) s hs
  unfold encB headB
  simp only [List.length_append, txB_sum]
  omega
/-- What was read of other bytes. -/
theorem turned_dec (c : Cls) (hok : chkE c = 0) (hT : clsT c ≤ 12000) (bs : List Int) (same : Bool) (hs : (bs = encB c) ↔ same = true) :
    ((decR bs (cl 0)).2.e ≠ 0 → same = false) ∧ ((decR bs (cl 0)).2.e = 0 → chkE (decR bs (cl 0)).1 = 0 ∧ encB (decR bs (cl 0)).1 = bs ∧ eqC c (decR bs (cl 0)).1 = same) := by
  refine ⟨fun he => ?_, fun he => ?_⟩
  · cases same with
    | false => rfl
    | true =>
      rw [hs.2 rfl, back_dec c hok hT] at he
      exact absurd rfl he
  · obtain ⟨h1, h2⟩ := dec_enc bs he
    refine ⟨h1, h2, ?_⟩
    cases same with
    | true => rw [hs.2 rfl, back_dec c hok hT]; exact eqC_own c
    | false =>
      rw [Bool.eq_false_iff]
      intro h
      have := eqC_enc _ _ h
      have := hs.1 (by rw [this, h2])
      simp at this
end Go.Proofs.YtdalibfgkkgcpaaGreat
