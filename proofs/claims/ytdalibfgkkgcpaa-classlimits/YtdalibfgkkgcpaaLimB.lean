/- Classes of many fields, methods, instructions, handlers: their faults. -/
import Derived.Test.YtdalibfgkkgcpaaLimA
namespace Go.Proofs.Ytdalibfgkkgcpaa
open Go.RowKit
set_option linter.unusedVariables false

theorem pool_few {c : Cls} {F rest : List (List UInt8)} (hx : clsX c = F ++ rest) (hr : ∀ s ∈ rest, s ∈ addL [] F) : poolL c = addL [] F := by
  unfold poolL
  rw [hx, addL_app]
  exact addL_mem _ _ hr
theorem pol_few {c : Cls} {F rest : List (List UInt8)} (hx : clsX c = F ++ rest) (hr : ∀ s ∈ rest, s ∈ addL [] F) (hF : F.length ≤ 10) : polE c = 0 := by
  unfold polE
  rw [pool_few hx hr]
  have := addL_len F []
  rw [if_neg]
  simp at this
  omega
theorem rep_flat_len {α β : Type} (g : α → List β) (x : α) : ∀ n, ((List.replicate n x).flatMap g).length = n * (g x).length
  | 0 => by simp
  | n + 1 => by rw [List.replicate_succ, List.flatMap_cons, List.length_append, rep_flat_len g x n, Nat.succ_mul]; omega
theorem hd_lC (fs : List Fld) (me : List Mth) : hdE (lC fs me) = if fs.length ≤ 20 ∧ me.length ≤ 20 then 0 else 5 := by
  have h1 : isName (bl nA) = true := by decide +kernel
  have h2 : empOr nO = true := by decide +kernel
  unfold hdE lC
  simp only [h1, h2, firstF]
  by_cases h : fs.length ≤ 20 ∧ me.length ≤ 20
  · rw [if_pos h]
    have e1 : decide ((20 : Int) < (fs.length : Int)) = false := by simp; omega
    have e2 : decide ((20 : Int) < (me.length : Int)) = false := by simp; omega
    simp [e1, e2]
  · rw [if_neg h]
    have e : (decide ((20 : Int) < (fs.length : Int)) || decide ((20 : Int) < (me.length : Int))) = true := by simp; omega
    simp
    omega
def mA : List UInt8 := [65]
def mO : List UInt8 := [79, 98, 106, 101, 99, 116]
theorem insX_R : insX (lI 36) = [] := by decide +kernel
theorem insX_N : insX (lI 1) = [] := by decide +kernel

theorem chk_fields (n : Nat) : chkE (lC (List.replicate (n + 1) lF) []) = if n + 1 ≤ 20 then 0 else 5 := by
  have hp : polE (lC (List.replicate (n + 1) lF) []) = 0 := by
    refine pol_few (F := [bl nA, bl nO, bl lF.n, bl lF.d]) (rest := (List.replicate n lF).flatMap fldX) ?_ (fun s hs => ?_) (by simp)
    · simp [clsX, lC, List.replicate_succ, fldX]
    · have := flat_rep fldX lF n s hs
      have e : addL [] [bl nA, bl nO, bl lF.n, bl lF.d] = [bl nA, bl nO, bl lF.n, bl lF.d] := by decide +kernel
      rw [e]
      simp [fldX] at this
      rcases this with rfl | rfl <;> simp
  unfold chkE
  rw [hd_lC, hp]
  have e1 : firstF fldE (lC (List.replicate (n + 1) lF) []).fs = 0 := firstF_rep fldE lF lF_ok (n + 1)
  have e2 : firstF mthE (lC (List.replicate (n + 1) lF) []).me = 0 := rfl
  rw [e1, e2]
  simp only [List.length_replicate]
  by_cases h : n + 1 ≤ 20
  · simp [h, orL]
  · simp [h, orL]
theorem chk_methods (n : Nat) : chkE (lC [] (List.replicate (n + 1) (lM 0 0 [lI 36] []))) = if n + 1 ≤ 20 then 0 else 5 := by
  have hx : mthX (lM 0 0 [lI 36] []) = [[109], [40, 41, 86]] := by decide +kernel
  have hp : polE (lC [] (List.replicate (n + 1) (lM 0 0 [lI 36] []))) = 0 := by
    refine pol_few (F := [bl nA, bl nO, [109], [40, 41, 86]]) (rest := (List.replicate n (lM 0 0 [lI 36] [])).flatMap mthX) ?_ (fun s hs => ?_) (by simp)
    · simp [clsX, lC, List.replicate_succ, hx]
    · have := flat_rep mthX _ n s hs
      have e : addL [] [bl nA, bl nO, [109], [40, 41, 86]] = [bl nA, bl nO, [109], [40, 41, 86]] := by decide +kernel
      rw [e]
      rw [hx] at this
      simp at this
      rcases this with rfl | rfl <;> simp
  have hm : mthE (lM 0 0 [lI 36] []) = 0 := by
    rw [lM_chk 0 0 [lI 36] [] (by omega) (by omega) (by rw [firstF, if_pos (lR_ok _ _)]; rfl) rfl (by simp)]
    simp
  unfold chkE
  rw [hd_lC, hp]
  have e1 : firstF fldE (lC [] (List.replicate (n + 1) (lM 0 0 [lI 36] []))).fs = 0 := rfl
  have e2 : firstF mthE (lC [] (List.replicate (n + 1) (lM 0 0 [lI 36] []))).me = 0 := firstF_rep mthE _ hm (n + 1)
  rw [e1, e2]
  simp only [List.length_replicate]
  by_cases h : n + 1 ≤ 20
  · simp [h, orL]
  · simp [h, orL]
/-- One method. -/
theorem chk_one (m : Mth) (x : Int) (hm : mthE m = x) (hp : polE (lC [] [m]) = 0) : chkE (lC [] [m]) = x := by
  unfold chkE
  rw [hd_lC, hp]
  have e1 : firstF fldE (lC [] [m]).fs = 0 := rfl
  have e2 : firstF mthE (lC [] [m]).me = x := by
    show firstF mthE [m] = x
    rw [firstF, hm]
    by_cases h : x = 0
    · rw [if_pos h, h]; rfl
    · rw [if_neg h]
  rw [e1, e2]
  simp [orL]
  omega
theorem pol_one (sk lo : Int) (code : List Ins) (hs : List Hnd) (hc : code.flatMap insX = []) (hh : ∀ s ∈ hs.flatMap hndX, s = []) : polE (lC [] [lM sk lo code hs]) = 0 := by
  cases hs with
  | nil =>
    refine pol_few (F := [bl nA, bl nO, [109], [40, 41, 86]]) (rest := []) ?_ (fun s hs => by simp at hs) (by simp)
    have hcx : clsX (lC [] [lM sk lo code []]) = bl nA :: bl nO :: [109] :: [40, 41, 86] :: ((code.flatMap insX ++ ([] : List Hnd).flatMap hndX) ++ []) := rfl
    rw [hcx, hc]
    rfl
  | cons h hs =>
    refine pol_few (F := [bl nA, bl nO, [109], [40, 41, 86], []]) (rest := hs.flatMap hndX) ?_ (fun s hs' => ?_) (by simp)
    · have h0 : hndX h = [[]] := by
        have := hh (bl h.c) (by simp [hndX])
        simp [hndX, this]
      have hcx : clsX (lC [] [lM sk lo code (h :: hs)]) = bl nA :: bl nO :: [109] :: [40, 41, 86] :: ((code.flatMap insX ++ (h :: hs).flatMap hndX) ++ []) := rfl
      rw [hcx, hc, List.flatMap_cons, h0]
      simp
    · have := hh s (by rw [List.flatMap_cons]; exact List.mem_append_right _ hs')
      subst this
      have e : addL [] [bl nA, bl nO, [109], [40, 41, 86], []] = [bl nA, bl nO, [109], [40, 41, 86], []] := by decide +kernel
      rw [e]
      simp
theorem chk_code (n : Nat) : chkE (lC [] [lM 0 0 (lI 36 :: List.replicate n (lI 1)) []]) = if n + 1 ≤ 200 then 0 else 5 := by
  refine chk_one _ _ ?_ (pol_one _ _ _ _ ?_ (fun s hs => by simp at hs))
  · rw [lM_chk 0 0 _ [] (by omega) (by omega) (by rw [firstF, if_pos (lR_ok _ _)]; exact firstF_rep _ _ (lI_ok _ _) n) rfl (by simp)]
    simp
  · rw [List.flatMap_cons, insX_R, List.nil_append]
    have := rep_flat_len insX (lI 1) n
    rw [insX_N] at this
    exact List.eq_nil_of_length_eq_zero (by simpa using this)
theorem chk_nums (sk lo : Int) (h0 : 0 ≤ sk) (h1 : 0 ≤ lo) : chkE (lC [] [lM sk lo [lI 36] []]) = if sk ≤ 20 ∧ lo ≤ 20 then 0 else 5 := by
  refine chk_one _ _ ?_ (pol_one _ _ _ _ (by rw [List.flatMap_cons, insX_R]; rfl) (fun s hs => by simp at hs))
  rw [lM_chk sk lo [lI 36] [] h0 h1 (by rw [firstF, if_pos (lR_ok _ _)]; rfl) rfl (by simp)]
  simp
theorem chk_hands (n : Nat) : chkE (lC [] [lM 0 0 [lI 36] (List.replicate n lH)]) = if n ≤ 20 then 0 else 5 := by
  refine chk_one _ _ ?_ (pol_one _ _ _ _ (by rw [List.flatMap_cons, insX_R]; rfl) (fun s hs => ?_))
  · rw [lM_chk 0 0 [lI 36] _ (by omega) (by omega) (by rw [firstF, if_pos (lR_ok _ _)]; rfl) (firstF_rep _ _ (lH_ok _ (by simp)) n) (by simp)]
    simp
  · have := flat_rep hndX lH n s hs
    simpa [hndX, lH, bl] using this

theorem lM_fine (sk lo : Int) (code : List Ins) (hs : List Hnd) (hc : ∀ x ∈ code, x = lI 36 ∨ x = lI 1) (hh : ∀ h ∈ hs, h = lH) : MFine (lM sk lo code hs) :=
  ⟨by show (⟨#[109]⟩ : ByteArray).size ≤ 100000; decide, by show (⟨#[40, 41, 86]⟩ : ByteArray).size ≤ 90000; decide, fun x hx => by rcases hc x hx with rfl | rfl <;> decide, fun h hx => by rw [hh h hx]; decide⟩
theorem lC_fine (fs : List Fld) (me : List Mth) (hf : ∀ f ∈ fs, f = lF) (hm : ∀ m ∈ me, MFine m) (hl : (clsX (lC fs me)).length ≤ 50000) : Fine (lC fs me) :=
  ⟨by show ByteArray.size nA ≤ _; decide, by show ByteArray.size nO ≤ _; decide, fun s hs => (by cases hs), fun f hx => by rw [hf f hx]; decide, hm, hl⟩
end Go.Proofs.Ytdalibfgkkgcpaa
