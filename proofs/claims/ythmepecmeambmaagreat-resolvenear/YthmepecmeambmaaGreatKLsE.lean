/- What two types have above them. -/
import Derived.Test.YthmepecmeambmaaGreatKLsD
namespace Go.Proofs.YthmepecmeambmaaGreat
open Go.RowKit Go.Shelf
set_option linter.unusedVariables false

def krB (P : List Cls) (t : ByteArray) : Bool := isRef (bl t) && knownB P t
theorem kr_any (t : ByteArray) (P : List Cls) (g b : Nat) (w : World) (h : Pm w g b P) (ht : t.size ≤ 1000) :
    Calls Tryz.prog 127 #[.pointer (some ⟨g, 0, none⟩), .string t] w fun e w' => e = .returned (.bool (krB P t)) ∧ Ch w w' := by
  have hr := ref_any t w (by omega)
  have hk := known_any t P g b w h ht
  unfold krB
  generalize isRef (bl t) = r at *
  generalize knownB P t = k at *
  cases r <;> cases k <;>
  · go_enter Tryz.func127, Tryz.ntmps127
    go_wp2_with (first
      | (go_at_call 189; (with_reducible refine hr.mono ?_); clear hr; rintro e w1 ⟨rfl, hw⟩; have hw := hw.symm; subst hw)
      | (go_at_call 52; (with_reducible refine hk.mono ?_); clear hk; rintro e w2 ⟨rfl, c2⟩)
      | fail)
    go_ret
    first | exact ⟨rfl, c2⟩ | exact ⟨rfl, Ch.refl _⟩
theorem kr_nil (t : ByteArray) (w : World) (ht : t.size ≤ 1000) : Calls Tryz.prog 127 #[.pointer none, .string t] w fun e w' => e = .returned (.bool false) ∧ w' = w := by
  have hr := ref_any t w (by omega)
  have hk := known_nil t w
  generalize isRef (bl t) = r at *
  cases r <;>
  · go_enter Tryz.func127, Tryz.ntmps127
    go_wp2_with (first
      | (go_at_call 189; (with_reducible refine hr.mono ?_); clear hr; rintro e w1 ⟨rfl, hw⟩; have hw := hw.symm; subst hw)
      | (go_at_call 52; (with_reducible refine hk.mono ?_); clear hk; rintro e w2 ⟨rfl, hw⟩; have hw := hw.symm; subst hw)
      | fail)
    go_ret
    exact ⟨rfl, rfl⟩
theorem merge_nil (a b : ByteArray) (w : World) (ha : a.size ≤ 1000) : Calls Tryz.prog 56 #[.pointer none, .string a, .string b] w fun e w' => e = .returned (.string ⟨#[]⟩) ∧ w' = w := by
  have hk := kr_nil a w ha
  go_enter Tryz.func56, Tryz.ntmps56
  go_wp2_with (first
    | (go_at_call 127; (with_reducible refine hk.mono ?_); clear hk; rintro e w1 ⟨rfl, hw⟩; have hw := hw.symm; subst hw)
    | fail)
  go_ret
  exact ⟨rfl, rfl⟩

/-- Of two references that are peeled. -/
def endsB (P : List Cls) (a b : ByteArray) : ByteArray :=
  if a.toList == b.toList then a
  else if ((ms (classL (bl a))).toList == []) || ((ms (classL (bl b))).toList == []) then nLObject
  else ms (ofL (bl (comB P (ms (classL (bl a))) (ms (classL (bl b))))))
theorem comB_size {P : List Cls} {N : Nat} (hsz : ∀ s ∈ nms P, s.size ≤ N) (a b : ByteArray) : (comB P a b).size ≤ N := by
  unfold comB
  split
  · simp [ByteArray.size]
  · cases hf : (walkN P a).1.find? fun s => hasN (walkN P b).1 s with
    | none => simp [ByteArray.size]
    | some s => exact hsz s (walk_in a P s (List.mem_of_find?_eq_some hf))
set_option maxHeartbeats 8000000 in
theorem ends_any (a b : ByteArray) (P : List Cls) (g bb : Nat) (w : World) (h : Pm w g bb P) (hsz : ∀ s ∈ nms P, s.size ≤ 90000) (ha : a.size ≤ 1000) (hb : b.size ≤ 1000) :
    Calls Tryz.prog 129 #[.pointer (some ⟨g, 0, none⟩), .string a, .string b] w fun e w' => e = .returned (.string (endsB P a b)) ∧ Ch w w' := by
  have hcl := clone_any a w (by omega)
  have HC1 : Hid (∀ w, Calls Tryz.prog 121 #[.string a] w fun e w' => e = .returned (.string (ms (classL (bl a)))) ∧ Ch w w') := fun w => class_t a w (by omega)
  have HC2 : Hid (∀ w, Calls Tryz.prog 121 #[.string b] w fun e w' => e = .returned (.string (ms (classL (bl b)))) ∧ Ch w w') := fun w => class_t b w (by omega)
  have HCM : Hid (∀ x y w', Ch w w' → Calls Tryz.prog 50 #[.pointer (some ⟨g, 0, none⟩), .string x, .string y] w' fun e w2 => e = .returned (.string (comB P x y)) ∧ Ch w' w2) := fun x y w' k => common_any x y P g bb w' (h.keep k) (fun s hs => by have := hsz s hs; omega)
  have HOF : Hid (∀ x y w, Calls Tryz.prog 125 #[.string (comB P x y)] w fun e w' => e = .returned (.string (ms (ofL (bl (comB P x y))))) ∧ w' = w) := fun x y w => of_t _ w (comB_size hsz x y)
  clear h hsz
  unfold endsB
  generalize ms (classL (bl a)) = x at *
  generalize ms (classL (bl b)) = y at *
  have HCM := HCM.out x y
  have HOF := HOF.out x y
  generalize comB P x y = cm at *
  generalize ms (ofL (bl cm)) = om at *
  cases hab : (a.toList == b.toList)
  · have hr : (if false = true then a else if ((x.toList == []) || (y.toList == [])) = true then nLObject else om) = (if ((x.toList == []) || (y.toList == [])) = true then nLObject else om) := by simp
    rw [hr]
    clear hr
    cases hx : (x.toList == []) <;> cases hy : (y.toList == [])
    · have hr : (if (false || false) = true then nLObject else om) = om := by simp
      rw [hr]
      clear hr
      go_enter Tryz.func129, Tryz.ntmps129
      go_wp2_with (first
        | (go_at_call 121; (with_reducible refine (HC1.out _).mono ?_); clear HC1; rintro e w1 ⟨rfl, c1⟩)
        | (go_at_call 121; (with_reducible refine (HC2.out _).mono ?_); clear HC2; rintro e w2 ⟨rfl, c2⟩; have hcm := HCM w2 (c1.trans c2))
        | (go_at_call 50; (with_reducible refine hcm.mono ?_); clear hcm; rintro e w3 ⟨rfl, c3⟩)
        | (go_at_call 125; (with_reducible refine (HOF _).mono ?_); clear HOF; rintro e w4 ⟨rfl, hw⟩; have hw := hw.symm; subst hw)
        | fail)
      go_ret
      exact ⟨rfl, (c1.trans c2).trans c3⟩
    all_goals
      have hr : ∀ q, (if (true || q) = true then nLObject else om) = nLObject ∧ (if (false || true) = true then nLObject else om) = nLObject := by intro q; simp
      first
        | rw [(hr false).2]
        | rw [(hr false).1]
        | rw [(hr true).1]
      clear hr
      go_enter Tryz.func129, Tryz.ntmps129
      go_wp2_with (first
        | (go_at_call 121; (with_reducible refine (HC1.out _).mono ?_); clear HC1; rintro e w1 ⟨rfl, c1⟩)
        | (go_at_call 121; (with_reducible refine (HC2.out _).mono ?_); clear HC2; rintro e w2 ⟨rfl, c2⟩)
        | (go_at_call 125; (with_reducible refine (of_object _).mono ?_); rintro e w4 ⟨rfl, hw⟩; have hw := hw.symm; subst hw)
        | fail)
      go_ret
      exact ⟨rfl, c1.trans c2⟩
  · have hr : (if true = true then a else if ((x.toList == []) || (y.toList == [])) = true then nLObject else om) = a := by simp
    rw [hr]
    clear hr
    go_enter Tryz.func129, Tryz.ntmps129
    go_wp2_with (first
      | (go_at_call 79; (with_reducible refine hcl.mono ?_); clear hcl; rintro e w1 ⟨rfl, c1⟩)
      | fail)
    go_ret
    exact ⟨rfl, c1⟩

theorem peelL_dims : ∀ (f : Nat) (a b : List UInt8) (d : Nat), (peelL f a b d).2.2 ≤ f + d
  | 0, a, b, d => by simp [peelL]
  | f + 1, a, b, d => by
    rw [peelL]
    split
    · have := peelL_dims f (elemL a) (elemL b) (d + 1); omega
    · dsimp only; omega
theorem dims_len (d : Nat) : (ms (dimsL d)).size = d := by
  rw [ms_size]
  unfold dimsL
  induction d with
  | zero => rfl
  | succ d ih => simp [Lib.repeatL] at ih ⊢; exact ih
theorem ofL_len (l : List UInt8) : (ofL l).length ≤ l.length + 2 := by
  unfold ofL
  split <;> simp
theorem endsB_size {P : List Cls} (hsz : ∀ s ∈ nms P, s.size ≤ 90000) (a b : ByteArray) (ha : a.size ≤ 1000) : (endsB P a b).size ≤ 90002 := by
  unfold endsB
  split
  · omega
  · split
    · have e : nLObject.size = 8 := rfl
      omega
    · rw [ms_size]
      have h1 := ofL_len (bl (comB P (ms (classL (bl a))) (ms (classL (bl b)))))
      have h2 := comB_size hsz (ms (classL (bl a))) (ms (classL (bl b)))
      rw [bl_len] at h1
      omega
def mergeB (P : List Cls) (a b : ByteArray) : ByteArray :=
  if !krB P a || !krB P b then ⟨#[]⟩ else ms (dimsL (peel a b).2.2) ++ endsB P (peel a b).1 (peel a b).2.1
set_option maxHeartbeats 8000000 in
theorem merge_any (a b : ByteArray) (P : List Cls) (g bb : Nat) (w : World) (h : Pm w g bb P) (hsz : ∀ s ∈ nms P, s.size ≤ 90000) (ha : a.size ≤ 1000) (hb : b.size ≤ 1000) :
    Calls Tryz.prog 56 #[.pointer (some ⟨g, 0, none⟩), .string a, .string b] w fun e w' => e = .returned (.string (mergeB P a b)) ∧ Ch w w' := by
  have hk1 := kr_any a P g bb w h ha
  have HK2 : Hid (∀ w', Ch w w' → Calls Tryz.prog 127 #[.pointer (some ⟨g, 0, none⟩), .string b] w' fun e w2 => e = .returned (.bool (krB P b)) ∧ Ch w' w2) := fun w' k => kr_any b P g bb w' (h.keep k) hb
  have HPE : Hid (∀ w, Calls Tryz.prog 120 #[.string a, .string b] w fun e w' => e = .returned (.tuple #[.string (peel a b).1, .string (peel a b).2.1, .int .i64 ((peel a b).2.2 : Nat)]) ∧ Ch w w') := fun w => peel_any a b w ha hb
  obtain ⟨hp1, hp2⟩ := peel_size a b
  have hpd : (peel a b).2.2 ≤ 1000 := by
    have := peelL_dims a.size (bl a) (bl b) 0
    show (peelL a.size (bl a) (bl b) 0).2.2 ≤ 1000
    omega
  have HRP : Hid (∀ w, Calls Tryz.prog 128 #[.string ⟨#[91]⟩, .int .i64 ((peel a b).2.2 : Nat)] w fun e w' => e = .returned (.string (ms (dimsL (peel a b).2.2))) ∧ Ch w w') := fun w => repeat_any _ w hpd
  have HEN : Hid (∀ w', Ch w w' → Calls Tryz.prog 129 #[.pointer (some ⟨g, 0, none⟩), .string (peel a b).1, .string (peel a b).2.1] w' fun e w2 => e = .returned (.string (endsB P (peel a b).1 (peel a b).2.1)) ∧ Ch w' w2) := fun w' k => ends_any _ _ P g bb w' (h.keep k) hsz (by omega) (by omega)
  have hes := endsB_size hsz (peel a b).1 (peel a b).2.1 (by omega)
  have hds := dims_len (peel a b).2.2
  clear h hsz
  unfold mergeB
  generalize krB P a = ka at *
  generalize krB P b = kb at *
  obtain ⟨p, hp⟩ : ∃ p, peel a b = p := ⟨_, rfl⟩
  rw [hp] at HPE HRP HEN hp1 hp2 hpd hes hds ⊢
  clear hp
  obtain ⟨x, y, dn⟩ := p
  dsimp only at *
  generalize ms (dimsL dn) = ds at *
  generalize endsB P x y = es at *
  have hds2 : ds.size ≤ 1000 := by omega
  cases ka
  · have hr : (if (!false || !kb) = true then (⟨#[]⟩ : ByteArray) else ds ++ es) = ⟨#[]⟩ := by simp
    rw [hr]
    clear hr
    go_enter Tryz.func56, Tryz.ntmps56
    go_wp2_with (first
      | (go_at_call 127; (with_reducible refine hk1.mono ?_); clear hk1; rintro e w1 ⟨rfl, c1⟩)
      | fail)
    go_ret
    exact ⟨rfl, c1⟩
  · cases kb
    · have hr : (if (!true || !false) = true then (⟨#[]⟩ : ByteArray) else ds ++ es) = ⟨#[]⟩ := by simp
      rw [hr]
      clear hr
      go_enter Tryz.func56, Tryz.ntmps56
      go_wp2_with (first
        | (go_at_call 127; (with_reducible refine hk1.mono ?_); clear hk1; rintro e w1 ⟨rfl, c1⟩; have hk2 := HK2.out w1 c1)
        | (go_at_call 127; (with_reducible refine hk2.mono ?_); clear hk2; rintro e w2 ⟨rfl, c2⟩)
        | fail)
      go_ret
      exact ⟨rfl, c1.trans c2⟩
    · have hr : (if (!true || !true) = true then (⟨#[]⟩ : ByteArray) else ds ++ es) = ds ++ es := by simp
      rw [hr]
      clear hr
      go_enter Tryz.func56, Tryz.ntmps56
      go_wp2_with (first
        | (go_at_call 127; (with_reducible refine hk1.mono ?_); clear hk1; rintro e w1 ⟨rfl, c1⟩; have hk2 := HK2.out w1 c1)
        | (go_at_call 127; (with_reducible refine hk2.mono ?_); clear hk2; rintro e w2 ⟨rfl, c2⟩; have hpe := HPE.out w2)
        | (go_at_call 120; (with_reducible refine hpe.mono ?_); clear hpe; rintro e w3 ⟨rfl, c3⟩; have hrp := HRP.out w3)
        | (go_at_call 128; (with_reducible refine hrp.mono ?_); clear hrp; rintro e w4 ⟨rfl, c4⟩; have hen := HEN.out w4 (((c1.trans c2).trans c3).trans c4))
        | (go_at_call 129; (with_reducible refine hen.mono ?_); clear hen; rintro e w5 ⟨rfl, c5⟩)
        | fail)
      go_ret
      exact ⟨rfl, (((c1.trans c2).trans c3).trans c4).trans c5⟩
end Go.Proofs.YthmepecmeambmaaGreat
