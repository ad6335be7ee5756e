/- Which type is one of another; what is above two. -/
/- What two classes, and two types, have above them. -/
import Derived.Test.YthmepecmeambmaaGreatKLsB
import Derived.Shelf.Strings.Repeat
import Derived.Shelf.Lay
import Derived.Ground.NamesProg
import Derived.Lib.Agree
namespace Go.Proofs.YthmepecmeambmaaGreat
open Go.RowKit
set_option linter.unusedVariables false

abbrev nLObject : ByteArray := ⟨#[76, 79, 98, 106, 101, 99, 116, 59]⟩
theorem of_object (w : World) : Calls Tryz.prog 125 #[.string ⟨#[79, 98, 106, 101, 99, 116]⟩] w fun e w' => e = .returned (.string nLObject) ∧ w' = w := by
  have h := of_t ⟨#[79, 98, 106, 101, 99, 116]⟩ w (by decide)
  have e : ms (ofL (bl ⟨#[79, 98, 106, 101, 99, 116]⟩)) = nLObject := by decide +kernel
  rw [e] at h
  exact h

/-- Is the type one of the other? -/
def typeB (P : List Cls) (a b : ByteArray) : Bool :=
  if !knownB P a || !knownB P b then false
  else
    let x := (peel a b).1
    let y := (peel a b).2.1
    if x.toList == y.toList then true
    else if elemB (bl x) then y.toList == nLObject.toList
    else subC P (ms (classL (bl x))) (ms (classL (bl y)))

set_option maxHeartbeats 16000000 in
theorem typeS_any (a b : ByteArray) (P : List Cls) (g bb : Nat) (w : World) (h : Pm w g bb P) (hI : imIn P) (ha : a.size ≤ 1000) (hb : b.size ≤ 1000) :
    Calls Tryz.prog 54 #[.pointer (some ⟨g, 0, none⟩), .string a, .string b] w fun e w' => e = .returned (.bool (typeB P a b)) ∧ Ch w w' := by
  have HK1 : Hid (∀ w', Ch w w' → Calls Tryz.prog 52 #[.pointer (some ⟨g, 0, none⟩), .string a] w' fun e w2 => e = .returned (.bool (knownB P a)) ∧ Ch w' w2) := fun w' k => known_any a P g bb w' (h.keep k) ha
  have HK2 : Hid (∀ w', Ch w w' → Calls Tryz.prog 52 #[.pointer (some ⟨g, 0, none⟩), .string b] w' fun e w2 => e = .returned (.bool (knownB P b)) ∧ Ch w' w2) := fun w' k => known_any b P g bb w' (h.keep k) hb
  have HPE : Hid (∀ w, Calls Tryz.prog 120 #[.string a, .string b] w fun e w' => e = .returned (.tuple #[.string (peel a b).1, .string (peel a b).2.1, .int .i64 ((peel a b).2.2 : Nat)]) ∧ Ch w w') := fun w => peel_any a b w ha hb
  obtain ⟨hp1, hp2⟩ := peel_size a b
  have HEL : Hid (∀ w, Calls Tryz.prog 124 #[.string (peel a b).1] w fun e w' => e = .returned (.tuple #[.string (ms (elemL (bl (peel a b).1))), .bool (elemB (bl (peel a b).1))]) ∧ Ch w w') := fun w => elem_t _ w (by omega)
  have HC1 : Hid (∀ w, Calls Tryz.prog 121 #[.string (peel a b).1] w fun e w' => e = .returned (.string (ms (classL (bl (peel a b).1)))) ∧ Ch w w') := fun w => class_t _ w (by omega)
  have HC2 : Hid (∀ w, Calls Tryz.prog 121 #[.string (peel a b).2.1] w fun e w' => e = .returned (.string (ms (classL (bl (peel a b).2.1)))) ∧ Ch w w') := fun w => class_t _ w (by omega)
  have HS : Hid (∀ x y w', Ch w w' → Calls Tryz.prog 48 #[.pointer (some ⟨g, 0, none⟩), .string x, .string y] w' fun e w2 => e = .returned (.bool (subC P x y)) ∧ Ch w' w2) := fun x y w' k => sub_any x y P g bb w' (h.keep k) hI
  clear h hI
  unfold typeB
  generalize knownB P a = ka at *
  generalize knownB P b = kb at *
  obtain ⟨p, hp⟩ : ∃ p, peel a b = p := ⟨_, rfl⟩
  rw [hp] at HPE HEL HC1 HC2 hp1 hp2 ⊢
  clear hp
  obtain ⟨x, y, dn⟩ := p
  dsimp only at *
  have HSS := HS.out (ms (classL (bl x))) (ms (classL (bl y)))
  generalize subC P (ms (classL (bl x))) (ms (classL (bl y))) = sv at *
  have hk1 := HK1.out w (Ch.refl _)
  clear HS
  cases ka
  · have hr : (if (!false || !kb) = true then false else if (x.toList == y.toList) = true then true else if elemB (bl x) = true then y.toList == nLObject.toList else sv) = false := by simp
    rw [hr]
    clear hr
    go_enter Tryz.func54, Tryz.ntmps54
    go_wp2_with (first
      | (go_at_call 52; (with_reducible refine hk1.mono ?_); clear hk1; rintro e w1 ⟨rfl, c1⟩)
      | fail)
    go_ret
    exact ⟨rfl, c1⟩
  · cases kb
    · have hr : (if (!true || !false) = true then false else if (x.toList == y.toList) = true then true else if elemB (bl x) = true then y.toList == nLObject.toList else sv) = false := by simp
      rw [hr]
      clear hr
      go_enter Tryz.func54, Tryz.ntmps54
      go_wp2_with (first
        | (go_at_call 52; (with_reducible refine hk1.mono ?_); clear hk1; rintro e w1 ⟨rfl, c1⟩; have hk2 := HK2.out w1 c1)
        | (go_at_call 52; (with_reducible refine hk2.mono ?_); clear hk2; rintro e w2 ⟨rfl, c2⟩)
        | fail)
      go_ret
      exact ⟨rfl, c1.trans c2⟩
    · have hr : (if (!true || !true) = true then false else if (x.toList == y.toList) = true then true else if elemB (bl x) = true then y.toList == nLObject.toList else sv) = (if (x.toList == y.toList) = true then true else if elemB (bl x) = true then y.toList == nLObject.toList else sv) := by simp
      rw [hr]
      clear hr
      cases hxy : (x.toList == y.toList)
      · have hr : (if false = true then true else if elemB (bl x) = true then y.toList == nLObject.toList else sv) = (if elemB (bl x) = true then y.toList == nLObject.toList else sv) := by simp
        rw [hr]
        clear hr
        generalize hcx : ms (classL (bl x)) = cx at *
        generalize hcy : ms (classL (bl y)) = cy at *
        clear hcx hcy
        generalize ms (elemL (bl x)) = ex at *
        obtain ⟨eb, heb⟩ : ∃ q, elemB (bl x) = q := ⟨_, rfl⟩
        rw [heb] at HEL ⊢
        clear heb
        cases eb
        · have hr : (if false = true then y.toList == nLObject.toList else sv) = sv := by simp
          rw [hr]
          clear hr
          go_enter Tryz.func54, Tryz.ntmps54
          go_wp2_with (first
            | (go_at_call 52; (with_reducible refine hk1.mono ?_); clear hk1; rintro e w1 ⟨rfl, c1⟩; have hk2 := HK2.out w1 c1)
            | (go_at_call 52; (with_reducible refine hk2.mono ?_); clear hk2; rintro e w2 ⟨rfl, c2⟩; have hpe := HPE.out w2)
            | (go_at_call 120; (with_reducible refine hpe.mono ?_); clear hpe; rintro e w3 ⟨rfl, c3⟩; have hel := HEL.out w3)
            | (go_at_call 124; (with_reducible refine hel.mono ?_); clear hel; rintro e w4 ⟨rfl, c4⟩; have hc1 := HC1.out w4)
            | (go_at_call 121; (with_reducible refine hc1.mono ?_); clear hc1; rintro e w5 ⟨rfl, c5⟩; have hc2 := HC2.out w5)
            | (go_at_call 121; (with_reducible refine hc2.mono ?_); clear hc2; rintro e w6 ⟨rfl, c6⟩; have hss := HSS w6 (((((c1.trans c2).trans c3).trans c4).trans c5).trans c6))
            | (go_at_call 48; (with_reducible refine hss.mono ?_); clear hss; rintro e w7 ⟨rfl, c7⟩)
            | fail)
          go_ret
          exact ⟨rfl, ((((((c1.trans c2).trans c3).trans c4).trans c5).trans c6).trans c7)⟩
        · have hr : (if true = true then y.toList == nLObject.toList else sv) = (y.toList == nLObject.toList) := by simp
          rw [hr]
          clear hr
          obtain ⟨yo, hyo⟩ : ∃ q, (y.toList == nLObject.toList) = q := ⟨_, rfl⟩
          rw [hyo]
          have hLO : nLObject.toList = [76, 79, 98, 106, 101, 99, 116, 59] := by decide +kernel
          rw [hLO] at hyo
          go_enter Tryz.func54, Tryz.ntmps54
          go_wp2_with (first
            | (go_at_call 52; (with_reducible refine hk1.mono ?_); clear hk1; rintro e w1 ⟨rfl, c1⟩; have hk2 := HK2.out w1 c1)
            | (go_at_call 52; (with_reducible refine hk2.mono ?_); clear hk2; rintro e w2 ⟨rfl, c2⟩; have hpe := HPE.out w2)
            | (go_at_call 120; (with_reducible refine hpe.mono ?_); clear hpe; rintro e w3 ⟨rfl, c3⟩; have hel := HEL.out w3)
            | (go_at_call 124; (with_reducible refine hel.mono ?_); clear hel; rintro e w4 ⟨rfl, c4⟩; have hob := of_object w4)
            | (go_at_call 125; (with_reducible refine hob.mono ?_); clear hob; rintro e w5 ⟨rfl, hw⟩; have hw := hw.symm; subst hw)
            | fail)
          go_ret
          exact ⟨by rw [← hyo]; rfl, ((c1.trans c2).trans c3).trans c4⟩
      · have hr : (if true = true then true else if elemB (bl x) = true then y.toList == nLObject.toList else sv) = true := by simp
        rw [hr]
        clear hr
        go_enter Tryz.func54, Tryz.ntmps54
        go_wp2_with (first
          | (go_at_call 52; (with_reducible refine hk1.mono ?_); clear hk1; rintro e w1 ⟨rfl, c1⟩; have hk2 := HK2.out w1 c1)
          | (go_at_call 52; (with_reducible refine hk2.mono ?_); clear hk2; rintro e w2 ⟨rfl, c2⟩; have hpe := HPE.out w2)
          | (go_at_call 120; (with_reducible refine hpe.mono ?_); clear hpe; rintro e w3 ⟨rfl, c3⟩)
          | fail)
        go_ret
        exact ⟨rfl, (c1.trans c2).trans c3⟩
theorem typeS_nil (a b : ByteArray) (w : World) : Calls Tryz.prog 54 #[.pointer none, .string a, .string b] w fun e w' => e = .returned (.bool false) ∧ w' = w := by
  have hk := known_nil a w
  go_enter Tryz.func54, Tryz.ntmps54
  go_wp2_with (first
    | (go_at_call 52; (with_reducible refine hk.mono ?_); clear hk; rintro e w1 ⟨rfl, hw⟩; have hw := hw.symm; subst hw)
    | fail)
  go_ret
  exact ⟨rfl, rfl⟩
end Go.Proofs.YthmepecmeambmaaGreat
namespace Go.Proofs
open Go.Shelf Go.RowKit
shelf_lay Lays.n105 Nm 105 at Tryz as Tryz.repLays
theorem Tryz.repExtra : Builder.Extra Tryz.prog Tryz.repLays_ren where
  sizeBuilder := by kernel_rfl
  liesBuilder := by kernel_rfl
  t5 := Tryz.repLays.t5
  a5 := Tryz.repLays.a5
  z5 := Tryz.repLays.z5
  v5 := Tryz.repLays.v5
  infoByte := by kernel_rfl
  cellsByte := by kernel_rfl
  sizeByte := by kernel_rfl
  neB5 := by decide
end Go.Proofs
namespace Go.Proofs.YthmepecmeambmaaGreat
open Go.RowKit Go.Shelf
set_option linter.unusedVariables false

/-- So many times `[`. -/
def dimsL (d : Nat) : List UInt8 := Lib.repeatL [91] d
theorem repeat_any (d : Nat) (w : World) (h : d ≤ 1000) : Calls Tryz.prog 128 #[.string ⟨#[91]⟩, .int .i64 (d : Int)] w fun e w' => e = .returned (.string (ms (dimsL d))) ∧ Ch w w' := by
  have hs := Any.strings_Repeat Tryz.repLays Tryz.repExtra ⟨#[91]⟩ d w (by omega) (by
    have e : (⟨#[91]⟩ : ByteArray).size = 1 := rfl
    rw [e]; omega)
  refine (show Calls Tryz.prog 128 _ _ _ from hs).mono ?_
  rintro e w' ⟨rfl, hb⟩
  exact ⟨rfl, Ch.of_below hb⟩

theorem wk_inP {P : List Cls} : ∀ (f : Nat) (n : ByteArray) (way : List ByteArray), (∀ s ∈ way, s ∈ nms P) → ∀ s ∈ (wk (lk P) f n way).1, s ∈ nms P
  | 0, n, way, h => h
  | f + 1, n, way, h => by
    intro s hs
    rw [wk] at hs
    cases hl : lk P n with
    | none => rw [hl] at hs; exact h s hs
    | some c =>
      rw [hl] at hs
      dsimp only at hs
      split at hs
      · cases hs
      · refine wk_inP f c.s (way ++ [n]) (fun x hx => ?_) s hs
        rcases List.mem_append.1 hx with hx | hx
        · exact h x hx
        · rw [List.mem_singleton] at hx
          subst hx
          obtain ⟨h1, h2⟩ := lk_some hl
          exact List.mem_map.2 ⟨c, h1, h2⟩
theorem walk_in (n : ByteArray) (P : List Cls) : ∀ s ∈ (walkN P n).1, s ∈ nms P := wk_inP _ _ _ (fun s hs => by cases hs)
def comB (P : List Cls) (a b : ByteArray) : ByteArray := if !thereB P a || !thereB P b then ⟨#[]⟩ else ((walkN P a).1.find? fun s => hasN (walkN P b).1 s).getD ⟨#[]⟩
set_option maxHeartbeats 8000000 in
set_option maxRecDepth 100000 in
theorem common_any (a b : ByteArray) (P : List Cls) (g bb : Nat) (w : World) (h : Pm w g bb P) (hsz : ∀ s ∈ nms P, s.size ≤ 100000) :
    Calls Tryz.prog 50 #[.pointer (some ⟨g, 0, none⟩), .string a, .string b] w fun e w' => e = .returned (.string (comB P a b)) ∧ Ch w w' := by
  have ht1 := there_any a P g bb w h
  have HT2 : Hid (∀ w', Ch w w' → Calls Tryz.prog 118 #[.pointer (some ⟨g, 0, none⟩), .string b] w' fun e w2 => e = .returned (.bool (thereB P b)) ∧ Ch w' w2) := fun w' k => there_any b P g bb w' (h.keep k)
  have HS1 : Hid (∀ w', Ch w w' → Calls Tryz.prog 33 #[.pointer (some ⟨g, 0, none⟩), .string a] w' fun e w2 => ∃ v, e = .returned v ∧ Ow 1 9 RS w'.heap.size w2 v (walkN P a).1 ∧ Ch w' w2) := fun w' k => supers_any a P g bb w' (h.keep k)
  have HS2 : Hid (∀ w', Ch w w' → Calls Tryz.prog 33 #[.pointer (some ⟨g, 0, none⟩), .string b] w' fun e w2 => ∃ v, e = .returned v ∧ Ow 1 9 RS w'.heap.size w2 v (walkN P b).1 ∧ Ch w' w2) := fun w' k => supers_any b P g bb w' (h.keep k)
  have HZ : Hid (∀ s ∈ (walkN P a).1, s.size ≤ 100000) := fun s hs => hsz s (walk_in a P s hs)
  clear h hsz
  unfold comB
  generalize thereB P a = ta at *
  generalize thereB P b = tb at *
  generalize (walkN P a).1 = la at *
  generalize (walkN P b).1 = lb at *
  cases ta
  · have hr : (if (!false || !tb) = true then (⟨#[]⟩ : ByteArray) else (la.find? fun s => hasN lb s).getD ⟨#[]⟩) = ⟨#[]⟩ := by simp
    rw [hr]
    clear hr
    go_enter Tryz.func50, Tryz.ntmps50
    go_wp2_with (first
      | (go_at_call 118; (with_reducible refine ht1.mono ?_); clear ht1; rintro e w1 ⟨rfl, c1⟩)
      | fail)
    go_ret
    exact ⟨rfl, c1⟩
  · cases tb
    · have hr : (if (!true || !false) = true then (⟨#[]⟩ : ByteArray) else (la.find? fun s => hasN lb s).getD ⟨#[]⟩) = ⟨#[]⟩ := by simp
      rw [hr]
      clear hr
      go_enter Tryz.func50, Tryz.ntmps50
      go_wp2_with (first
        | (go_at_call 118; (with_reducible refine ht1.mono ?_); clear ht1; rintro e w1 ⟨rfl, c1⟩; have ht2 := HT2.out w1 c1)
        | (go_at_call 118; (with_reducible refine ht2.mono ?_); clear ht2; rintro e w2 ⟨rfl, c2⟩)
        | fail)
      go_ret
      exact ⟨rfl, c1.trans c2⟩
    · have hr : (if (!true || !true) = true then (⟨#[]⟩ : ByteArray) else (la.find? fun s => hasN lb s).getD ⟨#[]⟩) = (la.find? fun s => hasN lb s).getD ⟨#[]⟩ := by simp
      rw [hr]
      clear hr
      obtain ⟨r, hr⟩ : ∃ r, (la.find? fun s => hasN lb s) = r := ⟨_, rfl⟩
      rw [hr]
      have HR : Hid ((la.find? fun s => hasN lb s) = r) := hr
      clear hr
      go_enter Tryz.func50, Tryz.ntmps50
      go_wp2_with (first
        | (go_at_call 118; (with_reducible refine ht1.mono ?_); clear ht1; rintro e w1 ⟨rfl, c1⟩; have ht2 := HT2.out w1 c1)
        | (go_at_call 118; (with_reducible refine ht2.mono ?_); clear ht2; rintro e w2 ⟨rfl, c2⟩; have hs2 := HS2.out w2 (c1.trans c2))
        | (go_at_call 33; (with_reducible refine hs2.mono ?_); clear hs2; rintro e w3 ⟨v3, rfl, o3, c3⟩; have hs1 := HS1.out w3 ((c1.trans c2).trans c3); have HO3 : Hid (∀ w', Ch w3 w' → Sl 1 RS w' v3 lb) := fun w' k => (o3.keepS k).sl; obtain ⟨a3, d3, rfl⟩ := o3.form; clear o3)
        | (go_at_call 33; (with_reducible refine hs1.mono ?_); clear hs1; rintro e w4 ⟨v4, rfl, o4, c4⟩; have hl4 : la.length ≤ 9223372036854775807 := (by obtain ⟨_, _, _, q1, q2⟩ := o4.sl.form; omega); have HO4 : Hid (∀ w', Ch w4 w' → Sl 1 RS w' v4 la) := fun w' k => (o4.keepS k).sl; obtain ⟨a4, d4, rfl⟩ := o4.form; clear o4)
        | fail)
      have HC4 : Hid (Ch w w4) := ((c1.trans c2).trans c3).trans c4
      have HC34 : Hid (Ch w3 w4) := c4
      clear c1 c2 c3 c4
      go_loopw [27] (fun i wr => ∃ k : Nat, k ≤ la.length ∧ i = .int .i64 k ∧ ((la.drop k).find? fun s => hasN lb s) = r ∧ wr = w4) (fun i _ => la.length - (intOf i).toNat)
      case atStart => exact ⟨0, Nat.zero_le _, rfl, HR.out, rfl⟩
      case round =>
        clear HR
        obtain ⟨k, hk, rfl, hno, rfl⟩ := hrel
        by_cases hlt : k < la.length
        · obtain ⟨s, hs⟩ : ∃ s, la[k]? = some s := ⟨_, List.getElem?_eq_getElem hlt⟩
          obtain ⟨b', off, rfl, q0⟩ := (HO4.out wr (Ch.refl _)).atS hs
          have hcn := containsS_any s lb _ wr (HO3.out wr HC34.out)
          have hcl := clone_any s wr (HZ.out s (List.mem_of_getElem? hs))
          rw [find_step _ hs] at hno
          clear hs
          cases hh : hasN lb s
          · rw [hh] at hno hcn
            have HN : Hid (((la.drop (k + 1)).find? fun s => hasN lb s) = r) := (show _ = r by simpa using hno)
            clear hno hh
            go_wp2_with (first
              | (go_at_call 100; (with_reducible refine hcn.mono ?_); clear hcn; rintro e w5 ⟨rfl, hw⟩; have hw := hw.symm; subst hw)
              | fail)
            exact ⟨⟨k + 1, by omega, by go_num, HN.out, by first | rfl | trivial⟩, by simp [intOf]; omega⟩
          · rw [hh] at hno hcn
            have HN : Hid (some s = r) := (show some s = r by simpa using hno)
            clear hno hh
            go_wp2_with (first
              | (go_at_call 100; (with_reducible refine hcn.mono ?_); clear hcn; rintro e w5 ⟨rfl, hw⟩; have hw := hw.symm; subst hw)
              | (go_at_call 79; (with_reducible refine hcl.mono ?_); clear hcl; rintro e w6 ⟨rfl, c6⟩)
              | fail)
            go_ret
            exact ⟨by rw [← HN.out]; rfl, HC4.out.trans c6⟩
        · obtain rfl : k = la.length := by omega
          rw [List.drop_length, List.find?_nil] at hno
          subst hno
          go_wp2_with fail
          go_ret
          exact ⟨rfl, HC4.out⟩
theorem common_nil (a b : ByteArray) (w : World) : Calls Tryz.prog 50 #[.pointer none, .string a, .string b] w fun e w' => e = .returned (.string ⟨#[]⟩) ∧ w' = w := by
  have hk := there_nil a w
  go_enter Tryz.func50, Tryz.ntmps50
  go_wp2_with (first
    | (go_at_call 118; (with_reducible refine hk.mono ?_); clear hk; rintro e w1 ⟨rfl, hw⟩; have hw := hw.symm; subst hw)
    | fail)
  go_ret
  exact ⟨rfl, rfl⟩
end Go.Proofs.YthmepecmeambmaaGreat
