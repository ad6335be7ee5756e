/- What is told of a type: its class, its element; types that are made. -/
/- The contracts of the program's and the document's reader of a method's type. -/
import Derived.Test.YthmepecmeambmaaGreatKMem
namespace Go.Proofs.YthmepecmeambmaaGreat
open Go.RowKit
set_option linter.unusedVariables false

def classL (l : List UInt8) : List UInt8 := if isType l && hd 76 l then (l.drop 1).take (l.length - 2) else []
def elemL (l : List UInt8) : List UInt8 := if isType l && hd 91 l then l.drop 1 else []
def elemB (l : List UInt8) : Bool := isType l && hd 91 l
def onlyL (l : List UInt8) : List UInt8 := if isType l then l else []
def arrL (l : List UInt8) : List UInt8 := onlyL (91 :: l)
def ofL (l : List UInt8) : List UInt8 := if isName l then 76 :: l ++ [59] else []

theorem type_as {s : ByteArray} {b : Bool} (hb : isType (bl s) = b) (hs : s.size ≤ 100000) (w0 : World) : Calls Tryz.prog 119 #[.string s] w0 fun e w' => e = .returned (.bool b) ∧ w' = w0 := by
  have h := type_any s w0 hs; rw [hb] at h; exact h
theorem type_size {s : ByteArray} (h : isType (bl s) = true) : 0 < s.size := by
  obtain ⟨_, h2⟩ := isType_len h
  have := bl_len s
  rcases Nat.eq_zero_or_pos s.size with h0 | h0
  · exact absurd (List.eq_nil_of_length_eq_zero (by omega)) h2
  · exact h0
theorem hd_zero {s : ByteArray} (c : UInt8) (h : 0 < s.size) : hd c (bl s) = ((s[0].toNat : Int) == (c.toNat : Int)) := by
  have h1 := bl_get s 0 h
  cases hb : bl s with
  | nil => rw [hb] at h1; simp at h1
  | cons x r =>
    rw [hb] at h1
    have h1 : x = s[0] := by simpa using h1
    rw [← h1]
    simp only [hd]
    rw [Bool.eq_iff_iff, beq_iff_eq, beq_iff_eq]
    constructor
    · rintro rfl; rfl
    · intro h; exact UInt8.toNat_inj.1 (by omega)
/-- A class type has at least three bytes. -/
theorem cls_size {s : ByteArray} (h : isType (bl s) = true) (h2 : hd 76 (bl s) = true) : 2 ≤ s.size := by
  obtain ⟨r, hr⟩ := hd_yes h2
  obtain ⟨h3, _⟩ := isType_len h
  rw [bl_len, hr, tyn, if_neg (by omega), if_neg (by decide), if_pos rfl] at h3
  have := bl_len s
  rw [hr] at this
  simp at this
  unfold cls at h3
  repeat' split at h3
  all_goals omega

theorem hd_ne {s : ByteArray} {c : UInt8} {b : Bool} (n : Int) (hn : (c.toNat : Int) = n) (h : 0 < s.size) (hb : hd c (bl s) = b) : ((s[0].toNat : Int) != n) = !b := by
  rw [hd_zero c h, hn] at hb
  rw [bne, hb]

theorem only_any (s : ByteArray) (w : World) (hs : s.size ≤ 100000) : Calls Tryz.prog 191 #[.string s] w fun e w' => e = .returned (.string (ms (onlyL (bl s)))) ∧ w' = w := by
  obtain ⟨b, hb⟩ : ∃ b, isType (bl s) = b := ⟨_, rfl⟩
  have hcall := fun w0 => type_as hb hs w0
  cases b
  · have hr : onlyL (bl s) = [] := by unfold onlyL; rw [hb]; rfl
    rw [hr]
    clear hr hb
    go_enter Tryz.func191, Tryz.ntmps191
    go_wp2_with (go_at_call 119; refine (hcall _).mono ?_; rintro e w2 ⟨rfl, hw2⟩; have hw2 := hw2.symm; subst hw2)
    go_ret
    exact ⟨rfl, rfl⟩
  · have hr : ms (onlyL (bl s)) = s := by unfold onlyL; rw [hb]; exact ms_bl s
    rw [hr]
    clear hr hb
    go_enter Tryz.func191, Tryz.ntmps191
    go_wp2_with (go_at_call 119; refine (hcall _).mono ?_; rintro e w2 ⟨rfl, hw2⟩; have hw2 := hw2.symm; subst hw2)
    go_ret
    exact ⟨rfl, rfl⟩
theorem bl_arr (s : ByteArray) : bl (⟨#[91]⟩ ++ s) = 91 :: bl s := by rw [bl_append]; rfl
theorem size_arr (s : ByteArray) : ((⟨#[91]⟩ : ByteArray) ++ s).size = s.size + 1 := by rw [← bl_len, bl_arr, List.length_cons, bl_len]
theorem arr_any (s : ByteArray) (w : World) (hs : s.size ≤ 90000) : Calls Tryz.prog 336 #[.string s] w fun e w' => e = .returned (.string (ms (arrL (bl s)))) ∧ w' = w := by
  have hcall : ∀ w0, Calls Tryz.prog 191 #[.string (⟨#[91]⟩ ++ s)] w0 fun e w' => e = .returned (.string (ms (arrL (bl s)))) ∧ w' = w0 := fun w0 => by
    have h := only_any (⟨#[91]⟩ ++ s) w0 (by rw [size_arr]; omega)
    rw [bl_arr] at h
    exact h
  go_enter Tryz.func336, Tryz.ntmps336
  go_wp2_with (go_at_call 191; refine (hcall _).mono ?_; rintro e w2 ⟨rfl, hw2⟩; have hw2 := hw2.symm; subst hw2)
  go_ret
  exact ⟨rfl, rfl⟩
theorem ld_snoc (l : List UInt8) : ∀ f, ld (l ++ [59]) f = ld l f := by
  induction l with
  | nil => intro f; simp [ld, ok59]
  | cons c l ih => intro f; simp only [List.cons_append, ld]; rw [ih]
theorem isType_of (l : List UInt8) : isType (76 :: l ++ [59]) = isName l := by
  have h1 : nsz (l ++ [59]) = nsz l := by unfold nsz; rw [ld_snoc]
  have h2 := nsz_le l
  have h3 : tyn (76 :: l ++ [59]) 0 = cls (l ++ [59]) := by
    rw [List.cons_append, tyn, if_neg (by omega), if_neg (by decide), if_pos rfl]
  rw [← isName_eq]
  unfold isType
  rw [h3]
  unfold cls
  rw [h1]
  by_cases h0 : nsz l = 0
  · cases l with
    | nil => decide
    | cons c l => simp [h0]
  · by_cases hl : nsz l = l.length
    · rw [hl]
      rw [if_neg (by omega)]
      simp
      intro e
      subst e
      exact h0 (by decide)
    · rw [if_neg h0]
      have : l.length = nsz l → False := fun e => hl e.symm
      simp [hl]
      split
      · omega
      · omega
theorem bl_of (s : ByteArray) : bl ((⟨#[76]⟩ ++ s) ++ ⟨#[59]⟩) = 76 :: bl s ++ [59] := by rw [bl_append, bl_append]; rfl
theorem size_of (s : ByteArray) : (((⟨#[76]⟩ : ByteArray) ++ s) ++ ⟨#[59]⟩).size = s.size + 2 := by rw [← bl_len, bl_of]; simp [bl_len]
theorem name_as {s : ByteArray} {b : Bool} (hb : isName (bl s) = b) (hs : s.size ≤ 100000) (w0 : World) : Calls Tryz.prog 203 #[.string s] w0 fun e w' => e = .returned (.bool b) ∧ w' = w0 := by
  have h := name_any s w0 hs; rw [hb] at h; exact h
end Go.Proofs.YthmepecmeambmaaGreat
namespace Go.Proofs.YthmepecmeambmaaGreat
open Go.RowKit
set_option linter.unusedVariables false

/-- The parameters, at most so many, and the result. -/
def pars : Nat → List UInt8 → Option (List (List UInt8) × List UInt8)
  | 0, r => if hd 41 r then (if r.drop 1 == [86] || isType (r.drop 1) then some ([], r.drop 1) else none) else none
  | k + 1, r => if hd 41 r then (if r.drop 1 == [86] || isType (r.drop 1) then some ([], r.drop 1) else none)
      else if tyn r 0 = 0 then none else (pars k (r.drop (tyn r 0))).map (fun p => (r.take (tyn r 0) :: p.1, p.2))
def meth (l : List UInt8) : Option (List (List UInt8) × List UInt8) := if hd 40 l then pars 8 (l.drop 1) else none
def strV (l : List UInt8) : Value := .string (ms l)
def Rest (M : Option (List (List UInt8) × List UInt8)) (ps : List (List UInt8)) (r : List UInt8) : Prop := ps.length ≤ 8 ∧ M = (pars (8 - ps.length) r).map (fun p => (ps ++ p.1, p.2))

theorem Rest.close {M : Option (List (List UInt8) × List UInt8)} {ps : List (List UInt8)} {r : List UInt8} (h : Rest M ps r) (h41 : hd 41 r = true) :
    M = if r.drop 1 == [86] || isType (r.drop 1) then some (ps, r.drop 1) else none := by
  rw [h.2]
  generalize 8 - ps.length = k
  cases k <;> simp only [pars, h41, if_true] <;> split <;> simp
theorem Rest.full {M : Option (List (List UInt8) × List UInt8)} {ps : List (List UInt8)} {r : List UInt8} (h : Rest M ps r) (h41 : hd 41 r = false) (h8 : tyn r 0 = 0 ∨ ps.length = 8) : M = none := by
  rw [h.2]
  rcases h8 with h8 | h8
  · generalize 8 - ps.length = k
    cases k <;> simp [pars, h41, h8]
  · rw [h8]; simp [pars, h41]
theorem Rest.more {M : Option (List (List UInt8) × List UInt8)} {ps : List (List UInt8)} {r : List UInt8} (h : Rest M ps r) (h41 : hd 41 r = false) (h0 : tyn r 0 ≠ 0) (h8 : ps.length < 8) : Rest M (ps ++ [r.take (tyn r 0)]) (r.drop (tyn r 0)) := by
  refine ⟨by simp; omega, ?_⟩
  rw [h.2]
  obtain ⟨k, hk⟩ : ∃ k, 8 - ps.length = k + 1 := ⟨7 - ps.length, by omega⟩
  have hk2 : 8 - (ps ++ [r.take (tyn r 0)]).length = k := by simp; omega
  rw [hk, hk2, pars, h41, if_neg (by simp), if_neg h0, Option.map_map]
  congr 1
  funext p
  simp

/-- What is answered of a method's type. -/
def MPost (M : Option (List (List UInt8) × List UInt8)) (w : World) (e : Ending) (w' : World) : Prop :=
  Ch w w' ∧ ((M = none ∧ e = .returned (.tuple #[.slice none 0 0, .string ⟨#[]⟩, .int .i64 6])) ∨
    ∃ p v, M = some p ∧ e = .returned (.tuple #[v, .string (ms p.2), .int .i64 0]) ∧ w'.ownsRow w.heap.size 9 1 v p.1.length (p.1.map strV))
theorem MPost.no {M : Option (List (List UInt8) × List UInt8)} {w w' : World} (h : Ch w w') (hM : M = none) : MPost M w (.returned (.tuple #[.slice none 0 0, .string ⟨#[]⟩, .int .i64 6])) w' := ⟨h, Or.inl ⟨hM, rfl⟩⟩
theorem MPost.yes {M : Option (List (List UInt8) × List UInt8)} {w w' : World} {ps : List (List UInt8)} {q : List UInt8} {v : Value} {s : ByteArray} (h : Ch w w') (hM : M = some (ps, q)) (hs : bl s = q) (ho : w'.ownsRow w.heap.size 9 1 v ps.length (ps.map strV)) :
    MPost M w (.returned (.tuple #[v, .string s, .int .i64 0])) w' := ⟨h, Or.inr ⟨(ps, q), v, hM, by rw [eq_ms hs], ho⟩⟩

def strSize : Value → Nat
  | .string s => s.size
  | _ => 0
/-- A text more, where a row of texts is. -/
theorem wpList_append_text {w : World} {ops : Array Oper} {rest : List Oper} {o : Oper} {a : Act} {Q : Exit → Act → World → Prop} (hgd : o.guard = none) (s x : Operand)
    (ho : o.op = .call { callee := .builtin .append, args := #[s, x], argTypes := #[32, 32] }) (base : Nat)
    (v : Value) (ps : List (List UInt8)) (t : ByteArray) (hs : a.eval s = v) (hown : w.ownsRow base 9 1 v ps.length (ps.map strV)) (ad : Addr) (cap : Nat) (hx : a.eval x = .slice (some ad) 1 cap) (hcell : w.cell? ad = some (.string t))
    (hbytes : ps.length ≤ 100000) (hbase : base ≤ w.heap.size)
    (h : ∀ v' w', w'.ownsRow base 9 1 v' (ps ++ [bl t]).length ((ps ++ [bl t]).map strV) → w.grownBy w' v.ownBlock → wpList Tryz.prog ops Q rest (a.put o.dst v') w') :
    wpList Tryz.prog ops Q (o :: rest) a w := by
  obtain ⟨i0, hi, hz0, hz1, hz2⟩ := info_parts Tryz.info9
  refine wpList_append_own_at _ hgd s x 32 ho base 9 i0 (.string ⟨#[]⟩) 1 16 Tryz.underlying32 hi hz0 hz1 hz2 rfl (by omega) v ps.length _ hs hown ad 1 cap [.string t] hx (by simp) ?_ (fun u hu => by simp at hu; subst hu; rfl) (by unfold maxLen; omega) (by omega) hbase ?_
  · intro j u hj
    cases j with
    | zero =>
      have hj : Value.string t = u := by simpa using hj
      have : ad.add 0 = ad := by unfold Addr.add; simp
      rw [this, hcell, hj]
    | succ j => simp at hj
  · intro v' w' h1 h2 _ h4
    refine h v' w' ?_ h2
    have e : ((ps ++ [bl t]).map strV) = ps.map strV ++ [.string t] := by simp [strV, ms_bl]
    rw [e, List.length_append]
    exact h1

theorem own_len {w : World} {base : Nat} {v : Value} {n : Nat} {xs : List Value} (h : w.ownsRow base 9 1 v n xs) (ty : TypeId) (W : World) : (Builtin.len_ #[32] ty #[v]).run Tryz.prog W = .ok (goInt n) W := by
  obtain ⟨ao, c, rfl⟩ := own_form h
  exact run_len_slice W 32 ty ao n c (by kernel_rfl)

theorem cell_new (w : World) (v : Value) (e : TypeId) : (w.alloc (.cells #[v] e)).cell? ⟨w.heap.size, 0, none⟩ = some v := by
  simp only [World.cell?]
  rw [heap_alloc_new]
  rfl

set_option maxHeartbeats 4000000 in
theorem method_any (s : ByteArray) (w : World) (hs : s.size ≤ 100000) : Calls Tryz.prog 207 #[.string s] w (MPost (meth (bl s)) w) := by
  obtain ⟨b, hb⟩ : ∃ b, hd 40 (bl s) = b := ⟨_, rfl⟩
  have hcut := cutPrefix_any 40 s w hs
  rw [hb] at hcut
  cases b
  · have hM : meth (bl s) = none := by unfold meth; rw [hb]; rfl
    have HM : Hid (meth (bl s) = none) := hM
    clear hM hb
    go_enter Tryz.func207, Tryz.ntmps207
    go_wp2_with fail
    refine hcut.mono ?_
    rintro e w2 ⟨rfl, hw2⟩
    have hw2 := hw2.symm
    subst hw2
    go_wp2
    go_ret3
    exact MPost.no (Ch.refl _) HM.out
  · have hR : Rest (meth (bl s)) [] (bl (s.extract 1 s.size)) := ⟨by simp, by rw [bl_from]; unfold meth; rw [hb]; simp⟩
    have hz : (s.extract 1 s.size).size ≤ 100000 := by rw [← bl_len, bl_from, List.length_drop, bl_len]; omega
    generalize meth (bl s) = M at *
    clear hb
    rw [if_pos rfl] at hcut
    generalize s.extract 1 s.size = r0 at *
    go_enter Tryz.func207, Tryz.ntmps207
    go_wp2_with fail
    refine hcut.mono ?_
    rintro e w2 ⟨rfl, hw2⟩
    have hw2 := hw2.symm
    subst hw2
    go_wp2_with fail
    go_loopw [2, 5] (fun pv rv wr => ∃ (ps : List (List UInt8)) (r : ByteArray), rv = .string r ∧ r.size ≤ 100000 ∧ wr.ownsRow w.heap.size 9 1 pv ps.length (ps.map strV) ∧ Ch w wr ∧ Hid (Rest M ps (bl r))) (fun _ rv _ => strSize rv)
    case atStart => exact ⟨[], r0, rfl, hz, World.ownsRow_nil _ _ _ _, Ch.refl _, hR⟩
    case round =>
      obtain ⟨ps, r, rfl, hrs, ho, hc, hRr⟩ := hrel
      have hlen := own_len ho
      have hpl := hRr.out.1
      obtain ⟨b, hb⟩ : ∃ b, hd 41 (bl r) = b := ⟨_, rfl⟩
      have hpre : ∀ w0, Calls Tryz.prog 193 #[.string r, .string ⟨#[41]⟩] w0 fun e w' => e = .returned (.bool b) ∧ w' = w0 := fun w0 => by
        have h := hasPrefix_any 41 r w0 hrs; rw [hb] at h; exact h
      cases b
      · obtain ⟨n, hn⟩ : ∃ n, tyn (bl r) 0 = n := ⟨_, rfl⟩
        have hle := tyn_le (bl r) 0
        rw [hn, bl_len] at hle
        have hty : ∀ w0, Calls Tryz.prog 188 #[.string r] w0 fun e w' => e = .returned (.int .i64 (n : Int)) ∧ w' = w0 := fun w0 => by
          have h := typeSize_any r w0 hrs; rw [hn] at h; exact h
        by_cases h0 : n = 0
        · have hM := hRr.out.full hb (Or.inl (by rw [hn]; exact h0))
          have HM : Hid (M = none) := hM
          subst h0
          clear hM hRr hb hn hle
          go_wp2_with (first | (go_at_call 193; refine (hpre _).mono ?_; rintro e w3 ⟨rfl, hw3⟩; have hw3 := hw3.symm; subst hw3) | (go_at_call 188; refine (hty _).mono ?_; rintro e w4 ⟨rfl, hw4⟩; have hw4 := hw4.symm; subst hw4))
          go_ret3
          exact MPost.no hc HM.out
        · have h0' : ((n : Int) == 0) = false := by simp; omega
          by_cases h8 : ps.length = 8
          · have hM := hRr.out.full hb (Or.inr h8)
            have HM : Hid (M = none) := hM
            have h8' : ((ps.length : Int) == 8) = true := by simp; omega
            clear hM hRr hb hn hle hR
            go_wp2_with (first | (go_at_call 193; refine (hpre _).mono ?_; rintro e w3 ⟨rfl, hw3⟩; have hw3 := hw3.symm; subst hw3) | (go_at_call 188; refine (hty _).mono ?_; rintro e w4 ⟨rfl, hw4⟩; have hw4 := hw4.symm; subst hw4))
            go_ret3
            exact MPost.no hc HM.out
          · have h8' : ((ps.length : Int) == 8) = false := by simp; omega
            have hM := hRr.out.more hb (by rw [hn]; exact h0) (by omega)
            rw [hn, ← bl_to, ← bl_from] at hM
            have HM : Hid (Rest M (ps ++ [bl (r.extract 0 n)]) (bl (r.extract n r.size))) := hM
            have hcl := fun w0 => clone_any (r.extract 0 n) w0 (by rw [← bl_len, bl_to, List.length_take, bl_len]; omega)
            have hsz2 : (r.extract n r.size).size = r.size - n := by rw [← bl_len, bl_from, List.length_drop, bl_len]
            have HZ : Hid ((r.extract n r.size).size = r.size - n) := hsz2
            have hlt : n ≤ r.size := hle
            clear hM hRr hb hn hle hR hsz2
            go_wp2_with (first | (go_at_call 193; refine (hpre _).mono ?_; rintro e w3 ⟨rfl, hw3⟩; have hw3 := hw3.symm; subst hw3) | (go_at_call 188; refine (hty _).mono ?_; rintro e w4 ⟨rfl, hw4⟩; have hw4 := hw4.symm; subst hw4) | (go_at_call 79; refine (hcl _).mono ?_; rintro e w5 ⟨rfl, hc5⟩; have ho5 := ownsRow_keep ho hc5) | (at_builtin; refine wpList_append_text rfl (.tmp 27) (.tmp 32) rfl w.heap.size _ ps (r.extract 0 n) rfl (ownsRow_keep ho5 ((Ch.refl _).alloc _)) ⟨w5.heap.size, 0, none⟩ _ rfl (cell_new _ _ _) (by omega) ((hc.trans hc5).alloc _).size ?_; intro v6 w6 ho6 hg6))
            go_roundw
            case rel => exact ⟨ps ++ [bl (r.extract 0 n)], r.extract n r.size, rfl, by rw [HZ.out]; omega, ho6, ((hc.trans hc5).alloc _).grown hg6 (fun k hk => (ho.lt k hk).1), HM⟩
            case measure => simp only [strSize]; rw [HZ.out]; omega
      · have hM := hRr.out.close hb
        rw [← bl_from] at hM
        obtain ⟨rr, hr, hl1⟩ : ∃ rr, bl r = 41 :: rr ∧ 1 ≤ r.size := by
          obtain ⟨rr, hr⟩ := hd_yes hb
          exact ⟨rr, hr, by rw [← bl_len, hr]; simp⟩
        have hqs : (r.extract 1 r.size).size ≤ 100000 := by rw [← bl_len, bl_from, List.length_drop, bl_len]; omega
        have hl2 : (1 : Int) ≤ r.size := by omega
        clear hr hRr hb hR
        generalize hq : r.extract 1 r.size = q at hM hqs
        obtain ⟨y, hy⟩ : ∃ y, isType (bl q) = y := ⟨_, rfl⟩
        have hty := fun w0 => type_as hy hqs w0
        have hcl := fun w0 => clone_any q w0 hqs
        by_cases hV : bl q = [86]
        · rw [hV] at hM
          have hM : M = some (ps, bl q) := by rw [hM, hV]; rfl
          have HM : Hid (M = some (ps, bl q)) := hM
          have hVb : (q.toList == [86]) = true := by rw [bl_toList, hV]; rfl
          have hVc : q.toList = [86] := by rw [bl_toList, hV]
          clear hM hV hy hty
          go_wp2_with (first | (go_at_call 193; refine (hpre _).mono ?_; rintro e w3 ⟨rfl, hw3⟩; have hw3 := hw3.symm; subst hw3) | (go_at_call 79; refine (hcl _).mono ?_; rintro e w5 ⟨rfl, hc5⟩; have ho5 := ownsRow_keep ho hc5))
          go_ret3
          exact MPost.yes (hc.trans hc5) HM.out rfl ho5
        · have hVb : (bl q == [86]) = false := by simpa using hV
          have hVc : (q.toList == [86]) = false := by rw [bl_toList]; exact hVb
          rw [hVb, hy] at hM
          cases y
          · have HM : Hid (M = none) := hM
            clear hM hV hy hVb
            go_wp2_with (first | (go_at_call 193; refine (hpre _).mono ?_; rintro e w3 ⟨rfl, hw3⟩; have hw3 := hw3.symm; subst hw3) | (go_at_call 119; refine (hty _).mono ?_; rintro e w4 ⟨rfl, hw4⟩; have hw4 := hw4.symm; subst hw4))
            go_ret3
            exact MPost.no hc HM.out
          · have HM : Hid (M = some (ps, bl q)) := hM
            clear hM hV hy hVb
            go_wp2_with (first | (go_at_call 193; refine (hpre _).mono ?_; rintro e w3 ⟨rfl, hw3⟩; have hw3 := hw3.symm; subst hw3) | (go_at_call 119; refine (hty _).mono ?_; rintro e w4 ⟨rfl, hw4⟩; have hw4 := hw4.symm; subst hw4) | (go_at_call 79; refine (hcl _).mono ?_; rintro e w5 ⟨rfl, hc5⟩; have ho5 := ownsRow_keep ho hc5))
            go_ret3
            exact MPost.yes (hc.trans hc5) HM.out rfl ho5
end Go.Proofs.YthmepecmeambmaaGreat
