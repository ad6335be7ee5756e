/- A text among others; what is added to a list. -/
/- The interfaces of a class. -/
import Derived.Test.YthmepecmeambmaaGreatKLkN
import Derived.Test.YthmepecmeambmaaGreatKKp
namespace Go.Proofs.YthmepecmeambmaaGreat
open Go.RowKit
set_option linter.unusedVariables false

set_option maxHeartbeats 2000000 in
theorem indexS_any (n : ByteArray) (xs : List ByteArray) (v : Value) (w : World) (hv : Sl 1 RS w v xs) :
    Calls Tryz.prog 177 #[v, .string n] w fun e w' => (∃ r : Int, e = .returned (.int .i64 r) ∧ decide (0 ≤ r) = hasN xs n) ∧ w' = w := by
  obtain ⟨ao, c, rfl, hc1, hc2⟩ := hv.form
  have HV : Hid (Sl 1 RS w (.slice ao xs.length c) xs) := hv
  clear hv
  obtain ⟨ans, hans⟩ : ∃ q, hasN xs n = q := ⟨_, rfl⟩
  rw [hans]
  refine Calls.mono (R := fun e w' => (∃ r : Int, e = .returned (.int .i64 r) ∧ Hid (decide (0 ≤ r) = ans)) ∧ w' = w) ?_ (fun e w' ⟨⟨r, h1, h2⟩, h3⟩ => ⟨⟨r, h1, h2.out⟩, h3⟩)
  have HA : Hid (hasN xs n = ans) := hans
  clear hans
  go_enter Tryz.func177, Tryz.ntmps177
  go_wp2
  go_loop [8] (fun i => ∃ k : Nat, k ≤ xs.length ∧ i = .int .i64 k ∧ hasN (xs.take k) n = false) (fun i => xs.length - (intOf i).toNat)
  case atStart => exact ⟨0, Nat.zero_le _, rfl, by simp [hasN]⟩
  case round =>
    obtain ⟨k, hk, rfl, hno⟩ := hrel
    by_cases hlt : k < xs.length
    · obtain ⟨x, hx⟩ : ∃ x, xs[k]? = some x := ⟨_, List.getElem?_eq_getElem hlt⟩
      obtain ⟨b', off, rfl, q0⟩ := HV.out.atS hx
      have hq : (n.toList == x.toList) = nq x n := by rw [toList_nq, nq_comm]
      have HS : Hid (hasN (xs.take (k + 1)) n = nq x n) := by
        obtain ⟨h1, h2⟩ := List.getElem?_eq_some_iff.1 hx
        show hasN (xs.take (k + 1)) n = nq x n
        rw [List.take_succ_eq_append_getElem h1, h2, hasN_snoc, hno, Bool.false_or]
      have HM : Hid (x ∈ xs) := List.mem_of_getElem? hx
      clear hx hno
      obtain ⟨bq, hbq⟩ : ∃ q, nq x n = q := ⟨_, rfl⟩
      rw [hbq] at hq HS
      have HB : Hid (nq x n = bq) := hbq
      clear hbq
      cases bq with
      | true =>
        go_wp2
        go_ret
        refine ⟨⟨_, rfl, ?_⟩, rfl⟩
        show decide _ = ans
        rw [← HA.out, hasN_iff.2 (by rw [← nq_iff.1 HB.out]; exact HM.out)]
        simp
      | false =>
        go_wp2
        exact ⟨⟨k + 1, by omega, rfl, HS.out⟩, by simp [intOf]; omega⟩
    · obtain rfl : k = xs.length := by omega
      rw [List.take_length] at hno
      have HNO : Hid (hasN xs n = false) := hno
      clear hno
      go_wp2
      go_ret
      refine ⟨⟨_, rfl, ?_⟩, rfl⟩
      show decide _ = ans
      rw [← HA.out, HNO.out]
      rfl
set_option maxHeartbeats 1000000 in
theorem containsS_any (n : ByteArray) (xs : List ByteArray) (v : Value) (w : World) (hv : Sl 1 RS w v xs) :
    Calls Tryz.prog 100 #[v, .string n] w fun e w' => e = .returned (.bool (hasN xs n)) ∧ w' = w := by
  have hi := indexS_any n xs v w hv
  obtain ⟨ao, c, rfl, hc1, hc2⟩ := hv.form
  clear hv
  generalize hasN xs n = a at *
  go_enter Tryz.func100, Tryz.ntmps100
  go_wp2_with (first
    | (go_at_call 177; (with_reducible refine hi.mono ?_); rintro e w' ⟨⟨r, rfl, hr⟩, hw⟩; have hw := hw.symm; subst hw)
    | fail)
  go_ret
  exact ⟨rfl, rfl⟩

/-- A list of texts in a box of one's own. -/
def Ls (w0 : World) (lb : Nat) (w : World) (l : List ByteArray) : Prop := ∃ vl, Bo w0 lb 32 #[vl] w ∧ Ow 1 9 RS w0.heap.size w vl l
theorem Ls.call {w0 w w' : World} {lb : Nat} {l : List ByteArray} (h : Ls w0 lb w l) (c : Ch w w') : Ls w0 lb w' l := by
  obtain ⟨vl, h1, h2⟩ := h
  exact ⟨vl, h1.call c, h2.keepS c⟩
theorem Ls.ch {w0 w : World} {lb : Nat} {l : List ByteArray} (h : Ls w0 lb w l) : Ch w0 w := by
  obtain ⟨vl, h1, h2⟩ := h
  exact h1.ch
theorem addI_len (l k : List ByteArray) : (addI l k).length ≤ l.length + k.length := by
  induction k generalizing l with
  | nil => simp [addI]
  | cons s r ih =>
    rw [addI]
    refine Nat.le_trans (ih _) ?_
    split <;> simp <;> omega

set_option maxHeartbeats 8000000 in
set_option maxRecDepth 100000 in
theorem addl_any (l : List ByteArray) (i : Nat) (x : Cls) (P : List Cls) (g b lb : Nat) (w0 w : World) (hP : Pm w0 g b P) (hx : P[i]? = some x) (h : Ls w0 lb w l) (hl : l.length + x.im.length ≤ 100000) :
    Calls Tryz.prog 174 #[ptr b i, .pointer (some ⟨lb, 0, none⟩)] w fun e w' => e = .returned (.tuple #[]) ∧ Ls w0 lb w' (addI l x.im) ∧ Kp w0.heap.size [9, 32] w w' := by
  obtain ⟨vi, vf, vm, hat, q0, q1, q2, q3, q4, q5, q6⟩ := (hP.keep h.ch).at hx
  have hsl : Sl 1 RS w vi x.im := hat.1
  obtain ⟨vi0, vf0, vm0, hat0, _, _, _, _, r4, _, _⟩ := hP.at hx
  have e0 : vi0 = vi := Option.some.inj ((cell_keep h.ch r4).symm.trans q4)
  subst e0
  obtain ⟨ai, ci, rfl, hi1, hi2⟩ := hsl.form
  have HS : Hid (Sl 1 RS w0 (.slice ai x.im.length ci) x.im) := hat0.1
  have HL : Hid (l.length + x.im.length ≤ 100000) := hl
  clear hat hat0 hsl q0 q1 q2 q3 q5 q6 r4 hl hP hx
  unfold ptr
  go_enter Tryz.func174, Tryz.ntmps174
  go_wp2_with fail
  go_loopw [10] (fun i wr => ∃ k : Nat, k ≤ x.im.length ∧ i = .int .i64 k ∧ Ls w0 lb wr (addI l (x.im.take k)) ∧ Kp w0.heap.size [9, 32] w wr) (fun i _ => x.im.length - (intOf i).toNat)
  case atStart => exact ⟨0, Nat.zero_le _, rfl, by simpa [addI] using h, Kp.refl _ _ _⟩
  case round =>
    clear h q4
    obtain ⟨k, hk, rfl, hL, hK⟩ := hrel
    by_cases hlt : k < x.im.length
    · obtain ⟨s, hs⟩ : ∃ s, x.im[k]? = some s := ⟨_, List.getElem?_eq_getElem hlt⟩
      obtain ⟨b', off, rfl, q0⟩ := (HS.out.keepS hL.ch).atS hs
      have hsn : addI l (x.im.take (k + 1)) = if hasN (addI l (x.im.take k)) s then addI l (x.im.take k) else addI l (x.im.take k) ++ [s] := by
        obtain ⟨h1, h2⟩ := List.getElem?_eq_some_iff.1 hs
        rw [List.take_succ_eq_append_getElem h1, h2, addI_snoc]
      have hll : (addI l (x.im.take k)).length ≤ 100000 := by
        have := addI_len l (x.im.take k)
        rw [List.length_take] at this
        have := HL.out
        omega
      obtain ⟨vl, hB, hO⟩ := hL
      have hco := containsS_any s _ vl wr hO.sl
      have b0 := hB.c 0 rfl
      have f0 := hB.fz 0
      have HN : Hid (addI l (x.im.take (k + 1)) = if hasN (addI l (x.im.take k)) s then addI l (x.im.take k) else addI l (x.im.take k) ++ [s]) := hsn
      clear hs hsn
      generalize addI l (x.im.take k) = l1 at *
      obtain ⟨al, cl, rfl⟩ := hO.form
      obtain ⟨bq, hbq⟩ : ∃ q, hasN l1 s = q := ⟨_, rfl⟩
      rw [hbq] at hco HN
      clear hbq
      cases bq with
      | true =>
        go_wp2_with (first
          | (go_at_call 100; (with_reducible refine hco.mono ?_); rintro e w' ⟨rfl, hw⟩; have hw := hw.symm; subst hw)
          | fail)
        go_roundw
        case rel => exact ⟨k + 1, by omega, by go_num, by rw [HN.out]; exact ⟨_, hB, hO⟩, hK⟩
        case measure => simp [intOf]; omega
      | false =>
        go_wp2_with (first
          | (go_at_call 100; (with_reducible refine hco.mono ?_); rintro e w' ⟨rfl, hw⟩; have hw := hw.symm; subst hw)
          | (at_builtin; refine (hO.keepS ((Ch.refl wr).alloc _)).push infS9 rfl (by omega) Tryz.underlying32 rfl (.tmp 18) (.tmp 20) rfl rfl (.string s) s (fun _ => rfl) (fun _ _ _ _ x => x) rfl wr.heap.size 1 rfl (heap_alloc_new _ _) hll (by have := hB.ch.size; simp; omega) ?_; intro v3 w3 o3 g3 r3; have hB3 : Bo w0 lb 32 #[.slice al l1.length cl] w3 := ⟨(hB.ch.alloc _).grown g3 r3, hB.le, (g3.block lb (by have := hB.lt; simp; omega) (fun e => by obtain ⟨cu, hcu⟩ := (own_objG (w := wr) (base := w0.heap.size) (e := 9) (size := 1) hO.choose_spec.2.1 e.symm).2; rw [hB.b] at hcu; simp at hcu)).trans (kept_at ((Ch.refl wr).alloc _) hB.b)⟩; have hK3 : Kp w0.heap.size [9, 32] w w3 := (hK.alloc _).grown (ownsRow_keep hO.choose_spec.2.1 ((Ch.refl wr).alloc _)) (by decide) g3; have hK4 := hK3.turn (c := w3.setCell ⟨lb, 0, none⟩ v3) hB3.le hB3.b (fun cs t fr e => by simp at e; rw [← e.2.1]; decide) (grown_setCell _ _ _ _); have b3 := hB3.c 0 rfl; have f3 := hB3.fz 0; have hB4 := hB3.set 0 v3; have o4 := o3.farS 0 v3 hB3.b (by decide); obtain ⟨a3, d3, rfl⟩ := o3.form)
          | fail)
        have hle : (l1 ++ [s]).length = l1.length + 1 := by simp
        rw [hle] at hB4 o4 hK4
        have hK5 := hK4
        have hB5 : Bo w0 lb 32 #[.slice a3 (l1.length + 1) d3] (w3.setCell ⟨lb, 0, none⟩ (.slice a3 (l1.length + 1) d3)) := by simpa using hB4
        go_roundw
        case rel => exact ⟨k + 1, by omega, by go_num, by rw [HN.out]; exact ⟨_, hB5, o4⟩, hK5⟩
        case measure => simp [intOf]; omega
    · obtain rfl : k = x.im.length := by omega
      rw [List.take_length] at hL
      go_wp2_with fail
      go_end0
      exact ⟨rfl, hL, hK⟩
end Go.Proofs.YthmepecmeambmaaGreat
namespace Go.Proofs.YthmepecmeambmaaGreat
open Go.RowKit
set_option linter.unusedVariables false

/-- What each class implements is there; and there are not too many. -/
def imIn (P : List Cls) : Prop := ∀ c ∈ P, c.im.length ≤ 12000 ∧ ∀ s ∈ c.im, ∃ i, ixN P s = some i
theorem addI_inP {P : List Cls} {l k : List ByteArray} (h1 : inP P l) (h2 : inP P k) : inP P (addI l k) := fun x hx => by
  rcases addI_mem.1 hx with h | h
  · exact h1 x h
  · exact h2 x h
theorem imOf_inP {P : List Cls} (h : imIn P) (n : ByteArray) : inP P (imOf (lk P) n) := fun x hx => by
  unfold imOf at hx
  cases e : lk P n with
  | none => rw [e] at hx; cases hx
  | some c => rw [e] at hx; exact (h c (lk_some e).1).2 x hx
theorem addW_inP {P : List Cls} (h : imIn P) : ∀ {k l : List ByteArray}, inP P l → inP P (addW (lk P) l k)
  | [], l, h1 => h1
  | n :: k, l, h1 => show inP P (addW (lk P) (addI l (imOf (lk P) n)) k) from addW_inP h (addI_inP h1 (imOf_inP h n))
theorem addW_nodup {P : List Cls} : ∀ {k l : List ByteArray}, l.Nodup → (addW (lk P) l k).Nodup
  | [], l, h1 => h1
  | n :: k, l, h1 => show (addW (lk P) (addI l (imOf (lk P) n)) k).Nodup from addW_nodup (addI_nodup h1)
theorem addW_snoc (L : ByteArray → Option Cls) : ∀ (k l : List ByteArray) (n : ByteArray), addW L l (k ++ [n]) = addI (addW L l k) (imOf L n)
  | [], l, n => rfl
  | m :: k, l, n => by rw [List.cons_append, addW, addW_snoc L k]; rfl
theorem imOf_is {P : List Cls} {n : ByteArray} {c : Cls} (h : lk P n = some c) : imOf (lk P) n = c.im := by unfold imOf; rw [h]
theorem ifl_end {L : ByteArray → Option Cls} {f : Nat} {l : List ByteArray} : ifl L (f + 1) l.length l = l := by
  unfold ifl; rw [List.getElem?_eq_none (Nat.le_refl _)]
theorem ifl_on {L : ByteArray → Option Cls} {f k : Nat} {l : List ByteArray} {s : ByteArray} (h : l[k]? = some s) : ifl L (f + 1) k l = ifl L f (k + 1) (addI l (imOf L s)) := by
  rw [ifl, h]
theorem addI_pre (l k : List ByteArray) : ∃ m, addI l k = l ++ m := by
  induction k generalizing l with
  | nil => exact ⟨[], by simp [addI]⟩
  | cons s r ih =>
    rw [addI]
    split
    · exact ih l
    · obtain ⟨m, hm⟩ := ih (l ++ [s])
      exact ⟨s :: m, by rw [hm, List.append_assoc]; rfl⟩
theorem Ow.kp {α : Type} {k : Nat} {e : TypeId} {R R' : World → List Value → α → Prop} {B B' : Nat} {T : List TypeId} {w w' : World} {v : Value} {xs : List α} (h : Ow k e R B w v xs) (c : Kp B' T w w') (he : e ∉ T) (hR : ∀ cs a, R w cs a → R' w' cs a) : Ow k e R' B w' v xs := by
  obtain ⟨C, h1, h2, h3⟩ := h
  refine ⟨C, h1, ownsRow_same h2 (fun g' hg' => ?_), fun i a hi => hR _ _ (h3 i a hi)⟩
  obtain ⟨_, cur, hc⟩ := own_objG h2 hg'
  exact c.block g' (h2.lt g' hg').2 (Or.inr ⟨cur, e, _, hc, he⟩)
theorem Kp.froz {B : Nat} {T : List TypeId} {w w' : World} (h : Kp B T w w') : Kp B T w w' := h

set_option maxHeartbeats 8000000 in
set_option maxRecDepth 100000 in
theorem interfaces_any (n : ByteArray) (P : List Cls) (g b : Nat) (w : World) (h : Pm w g b P) (hI : imIn P) :
    Calls Tryz.prog 97 #[.pointer (some ⟨g, 0, none⟩), .string n] w fun e w' => ∃ v, e = .returned v ∧ Ow 1 9 RS w.heap.size w' v (ifs P n) ∧ inP P (ifs P n) ∧ (ifs P n).Nodup ∧ Ch w w' := by
  have HP : Hid (Pm w g b P) := h
  have hl := h.2.1
  have HI : Hid (imIn P) := hI
  have hwk := walk_any n P g b (w.alloc (.cells #[.slice none 0 0] 32)) (h.keep ((Ch.refl w).alloc _))
  clear h hI
  obtain ⟨r, hr⟩ : ∃ r, ifs P n = r := ⟨_, rfl⟩
  rw [hr]
  have HR : Hid (ifl (lk P) (P.length + 1) 0 (addW (lk P) [] (walkN P n).1) = r) := hr
  clear hr
  generalize walkN P n = wr0 at *
  obtain ⟨way, again⟩ := wr0
  dsimp only at hwk HR
  refine Calls.mono (R := fun e w' => ∃ v, e = .returned v ∧ Hid (Ow 1 9 RS w.heap.size w' v r ∧ inP P r ∧ r.Nodup ∧ Ch w w')) ?_ (fun e w' ⟨v, h1, h2⟩ => ⟨v, h1, h2.out⟩)
  have L0 : Ls w w.heap.size (w.alloc (.cells #[.slice none 0 0] 32)) [] := ⟨.slice none 0 0, Bo.new (Ch.refl w) _ _, Ow.nil⟩
  go_enter Tryz.func97, Tryz.ntmps97
  go_wp2_with (first
    | (go_at_call 96; (with_reducible refine hwk.mono ?_); rintro e w1 ⟨v1, rfl, o1, i1, n1, c1⟩; have L1 := L0.call c1; obtain ⟨a1, d1, rfl⟩ := o1.form)
    | fail)
  have HIN : Hid (inP P way) := i1
  have hlen : way.length ≤ 1000 := Nat.le_trans (inP_len i1 n1) hl
  have HO : Hid (∀ w', Kp w.heap.size [9, 32] w1 w' → Ow 1 117 (RP b P) (w.alloc (.cells #[.slice none 0 0] 32)).heap.size w' (.slice a1 way.length d1) way) := fun w' k => o1.kp k (by decide) (fun _ _ x => x)
  clear L0 hwk o1 i1 n1
  go_loopw [21] (fun i wr => ∃ k : Nat, k ≤ way.length ∧ i = .int .i64 k ∧ Ls w w.heap.size wr (addW (lk P) [] (way.take k)) ∧ Kp w.heap.size [9, 32] w1 wr) (fun i _ => way.length - (intOf i).toNat)
  case atStart => exact ⟨0, Nat.zero_le _, rfl, by simpa [addW] using L1, Kp.refl _ _ _⟩
  case round =>
    clear L1 c1
    obtain ⟨k, hk, rfl, hL, hK⟩ := hrel
    have hinl := addW_inP HI.out (k := way.take k) (inP_nil P)
    have hndl := addW_nodup (P := P) (k := way.take k) (l := []) List.nodup_nil
    have hll := inP_len hinl hndl
    by_cases hlt : k < way.length
    · obtain ⟨m, hm⟩ : ∃ m, way[k]? = some m := ⟨_, List.getElem?_eq_getElem hlt⟩
      obtain ⟨i, hi⟩ := HIN.out m (List.mem_of_getElem? hm)
      obtain ⟨x, hxi, hxl, _⟩ := ix_some hi
      obtain ⟨g1, cs, e1, _, _, e2, q0, _⟩ := (HO.out wr hK).at hm
      have e2 : cs = [pn b P m] := e2
      subst e1 e2
      have q0 := q0 0 _ rfl
      rw [pn_is hi] at q0
      have hxim := (HI.out x (lk_some hxl).1).1
      have hadd := addl_any _ i x P g b w.heap.size w wr HP.out hxi hL (by omega)
      have HS : Hid (addW (lk P) [] (way.take (k + 1)) = addI (addW (lk P) [] (way.take k)) x.im) := by
        obtain ⟨h1, h2⟩ := List.getElem?_eq_some_iff.1 hm
        show addW (lk P) [] (way.take (k + 1)) = _
        rw [List.take_succ_eq_append_getElem h1, h2, addW_snoc, imOf_is hxl]
      have off0 : k * 1 + 0 = k := by omega
      rw [off0] at q0
      clear hm hi hxi hxl off0 hinl hndl hll hL
      generalize addW (lk P) [] (way.take k) = l1 at *
      unfold ptr at *
      go_wp2_with (first
        | (go_at_call 174; (with_reducible refine hadd.mono ?_); rintro e w3 ⟨rfl, hL3, hK3⟩)
        | fail)
      go_roundw
      case rel => exact ⟨k + 1, by omega, by go_num, by rw [HS.out]; exact hL3, hK.trans hK3⟩
      case measure => simp [intOf]; omega
    · obtain rfl : k = way.length := by omega
      rw [List.take_length] at hL hinl hndl hll
      generalize hl1 : addW (lk P) [] way = l1 at *
      have HR1 : Hid (ifl (lk P) (P.length + 1) 0 l1 = r) := HR
      clear HR hl1 HO hK hlt hk
      go_wp2_with fail
      go_loopw [11] (fun i wr => ∃ (k : Nat) (l : List ByteArray), k ≤ l.length ∧ i = .int .i64 k ∧ Ls w w.heap.size wr l ∧ ifl (lk P) (P.length + 1 - k) k l = r ∧ l.Nodup ∧ inP P l) (fun i _ => P.length + 1 - (intOf i).toNat)
      case atStart => exact ⟨0, l1, Nat.zero_le _, rfl, hL, HR1.out, hndl, hinl⟩
      case round =>
        clear hL hndl hinl hll HR1
        obtain ⟨k, l, hk, rfl, hL, hr, hnd, hin⟩ := hrel
        have hll := inP_len hin hnd
        obtain ⟨f, hf⟩ : ∃ f, P.length + 1 - k = f + 1 := ⟨P.length - k, by omega⟩
        rw [hf] at hr
        obtain ⟨vl, hB, hO⟩ := id hL
        have b0 := hB.c 0 rfl
        by_cases hlt : k < l.length
        · obtain ⟨m, hm⟩ : ∃ m, l[k]? = some m := ⟨_, List.getElem?_eq_getElem hlt⟩
          obtain ⟨i, hi⟩ := hin m (List.mem_of_getElem? hm)
          obtain ⟨x, hxi, hxl, _⟩ := ix_some hi
          rw [ifl_on hm, imOf_is hxl] at hr
          have hxim := (HI.out x (lk_some hxl).1).1
          have hfi := find_any m P g b wr (HP.out.keep hL.ch)
          rw [pn_is hi] at hfi
          have HA : Hid (∀ w', Ch wr w' → Calls Tryz.prog 174 #[ptr b i, .pointer (some ⟨w.heap.size, 0, none⟩)] w' fun e w2 => e = .returned (.tuple #[]) ∧ Ls w w.heap.size w2 (addI l x.im) ∧ Kp w.heap.size [9, 32] w' w2) := fun w' c => addl_any l i x P g b w.heap.size w w' HP.out hxi (hL.call c) (by omega)
          obtain ⟨al, cl, rfl⟩ := hO.form
          obtain ⟨b', off, rfl, q0⟩ := hO.sl.atS hm
          have HX : Hid (ifl (lk P) f (k + 1) (addI l x.im) = r) := hr
          have HND : Hid ((addI l x.im).Nodup) := addI_nodup hnd
          have HIN2 : Hid (inP P (addI l x.im)) := addI_inP hin (fun y hy => (HI.out x (lk_some hxl).1).2 y hy)
          obtain ⟨mm, hmm⟩ := addI_pre l x.im
          have HLE : Hid (k + 1 ≤ (addI l x.im).length) := (by rw [hmm, List.length_append]; omega : k + 1 ≤ (addI l x.im).length)
          have HF : Hid (P.length + 1 - k = f + 1) := hf
          clear hm hi hxi hxl hr hf hmm hB
          unfold ptr at *
          go_wp2_with (first
            | (go_at_call 92; (with_reducible refine hfi.mono ?_); rintro e w3 ⟨rfl, c3⟩)
            | (go_at_call 174; (with_reducible refine (HA.out _ c3).mono ?_); rintro e w4 ⟨rfl, hL4, hK4⟩)
            | fail)
          go_roundw
          case rel => exact ⟨k + 1, _, HLE.out, by go_num, hL4, by rw [show P.length + 1 - (k + 1) = f from by have := HF.out; omega]; exact HX.out, HND.out, HIN2.out⟩
          case measure => simp [intOf]; omega
        · obtain rfl : k = l.length := by omega
          rw [ifl_end] at hr
          subst hr
          obtain ⟨al, cl, rfl⟩ := hO.form
          go_wp2_with fail
          go_ret
          exact ⟨_, rfl, hO, hin, hnd, hL.ch⟩
end Go.Proofs.YthmepecmeambmaaGreat
