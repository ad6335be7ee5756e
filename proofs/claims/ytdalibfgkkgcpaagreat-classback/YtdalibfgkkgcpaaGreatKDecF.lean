/- A method that is read. -/
import Derived.Test.YtdalibfgkkgcpaaGreatKDecE
namespace Go.Proofs.YtdalibfgkkgcpaaGreat
open Go.RowKit
set_option linter.unusedVariables false

def hdr {α : Type} (t : Nat → RD α) : RD α := fun bs s => t s.a bs s
def mst {α : Type} (x : α) (e : Int) (p : Nat) : RD α := fun _ s => (x, mu s e p)
def mthR (P : List ByteArray) : RD Mth := hdr fun p => bd (fun bs => txtR bs P) fun n => bd (fun bs => txtR bs P) fun d => bd yesR fun st => bd yesR fun ab =>
  bd (fun bs => nR bs 1) fun sk => bd (fun bs => nR bs 1) fun lo => bd (listR 200 fun bs => insR bs P) fun co =>
  fb ⟨n, d, st, ab, sk, lo, co, []⟩ (bd (listR 20 fun bs => hndR bs P) fun hs => mst ⟨n, d, st, ab, sk, lo, co, hs⟩ (mthE ⟨n, d, st, ab, sk, lo, co, hs⟩) p)
def clsR (P : List ByteArray) : RD Cls := hdr fun p => bd (fun bs => txtR bs P) fun n => bd (fun bs => txtR bs P) fun su => bd yesR fun it => bd yesR fun ab =>
  bd (listR 30 fun bs => txtR bs P) fun im => bd (mst () (hdE ⟨n, su, it, ab, im, [], []⟩) p) fun _ =>
  fb ⟨n, su, it, ab, im, [], []⟩ (bd (listR 20 fun bs => fldR bs P) fun fs => fb ⟨n, su, it, ab, im, fs, []⟩ (bd (listR 20 (mthR P)) fun me => fun _ s => (⟨n, su, it, ab, im, fs, me⟩, s)))
theorem lst_all {α : Type} (r : RD α) (bs : List Int) (Q : α → Prop) (h : ∀ s, Q (r bs s).1) : ∀ n acc s, (∀ x ∈ acc, Q x) → ∀ x ∈ (lst r n acc bs s).1, Q x
  | 0, acc, s, ha => ha
  | n + 1, acc, s, ha => by
    unfold lst bd fb
    dsimp only
    split
    · simp
    · refine lst_all r bs Q h n _ _ fun x hx => ?_
      rcases List.mem_append.1 hx with hx | hx
      · exact ha x hx
      · rw [List.mem_singleton.1 hx]; exact h s
theorem lst_len {α : Type} (r : RD α) (bs : List Int) : ∀ n acc s, (lst r n acc bs s).1.length ≤ acc.length + n
  | 0, acc, s => Nat.le_refl _
  | n + 1, acc, s => by
    unfold lst bd fb
    dsimp only
    split
    · simp
    · refine Nat.le_trans (lst_len r bs n _ _) (by simp; omega)
theorem listR_all {α : Type} {r : RD α} {bs : List Int} (m : Int) (Q : α → Prop) (h : ∀ s, Q (r bs s).1) (s : St) : ∀ x ∈ (listR m r bs s).1, Q x := lst_all r bs Q h _ _ _ (by simp)
theorem listR_len {α : Type} (r : RD α) (bs : List Int) (m : Nat) (s : St) : (listR m r bs s).1.length ≤ m := by
  have h1 := lst_len r bs (cntR bs m s).1.toNat [] (cntR bs m s).2
  have h2 := cntR_le bs m s (by omega)
  refine Nat.le_trans h1 (by simp; omega)
/-- What holds of every text of the pool, and of the empty one, holds of every text that is read. -/
theorem txtR_all (Q : ByteArray → Prop) (q0 : Q ⟨#[]⟩) {P : List ByteArray} (hP : ∀ t ∈ P, Q t) (bs : List Int) (s : St) : Q (txtR bs P s).1 := by
  unfold txtR
  split
  · simp only [List.getD]
    cases h : P[(nR bs 2 s).1.toNat]? with
    | none => exact q0
    | some x => exact hP x (List.mem_of_getElem? h)
  · exact q0
theorem insR_all (Q : ByteArray → Prop) (q0 : Q ⟨#[]⟩) {P : List ByteArray} (hP : ∀ t ∈ P, Q t) (bs : List Int) (s : St) : Q (insR bs P s).1.c ∧ Q (insR bs P s).1.n ∧ Q (insR bs P s).1.d := by
  have h : ∀ (b : Bool) s', Q (if b then txtR bs P s' else (⟨#[]⟩, s')).1 := fun b s' => by
    cases b
    · exact q0
    · exact txtR_all Q q0 hP bs s'
  unfold insR
  dsimp only
  split
  · exact ⟨q0, q0, q0⟩
  · exact ⟨h _ _, h _ _, h _ _⟩
theorem hndR_all (Q : ByteArray → Prop) (q0 : Q ⟨#[]⟩) {P : List ByteArray} (hP : ∀ t ∈ P, Q t) (bs : List Int) (s : St) : Q (hndR bs P s).1.c := txtR_all Q q0 hP bs _

/-- A slice over a row of one's own. -/
theorem flat_at {α : Type} {C : α → List Value} {k : Nat} (hC : ∀ x, (C x).length = k) : ∀ (xs : List α) (i j : Nat) (a : α), xs[i]? = some a → j < k → (xs.flatMap C)[i * k + j]? = (C a)[j]?
  | [], i, j, a, h, _ => by simp at h
  | x :: xs, 0, j, a, h, hj => by
    have e : x = a := by simpa using h
    subst e
    rw [List.flatMap_cons, Nat.zero_mul, Nat.zero_add, List.getElem?_append_left (by rw [hC]; exact hj)]
  | x :: xs, i + 1, j, a, h, hj => by
    have h' : xs[i]? = some a := by simpa using h
    rw [List.flatMap_cons, List.getElem?_append_right (by rw [hC, Nat.succ_mul]; omega), hC, Nat.succ_mul]
    have e : i * k + k + j - k = i * k + j := by omega
    rw [e]
    exact flat_at hC xs i j a h' hj
theorem sl_gen {α : Type} {k : Nat} {R : World → List Value → α → Prop} {C : α → List Value} {w : World} {base : Nat} {e : TypeId} {v : Value} {xs : List α} (hC : ∀ x, (C x).length = k)
    (h : w.ownsRow base e k v xs.length (xs.flatMap C)) (hR : ∀ x ∈ xs, R w (C x) x) : Sl k R w v xs := by
  rcases h.2 with ⟨hv, h0⟩ | ⟨g, cap, cur, hv, hb, hg, hc1, hc2, hc3, ht⟩
  · rw [hv, List.eq_nil_of_length_eq_zero h0]
    exact ⟨none, 0, rfl, Nat.le_refl _, by omega, fun hp => by simp at hp⟩
  · refine ⟨some ⟨g, 0, none⟩, cap, hv, hc1, by unfold maxLen at hc2; omega, fun _ => ⟨g, 0, rfl, fun i a hi => ⟨C a, hR a (List.mem_of_getElem? hi), fun j u hj => ?_⟩⟩⟩
    have hjk : j < k := by
      rcases Nat.lt_or_ge j k with h | h
      · exact h
      · rw [List.getElem?_eq_none (by rw [hC]; exact h)] at hj; cases hj
    have hil : i < xs.length := (List.getElem?_eq_some_iff.1 hi).1
    have hlt : i * k + j < xs.length * k := by
      have : (i + 1) * k ≤ xs.length * k := Nat.mul_le_mul_right k hil
      rw [Nat.succ_mul] at this
      omega
    have e1 : (cur.toList.take (xs.length * k))[i * k + j]? = some u := by rw [ht, flat_at hC xs i j a hi hjk, hj]
    rw [List.getElem?_take_of_lt hlt] at e1
    simp only [World.cell?, hg]
    simpa using e1
theorem sl_ins {w : World} {base : Nat} {v : Value} {xs : List Ins} (h : w.ownsRow base 47 6 v xs.length (xs.flatMap insCl)) : Sl 6 RI w v xs := sl_gen (fun _ => rfl) h (fun _ _ => rfl)
theorem sl_hnd {w : World} {base : Nat} {v : Value} {xs : List Hnd} (h : w.ownsRow base 77 4 v xs.length (xs.flatMap hndCl)) : Sl 4 RH w v xs := sl_gen (fun _ => rfl) h (fun _ _ => rfl)
theorem sl_fld {w : World} {base : Nat} {v : Value} {xs : List Fld} (h : w.ownsRow base 54 3 v xs.length (xs.flatMap fldCl)) : Sl 3 RF w v xs := sl_gen (fun _ => rfl) h (fun _ _ => rfl)
theorem sl_str {w : World} {base : Nat} {v : Value} {xs : List ByteArray} (h : w.ownsRow base 9 1 v xs.length (xs.flatMap strCl)) : Sl 1 RS w v xs := sl_gen (fun _ => rfl) h (fun _ _ => rfl)

/-- Rows that have been laid since, of other types than the struct's. -/
structure Rw where
  v : Value
  e : TypeId
  k : Nat
  n : Nat
  cells : List Value
structure Bw (w : World) (g : Nat) (T : TypeId) (cs : Array Value) (D r : Nat) (v pv : Value) (bs : List Int) (P : List ByteArray) (w1 : World) (s1 : St) (rows : List Rw) : Prop where
  bx : Bx w g T cs D r v pv bs P w1 s1
  ow : ∀ x ∈ rows, x.e ≠ T ∧ w1.ownsRow w.heap.size x.e x.k x.v x.n x.cells
section
variable {w w1 w2 : World} {D r : Nat} {v pv : Value} {bs : List Int} {P : List ByteArray} {s s1 s2 : St} {g : Nat} {T : TypeId} {cs : Array Value} {rows : List Rw}
theorem Bw.new (h : Dc w D r v pv bs P s) (cs : Array Value) (T : TypeId) : Bw w w.heap.size T cs D r v pv bs P (w.alloc (.cells cs T)) s [] := ⟨Bx.new h cs T, fun x hx => by simp at hx⟩
theorem Bw.call (h : Bw w g T cs D r v pv bs P w1 s1 rows) (hdr : Dc w2 D r v pv bs P s2) (hk : Dk D r w1 w2) : Bw w g T cs D r v pv bs P w2 s2 rows :=
  ⟨h.bx.call hdr hk, fun x hx => ⟨(h.ow x hx).1, ownsRow_same (h.ow x hx).2 (fun g' hg' => by
    have hl := (h.ow x hx).2.lt g' hg'
    obtain ⟨s0, h0⟩ := h.bx.h0
    have a := h0.lt
    have b := h0.rd.lt
    exact hk.block g' hl.2 (by omega))⟩⟩
theorem Bw.ch (h : Bw w g T cs D r v pv bs P w1 s1 rows) (hk : Ch w1 w2) : Bw w g T cs D r v pv bs P w2 s1 rows := h.call (h.bx.dc.keep hk) (Cs.of_ch hk)
theorem Bw.set (h : Bw w g T cs D r v pv bs P w1 s1 rows) (i : Nat) (u : Value) : Bw w g T (cs.setIfInBounds i u) D r v pv bs P (w1.setCell ⟨g, i, none⟩ u) s1 rows :=
  ⟨h.bx.set i u, fun x hx => ⟨(h.ow x hx).1, ownsRow_same (h.ow x hx).2 (fun g' hg' => Below.heap_setCell _ _ _ _ (fun e => by
    obtain ⟨_, cur, hc⟩ := own_obj (h.ow x hx).2 hg'
    have e : g' = g := e
    rw [e, h.bx.b] at hc
    have : T = x.e := by simpa using (by simpa using hc : _ ∧ _).2
    exact (h.ow x hx).1 this.symm))⟩⟩
theorem Bw.row (h : Bw w g T cs D r v pv bs P w1 s1 rows) {e : TypeId} {k n : Nat} {l : Value} {cells : List Value} (hL : Lx w1 e k l n cells D r v pv bs P w2 s2) (he : e ≠ T) : Bw w g T cs D r v pv bs P w2 s2 (⟨l, e, k, n, cells⟩ :: rows) := by
  have h1 := h.call hL.dc hL.dk
  refine ⟨h1.bx, fun x hx => ?_⟩
  rcases List.mem_cons.1 hx with rfl | hx
  · exact ⟨he, ownsRow_base hL.own h.bx.k.size⟩
  · exact h1.ow x hx
theorem Bw.c (h : Bw w g T cs D r v pv bs P w1 s1 rows) (i : Nat) {u : Value} (hu : cs[i]? = some u) : w1.cell? ⟨g, i, none⟩ = some u := h.bx.c i hu
theorem Bw.fz (h : Bw w g T cs D r v pv bs P w1 s1 rows) (i : Nat) : w1.frozen? ⟨g, i, none⟩ = false := h.bx.fz i
theorem Bw.dc (h : Bw w g T cs D r v pv bs P w1 s1 rows) : Dc w1 D r v pv bs P s1 := h.bx.dc
end

set_option maxRecDepth 100000 in
set_option maxHeartbeats 16000000 in
theorem method_bad (D r : Nat) (v pv : Value) (bs : List Int) (P : List ByteArray) (s : St) (hP : ∀ t ∈ P, t.size ≤ 65535) (w : World) (h : Dc w D r v pv bs P s)
    (x1 x2 : ByteArray) (x3 x4 : Bool) (x5 x6 : Int) (co : List Ins) (s1 s2 s3 s4 s5 s6 s7 : St)
    (e1 : txtR bs P s = (x1, s1)) (e2 : txtR bs P s1 = (x2, s2)) (e3 : yesR bs s2 = (x3, s3)) (e4 : yesR bs s3 = (x4, s4)) (e5 : nR bs 1 s4 = (x5, s5)) (e6 : nR bs 1 s5 = (x6, s6)) (e7 : listR 200 (fun bs => insR bs P) bs s6 = (co, s7))
    (hb : bad s7 = true) :
    Calls Tryz.prog 94 #[.pointer (some ⟨D, 0, none⟩)] w fun e w' => ∃ vc vh, e = .returned (.agg #[.string x1, .string x2, .bool x3, .bool x4, .int .i64 x5, .int .i64 x6, vc, vh]) ∧ w'.ownsRow w.heap.size 47 6 vc co.length (co.flatMap insCl) ∧ w'.ownsRow w.heap.size 77 4 vh ([] : List Hnd).length (([] : List Hnd).flatMap hndCl) ∧ Dc w' D r v pv bs P (sy s7) ∧ Dk D r w w' := by
  have H1 : Hid (∀ w', Dc w' D r v pv bs P s → Calls Tryz.prog 88 #[.pointer (some ⟨D, 0, none⟩)] w' fun e w'' => e = .returned (.string x1) ∧ Dc w'' D r v pv bs P s1 ∧ Dk D r w' w'') := fun w' h' => by
    have := dtext_any D r v pv bs P s w' h'; rw [e1] at this; exact this
  have H2 : Hid (∀ w', Dc w' D r v pv bs P s1 → Calls Tryz.prog 88 #[.pointer (some ⟨D, 0, none⟩)] w' fun e w'' => e = .returned (.string x2) ∧ Dc w'' D r v pv bs P s2 ∧ Dk D r w' w'') := fun w' h' => by
    have := dtext_any D r v pv bs P s1 w' h'; rw [e2] at this; exact this
  have H3 : Hid (∀ w', Dc w' D r v pv bs P s2 → Calls Tryz.prog 89 #[.pointer (some ⟨D, 0, none⟩)] w' fun e w'' => e = .returned (.bool x3) ∧ Dc w'' D r v pv bs P s3 ∧ Dk D r w' w'') := fun w' h' => by
    have := dyes_any D r v pv bs P s2 w' h'; rw [e3] at this; exact this
  have H4 : Hid (∀ w', Dc w' D r v pv bs P s3 → Calls Tryz.prog 89 #[.pointer (some ⟨D, 0, none⟩)] w' fun e w'' => e = .returned (.bool x4) ∧ Dc w'' D r v pv bs P s4 ∧ Dk D r w' w'') := fun w' h' => by
    have := dyes_any D r v pv bs P s3 w' h'; rw [e4] at this; exact this
  have H5 : Hid (∀ w', Dc w' D r v pv bs P s4 → Calls Tryz.prog 122 #[.pointer (some ⟨r, 0, none⟩)] w' fun e w'' => e = .returned (.int .i64 x5) ∧ Dc w'' D r v pv bs P s5 ∧ Dk D r w' w'') := fun w' h' => by
    have := u1_any D r v pv bs P s4 w' h'; rw [e5] at this; exact this
  have H6 : Hid (∀ w', Dc w' D r v pv bs P s5 → Calls Tryz.prog 122 #[.pointer (some ⟨r, 0, none⟩)] w' fun e w'' => e = .returned (.int .i64 x6) ∧ Dc w'' D r v pv bs P s6 ∧ Dk D r w' w'') := fun w' h' => by
    have := u1_any D r v pv bs P s5 w' h'; rw [e6] at this; exact this
  have H7 : Hid (∀ w', Dc w' D r v pv bs P s6 → Calls Tryz.prog 123 #[.pointer (some ⟨D, 0, none⟩), .int .i64 200, .func (.func 124) #[.pointer (some ⟨D, 0, none⟩)] #[]] w' fun e w'' => ∃ l, e = .returned l ∧ Lx w' 47 6 l co.length (co.flatMap insCl) D r v pv bs P w'' s7) := fun w' h' => by
    have := listI_any D r v pv bs P s6 (fun bs => insR bs P) 200 (by decide) w' h' (fun w0 s0 h0 => instruction_any D r v pv bs P s0 w0 h0); rw [e7] at this; exact this
  have HF7 : Hid (∀ w', Dc w' D r v pv bs P s7 → Calls Tryz.prog 50 #[.pointer (some ⟨D, 0, none⟩)] w' fun e w'' => e = .returned (.bool true) ∧ Dc w'' D r v pv bs P (sy s7) ∧ Dk D r w' w'') := fun w' h' => by
    have := failed_any D r v pv bs P s7 w' h'; rw [hb] at this; exact this
  generalize sy s7 = s7' at *
  clear e1 e2 e3 e4 e5 e6 e7 hb hP
  have B0 := Bw.new h #[.string ⟨#[]⟩, .string ⟨#[]⟩, .bool false, .bool false, .int .i64 0, .int .i64 0, .slice none 0 0, .slice none 0 0] 45
  clear h
  have c0 := B0.dc.c0
  have HS : Hid (∀ cs w' s' rows, Bw w w.heap.size 45 cs D r v pv bs P w' s' rows → w'.cell? ⟨D, 0, none⟩ = some (.pointer (some ⟨r, 0, none⟩)) ∧ w'.frozen? ⟨w.heap.size, 4, none⟩ = false ∧ w'.frozen? ⟨w.heap.size, 5, none⟩ = false) := fun cs w' s' rows B => ⟨B.dc.c0, B.fz 4, B.fz 5⟩
  go_enter Tryz.func94, Tryz.ntmps94
  go_wp2
  refine wp_scope_once 0 (by rfl) ?_
  go_wp2_with (first
    | (go_at_call 87; (with_reducible refine (at_any r v bs s.a s.f _ B0.dc.rd).mono ?_); rintro e w' ⟨rfl, hw⟩; have hw := hw.symm; subst hw)
    | (go_at_call 88; (with_reducible refine (H1.out _ B0.dc).mono ?_); rintro e w1 ⟨rfl, h1, k1⟩; have B1 := B0.call h1 k1)
    | (go_at_call 88; (with_reducible refine (H2.out _ B1.dc).mono ?_); rintro e w2 ⟨rfl, h2, k2⟩; have B2 := B1.call h2 k2; have f20 := B2.fz 0; have g20 := B2.c 0 rfl; have f21 := B2.fz 1; have g21 := B2.c 1 rfl; have C2 : Bw w w.heap.size 45 #[.string x1, .string x2, .bool false, .bool false, .int .i64 0, .int .i64 0, .slice none 0 0, .slice none 0 0] D r v pv bs P _ s2 [] := (B2.set 0 (.string x1)).set 1 (.string x2))
    | (go_at_call 89; (with_reducible refine (H3.out _ C2.dc).mono ?_); rintro e w3 ⟨rfl, h3, k3⟩; have B3 := C2.call h3 k3)
    | (go_at_call 89; (with_reducible refine (H4.out _ B3.dc).mono ?_); rintro e w4 ⟨rfl, h4, k4⟩; have B4 := B3.call h4 k4; have f42 := B4.fz 2; have g42 := B4.c 2 rfl; have f43 := B4.fz 3; have g43 := B4.c 3 rfl; have C4 : Bw w w.heap.size 45 #[.string x1, .string x2, .bool x3, .bool x4, .int .i64 0, .int .i64 0, .slice none 0 0, .slice none 0 0] D r v pv bs P _ s4 [] := (B4.set 2 (.bool x3)).set 3 (.bool x4); have B4d := C4.ch (Ch.refl _).drew; have hSd := HS.out _ _ _ _ B4d)
    | fail)
  clear C4 B4 C2 B3 B2 B1 B0
  go_region_held3 (fun w' => w'.cell? ⟨D, 0, none⟩ = some (.pointer (some ⟨r, 0, none⟩)) ∧ w'.frozen? ⟨w.heap.size, 4, none⟩ = false ∧ w'.frozen? ⟨w.heap.size, 5, none⟩ = false) (first | assumption | exact HS.out _ _ _ _ (B6.set _ _) | exact HS.out _ _ _ _ ((B6.set _ _).set _ _) | fail) (first
    | (go_at_call 122; (with_reducible refine (H5.out _ B4d.dc).mono ?_); rintro e w5 ⟨rfl, h5, k5⟩; have B5 := B4d.call h5 k5; have hS5 := HS.out _ _ _ _ B5; clear B4d)
    | (go_at_call 122; (with_reducible refine (H6.out _ B5.dc).mono ?_); rintro e w6 ⟨rfl, h6, k6⟩; have B6 := B5.call h6 k6; have hS6 := HS.out _ _ _ _ B6; clear B5; have f64 := B6.fz 4; have g64 := B6.c 4 rfl; have f65 := B6.fz 5; have g65 := B6.c 5 rfl)
    | fail)
  have C6 : Bw w w.heap.size 45 #[.string x1, .string x2, .bool x3, .bool x4, .int .i64 x5, .int .i64 x6, .slice none 0 0, .slice none 0 0] D r v pv bs P _ s6 [] := (B6.set 4 (.int .i64 x5)).set 5 (.int .i64 x6)
  go_wp2_with (first
    | (go_at_call 123; (with_reducible refine (H7.out _ C6.dc).mono ?_); rintro e w7 ⟨l7, rfl, hL7⟩; obtain ⟨a7, c7, rfl⟩ := own_form hL7.own; have B7 := C6.row hL7 (by decide); have f76 := B7.fz 6; have g76 := B7.c 6 rfl; have C7 : Bw w w.heap.size 45 #[.string x1, .string x2, .bool x3, .bool x4, .int .i64 x5, .int .i64 x6, .slice a7 co.length c7, .slice none 0 0] D r v pv bs P _ s7 [⟨.slice a7 co.length c7, 47, 6, co.length, co.flatMap insCl⟩] := B7.set 6 (.slice a7 co.length c7))
    | (go_at_call 50; (with_reducible refine (HF7.out _ C7.dc).mono ?_); rintro e w8 ⟨rfl, h8, k8⟩; have B8 := C7.call h8 k8; have f80 := B8.fz 0; have g80 := B8.c 0 rfl; have f81 := B8.fz 1; have g81 := B8.c 1 rfl; have f82 := B8.fz 2; have g82 := B8.c 2 rfl; have f83 := B8.fz 3; have g83 := B8.c 3 rfl; have f84 := B8.fz 4; have g84 := B8.c 4 rfl; have f85 := B8.fz 5; have g85 := B8.c 5 rfl; have f86 := B8.fz 6; have g86 := B8.c 6 rfl; have f87 := B8.fz 7; have g87 := B8.c 7 rfl)
    | fail)
  go_step3
  refine And.intro rfl ?_
  change Code.wp Tryz.prog _ _ _ _
  go_wp2
  have BZ : Bw w w.heap.size 45 #[.string x1, .string x2, .bool x3, .bool x4, .int .i64 x5, .int .i64 x6, .slice a7 co.length c7, .slice none 0 0] D r v pv bs P _ s7' [⟨.slice a7 co.length c7, 47, 6, co.length, co.flatMap insCl⟩] := ((((((((B8.set 0 (.string x1)).set 1 (.string x2)).set 2 (.bool x3)).set 3 (.bool x4)).set 4 (.int .i64 x5)).set 5 (.int .i64 x6)).set 6 (.slice a7 co.length c7)).set 7 (.slice none 0 0))
  try rw [Exit.noGoto_ret]
  refine bodyPost_ret (results_cell_row rfl _ _ w.heap.size 45 _ (0, 0) _ rfl BZ.bx.b Tryz.underlying45 rfl info45) rfl ?_
  exact ⟨_, _, rfl, (BZ.ow _ (List.mem_cons_self ..)).2, World.ownsRow_nil _ _ _ _, BZ.dc, BZ.bx.k⟩

set_option maxRecDepth 100000 in
set_option maxHeartbeats 16000000 in
theorem method_on (D r : Nat) (v pv : Value) (bs : List Int) (P : List ByteArray) (s : St) (hP : ∀ t ∈ P, t.size ≤ 65535) (w : World) (h : Dc w D r v pv bs P s)
    (x1 x2 : ByteArray) (x3 x4 : Bool) (x5 x6 : Int) (co : List Ins) (s1 s2 s3 s4 s5 s6 s7 : St)
    (e1 : txtR bs P s = (x1, s1)) (e2 : txtR bs P s1 = (x2, s2)) (e3 : yesR bs s2 = (x3, s3)) (e4 : yesR bs s3 = (x4, s4)) (e5 : nR bs 1 s4 = (x5, s5)) (e6 : nR bs 1 s5 = (x6, s6)) (e7 : listR 200 (fun bs => insR bs P) bs s6 = (co, s7))
    (hb : bad s7 = false)
    (hs : List Hnd) (s8 : St) (e8 : listR 20 (fun bs => hndR bs P) bs (sy s7) = (hs, s8)) :
    Calls Tryz.prog 94 #[.pointer (some ⟨D, 0, none⟩)] w fun e w' => ∃ vc vh, e = .returned (.agg #[.string x1, .string x2, .bool x3, .bool x4, .int .i64 x5, .int .i64 x6, vc, vh]) ∧ w'.ownsRow w.heap.size 47 6 vc co.length (co.flatMap insCl) ∧ w'.ownsRow w.heap.size 77 4 vh hs.length (hs.flatMap hndCl) ∧ Dc w' D r v pv bs P (mu s8 (mthE ⟨x1, x2, x3, x4, x5, x6, co, hs⟩) s.a) ∧ Dk D r w w' := by
  have H1 : Hid (∀ w', Dc w' D r v pv bs P s → Calls Tryz.prog 88 #[.pointer (some ⟨D, 0, none⟩)] w' fun e w'' => e = .returned (.string x1) ∧ Dc w'' D r v pv bs P s1 ∧ Dk D r w' w'') := fun w' h' => by
    have := dtext_any D r v pv bs P s w' h'; rw [e1] at this; exact this
  have H2 : Hid (∀ w', Dc w' D r v pv bs P s1 → Calls Tryz.prog 88 #[.pointer (some ⟨D, 0, none⟩)] w' fun e w'' => e = .returned (.string x2) ∧ Dc w'' D r v pv bs P s2 ∧ Dk D r w' w'') := fun w' h' => by
    have := dtext_any D r v pv bs P s1 w' h'; rw [e2] at this; exact this
  have H3 : Hid (∀ w', Dc w' D r v pv bs P s2 → Calls Tryz.prog 89 #[.pointer (some ⟨D, 0, none⟩)] w' fun e w'' => e = .returned (.bool x3) ∧ Dc w'' D r v pv bs P s3 ∧ Dk D r w' w'') := fun w' h' => by
    have := dyes_any D r v pv bs P s2 w' h'; rw [e3] at this; exact this
  have H4 : Hid (∀ w', Dc w' D r v pv bs P s3 → Calls Tryz.prog 89 #[.pointer (some ⟨D, 0, none⟩)] w' fun e w'' => e = .returned (.bool x4) ∧ Dc w'' D r v pv bs P s4 ∧ Dk D r w' w'') := fun w' h' => by
    have := dyes_any D r v pv bs P s3 w' h'; rw [e4] at this; exact this
  have H5 : Hid (∀ w', Dc w' D r v pv bs P s4 → Calls Tryz.prog 122 #[.pointer (some ⟨r, 0, none⟩)] w' fun e w'' => e = .returned (.int .i64 x5) ∧ Dc w'' D r v pv bs P s5 ∧ Dk D r w' w'') := fun w' h' => by
    have := u1_any D r v pv bs P s4 w' h'; rw [e5] at this; exact this
  have H6 : Hid (∀ w', Dc w' D r v pv bs P s5 → Calls Tryz.prog 122 #[.pointer (some ⟨r, 0, none⟩)] w' fun e w'' => e = .returned (.int .i64 x6) ∧ Dc w'' D r v pv bs P s6 ∧ Dk D r w' w'') := fun w' h' => by
    have := u1_any D r v pv bs P s5 w' h'; rw [e6] at this; exact this
  have H7 : Hid (∀ w', Dc w' D r v pv bs P s6 → Calls Tryz.prog 123 #[.pointer (some ⟨D, 0, none⟩), .int .i64 200, .func (.func 124) #[.pointer (some ⟨D, 0, none⟩)] #[]] w' fun e w'' => ∃ l, e = .returned l ∧ Lx w' 47 6 l co.length (co.flatMap insCl) D r v pv bs P w'' s7) := fun w' h' => by
    have := listI_any D r v pv bs P s6 (fun bs => insR bs P) 200 (by decide) w' h' (fun w0 s0 h0 => instruction_any D r v pv bs P s0 w0 h0); rw [e7] at this; exact this
  have HF7 : Hid (∀ w', Dc w' D r v pv bs P s7 → Calls Tryz.prog 50 #[.pointer (some ⟨D, 0, none⟩)] w' fun e w'' => e = .returned (.bool false) ∧ Dc w'' D r v pv bs P (sy s7) ∧ Dk D r w' w'') := fun w' h' => by
    have := failed_any D r v pv bs P s7 w' h'; rw [hb] at this; exact this
  have H8 : Hid (∀ w', Dc w' D r v pv bs P (sy s7) → Calls Tryz.prog 125 #[.pointer (some ⟨D, 0, none⟩), .int .i64 20, .func (.func 126) #[.pointer (some ⟨D, 0, none⟩)] #[]] w' fun e w'' => ∃ l, e = .returned l ∧ Lx w' 77 4 l hs.length (hs.flatMap hndCl) D r v pv bs P w'' s8) := fun w' h' => by
    have := listH_any D r v pv bs P (sy s7) (fun bs => hndR bs P) 20 (by decide) w' h' (fun w0 s0 h0 => handler_any D r v pv bs P s0 w0 h0); rw [e8] at this; exact this
  have hMF : MFine ⟨x1, x2, x3, x4, x5, x6, co, hs⟩ := by
    have a1 := txtR_all (fun t => t.size ≤ 65535) (Nat.zero_le _) hP bs s
    have a2 := txtR_all (fun t => t.size ≤ 65535) (Nat.zero_le _) hP bs s1
    have a3 := listR_all (r := fun bs => insR bs P) (bs := bs) 200 (fun x : Ins => x.c.size ≤ 65535 ∧ x.n.size ≤ 65535 ∧ x.d.size ≤ 65535) (fun s0 => insR_all (fun t => t.size ≤ 65535) (Nat.zero_le _) hP bs s0) s6
    have a4 := listR_all (r := fun bs => hndR bs P) (bs := bs) 20 (fun x : Hnd => x.c.size ≤ 65535) (fun s0 => hndR_all (fun t => t.size ≤ 65535) (Nat.zero_le _) hP bs s0) (sy s7)
    rw [e1] at a1
    rw [e2] at a2
    rw [e7] at a3
    rw [e8] at a4
    exact ⟨Nat.le_trans a1 (by omega), Nat.le_trans a2 (by omega), fun x hx => by have := a3 x hx; omega, fun x hx => by have := a4 x hx; omega⟩
  have HM : Hid (∀ w' vc vh, w'.ownsRow w.heap.size 47 6 vc co.length (co.flatMap insCl) → w'.ownsRow w.heap.size 77 4 vh hs.length (hs.flatMap hndCl) → Calls Tryz.prog 39 #[.agg #[.string x1, .string x2, .bool x3, .bool x4, .int .i64 x5, .int .i64 x6, vc, vh]] w' fun e w'' => e = .returned (.int .i64 (mthE ⟨x1, x2, x3, x4, x5, x6, co, hs⟩)) ∧ Ch w' w'') := fun w' vc vh o1 o2 => checkMethod_any ⟨x1, x2, x3, x4, x5, x6, co, hs⟩ vc vh w' hMF (sl_ins o1) (sl_hnd o2)
  have H9 : Hid (∀ w', Dc w' D r v pv bs P s8 → _) := fun w' h' => must_any D r v pv bs P s8 (mthE ⟨x1, x2, x3, x4, x5, x6, co, hs⟩) s.a w' h'
  generalize mthE ⟨x1, x2, x3, x4, x5, x6, co, hs⟩ = q at *
  generalize mu s8 q s.a = s9 at *
  clear e8 hMF
  generalize sy s7 = s7' at *
  clear e1 e2 e3 e4 e5 e6 e7 hb hP
  have B0 := Bw.new h #[.string ⟨#[]⟩, .string ⟨#[]⟩, .bool false, .bool false, .int .i64 0, .int .i64 0, .slice none 0 0, .slice none 0 0] 45
  clear h
  have c0 := B0.dc.c0
  have HS : Hid (∀ cs w' s' rows, Bw w w.heap.size 45 cs D r v pv bs P w' s' rows → w'.cell? ⟨D, 0, none⟩ = some (.pointer (some ⟨r, 0, none⟩)) ∧ w'.frozen? ⟨w.heap.size, 4, none⟩ = false ∧ w'.frozen? ⟨w.heap.size, 5, none⟩ = false) := fun cs w' s' rows B => ⟨B.dc.c0, B.fz 4, B.fz 5⟩
  go_enter Tryz.func94, Tryz.ntmps94
  go_wp2
  go_step3
  go_wp2_with (first
    | (go_at_call 87; (with_reducible refine (at_any r v bs s.a s.f _ B0.dc.rd).mono ?_); rintro e w' ⟨rfl, hw⟩; have hw := hw.symm; subst hw)
    | (go_at_call 88; (with_reducible refine (H1.out _ B0.dc).mono ?_); rintro e w1 ⟨rfl, h1, k1⟩; have B1 := B0.call h1 k1)
    | (go_at_call 88; (with_reducible refine (H2.out _ B1.dc).mono ?_); rintro e w2 ⟨rfl, h2, k2⟩; have B2 := B1.call h2 k2; have f20 := B2.fz 0; have g20 := B2.c 0 rfl; have f21 := B2.fz 1; have g21 := B2.c 1 rfl; have C2 : Bw w w.heap.size 45 #[.string x1, .string x2, .bool false, .bool false, .int .i64 0, .int .i64 0, .slice none 0 0, .slice none 0 0] D r v pv bs P _ s2 [] := (B2.set 0 (.string x1)).set 1 (.string x2))
    | (go_at_call 89; (with_reducible refine (H3.out _ C2.dc).mono ?_); rintro e w3 ⟨rfl, h3, k3⟩; have B3 := C2.call h3 k3)
    | (go_at_call 89; (with_reducible refine (H4.out _ B3.dc).mono ?_); rintro e w4 ⟨rfl, h4, k4⟩; have B4 := B3.call h4 k4; have f42 := B4.fz 2; have g42 := B4.c 2 rfl; have f43 := B4.fz 3; have g43 := B4.c 3 rfl; have C4 : Bw w w.heap.size 45 #[.string x1, .string x2, .bool x3, .bool x4, .int .i64 0, .int .i64 0, .slice none 0 0, .slice none 0 0] D r v pv bs P _ s4 [] := (B4.set 2 (.bool x3)).set 3 (.bool x4); have B4d := C4.ch (Ch.refl _).drew; have hSd := HS.out _ _ _ _ B4d)
    | fail)
  clear C4 B4 C2 B3 B2 B1 B0
  go_region_held3 (fun w' => w'.cell? ⟨D, 0, none⟩ = some (.pointer (some ⟨r, 0, none⟩)) ∧ w'.frozen? ⟨w.heap.size, 4, none⟩ = false ∧ w'.frozen? ⟨w.heap.size, 5, none⟩ = false) (first | assumption | exact HS.out _ _ _ _ (B6.set _ _) | exact HS.out _ _ _ _ ((B6.set _ _).set _ _) | fail) (first
    | (go_at_call 122; (with_reducible refine (H5.out _ B4d.dc).mono ?_); rintro e w5 ⟨rfl, h5, k5⟩; have B5 := B4d.call h5 k5; have hS5 := HS.out _ _ _ _ B5; clear B4d)
    | (go_at_call 122; (with_reducible refine (H6.out _ B5.dc).mono ?_); rintro e w6 ⟨rfl, h6, k6⟩; have B6 := B5.call h6 k6; have hS6 := HS.out _ _ _ _ B6; clear B5; have f64 := B6.fz 4; have g64 := B6.c 4 rfl; have f65 := B6.fz 5; have g65 := B6.c 5 rfl)
    | fail)
  have C6 : Bw w w.heap.size 45 #[.string x1, .string x2, .bool x3, .bool x4, .int .i64 x5, .int .i64 x6, .slice none 0 0, .slice none 0 0] D r v pv bs P _ s6 [] := (B6.set 4 (.int .i64 x5)).set 5 (.int .i64 x6)
  go_wp2_with (first
    | (go_at_call 123; (with_reducible refine (H7.out _ C6.dc).mono ?_); rintro e w7 ⟨l7, rfl, hL7⟩; obtain ⟨a7, c7, rfl⟩ := own_form hL7.own; have B7 := C6.row hL7 (by decide); have f76 := B7.fz 6; have g76 := B7.c 6 rfl; have C7 : Bw w w.heap.size 45 #[.string x1, .string x2, .bool x3, .bool x4, .int .i64 x5, .int .i64 x6, .slice a7 co.length c7, .slice none 0 0] D r v pv bs P _ s7 [⟨.slice a7 co.length c7, 47, 6, co.length, co.flatMap insCl⟩] := B7.set 6 (.slice a7 co.length c7))
    | (go_at_call 50; (with_reducible refine (HF7.out _ C7.dc).mono ?_); rintro e w8 ⟨rfl, h8, k8⟩; have B8 := C7.call h8 k8; have f80 := B8.fz 0; have g80 := B8.c 0 rfl; have f81 := B8.fz 1; have g81 := B8.c 1 rfl; have f82 := B8.fz 2; have g82 := B8.c 2 rfl; have f83 := B8.fz 3; have g83 := B8.c 3 rfl; have f84 := B8.fz 4; have g84 := B8.c 4 rfl; have f85 := B8.fz 5; have g85 := B8.c 5 rfl; have f86 := B8.fz 6; have g86 := B8.c 6 rfl; have f87 := B8.fz 7; have g87 := B8.c 7 rfl)
    | (go_at_call 125; (with_reducible refine (H8.out _ B8.dc).mono ?_); rintro e w9 ⟨l9, rfl, hL9⟩; obtain ⟨a9, c9, rfl⟩ := own_form hL9.own; have B9 := B8.row hL9 (by decide); have f90 := B9.fz 0; have g90 := B9.c 0 rfl; have f91 := B9.fz 1; have g91 := B9.c 1 rfl; have f92 := B9.fz 2; have g92 := B9.c 2 rfl; have f93 := B9.fz 3; have g93 := B9.c 3 rfl; have f94 := B9.fz 4; have g94 := B9.c 4 rfl; have f95 := B9.fz 5; have g95 := B9.c 5 rfl; have f96 := B9.fz 6; have g96 := B9.c 6 rfl; have f97 := B9.fz 7; have g97 := B9.c 7 rfl; have C9 : Bw w w.heap.size 45 #[.string x1, .string x2, .bool x3, .bool x4, .int .i64 x5, .int .i64 x6, .slice a7 co.length c7, .slice a9 hs.length c9] D r v pv bs P _ s8 [⟨.slice a9 hs.length c9, 77, 4, hs.length, hs.flatMap hndCl⟩, ⟨.slice a7 co.length c7, 47, 6, co.length, co.flatMap insCl⟩] := B9.set 7 (.slice a9 hs.length c9); have o9 := (C9.ow _ (List.mem_cons_self ..)).2; have o7 := (C9.ow _ (List.mem_cons_of_mem _ (List.mem_cons_self ..))).2)
    | (go_at_call 39; (with_reducible refine (HM.out _ _ _ o7 o9).mono ?_); rintro e w10 ⟨rfl, k10⟩; have B10 := C9.ch k10)
    | (go_at_call 90; (with_reducible refine (H9.out _ B10.dc).mono ?_); rintro e w11 ⟨rfl, h11, k11⟩; have B11 := B10.call h11 k11; have f110 := B11.fz 0; have g110 := B11.c 0 rfl; have f111 := B11.fz 1; have g111 := B11.c 1 rfl; have f112 := B11.fz 2; have g112 := B11.c 2 rfl; have f113 := B11.fz 3; have g113 := B11.c 3 rfl; have f114 := B11.fz 4; have g114 := B11.c 4 rfl; have f115 := B11.fz 5; have g115 := B11.c 5 rfl; have f116 := B11.fz 6; have g116 := B11.c 6 rfl; have f117 := B11.fz 7; have g117 := B11.c 7 rfl)
    | fail)
  refine wp_label ?_
  go_wp2_with fail
  have BZ : Bw w w.heap.size 45 #[.string x1, .string x2, .bool x3, .bool x4, .int .i64 x5, .int .i64 x6, .slice a7 co.length c7, .slice a9 hs.length c9] D r v pv bs P _ s9 [⟨.slice a9 hs.length c9, 77, 4, hs.length, hs.flatMap hndCl⟩, ⟨.slice a7 co.length c7, 47, 6, co.length, co.flatMap insCl⟩] := ((((((((B11.set 0 (.string x1)).set 1 (.string x2)).set 2 (.bool x3)).set 3 (.bool x4)).set 4 (.int .i64 x5)).set 5 (.int .i64 x6)).set 6 (.slice a7 co.length c7)).set 7 (.slice a9 hs.length c9))
  try rw [Exit.noGoto_ret]
  refine bodyPost_ret (results_cell_row rfl _ _ w.heap.size 45 _ (0, 0) _ rfl BZ.bx.b Tryz.underlying45 rfl info45) rfl ?_
  exact ⟨_, _, rfl, (BZ.ow _ (List.mem_cons_of_mem _ (List.mem_cons_self ..))).2, (BZ.ow _ (List.mem_cons_self ..)).2, BZ.dc, BZ.bx.k⟩

theorem dmethod_any (D r : Nat) (v pv : Value) (bs : List Int) (P : List ByteArray) (s : St) (hP : ∀ t ∈ P, t.size ≤ 65535) (w : World) (h : Dc w D r v pv bs P s) :
    Calls Tryz.prog 94 #[.pointer (some ⟨D, 0, none⟩)] w fun e w' => ∃ vc vh, e = .returned (.agg #[.string (mthR P bs s).1.n, .string (mthR P bs s).1.d, .bool (mthR P bs s).1.st, .bool (mthR P bs s).1.ab, .int .i64 (mthR P bs s).1.sk, .int .i64 (mthR P bs s).1.lo, vc, vh]) ∧
      w'.ownsRow w.heap.size 47 6 vc (mthR P bs s).1.code.length ((mthR P bs s).1.code.flatMap insCl) ∧ w'.ownsRow w.heap.size 77 4 vh (mthR P bs s).1.hs.length ((mthR P bs s).1.hs.flatMap hndCl) ∧ Dc w' D r v pv bs P (mthR P bs s).2 ∧ Dk D r w w' := by
  obtain ⟨⟨x1, s1⟩, e1⟩ : ∃ q, txtR bs P s = q := ⟨_, rfl⟩
  obtain ⟨⟨x2, s2⟩, e2⟩ : ∃ q, txtR bs P s1 = q := ⟨_, rfl⟩
  obtain ⟨⟨x3, s3⟩, e3⟩ : ∃ q, yesR bs s2 = q := ⟨_, rfl⟩
  obtain ⟨⟨x4, s4⟩, e4⟩ : ∃ q, yesR bs s3 = q := ⟨_, rfl⟩
  obtain ⟨⟨x5, s5⟩, e5⟩ : ∃ q, nR bs 1 s4 = q := ⟨_, rfl⟩
  obtain ⟨⟨x6, s6⟩, e6⟩ : ∃ q, nR bs 1 s5 = q := ⟨_, rfl⟩
  obtain ⟨⟨co, s7⟩, e7⟩ : ∃ q, listR 200 (fun bs => insR bs P) bs s6 = q := ⟨_, rfl⟩
  obtain ⟨⟨hs, s8⟩, e8⟩ : ∃ q, listR 20 (fun bs => hndR bs P) bs (sy s7) = q := ⟨_, rfl⟩
  cases hb : bad s7 with
  | true =>
    have e : mthR P bs s = (⟨x1, x2, x3, x4, x5, x6, co, []⟩, sy s7) := by simp only [mthR, hdr, bd, e1, e2, e3, e4, e5, e6, e7, fb, hb, if_true]
    rw [e]
    exact method_bad D r v pv bs P s hP w h x1 x2 x3 x4 x5 x6 co s1 s2 s3 s4 s5 s6 s7 e1 e2 e3 e4 e5 e6 e7 hb
  | false =>
    have e : mthR P bs s = (⟨x1, x2, x3, x4, x5, x6, co, hs⟩, mu s8 (mthE ⟨x1, x2, x3, x4, x5, x6, co, hs⟩) s.a) := by simp only [mthR, hdr, bd, e1, e2, e3, e4, e5, e6, e7, fb, hb, Bool.false_eq_true, if_false, e8, mst]
    rw [e]
    exact method_on D r v pv bs P s hP w h x1 x2 x3 x4 x5 x6 co s1 s2 s3 s4 s5 s6 s7 e1 e2 e3 e4 e5 e6 e7 hb hs s8 e8
end Go.Proofs.YtdalibfgkkgcpaaGreat
