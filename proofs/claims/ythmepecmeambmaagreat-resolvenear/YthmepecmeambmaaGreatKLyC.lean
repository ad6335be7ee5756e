/- A class's own method of a name and a type: Method of link. -/
/- Dispatch: what an object's class does. -/
/- The first of a row of classes that has it; Dispatch. -/
import Derived.Test.YthmepecmeambmaaGreatKLwB
import Derived.Test.YthmepecmeambmaaGreatKLkW
import Derived.Test.YthmepecmeambmaaGreatKLmF
import Derived.Deep.RegionHeld3
namespace Go.Proofs.YthmepecmeambmaaGreat
open Go.RowKit
set_option linter.unusedVariables false

set_option maxHeartbeats 4000000 in
theorem ixM201 (d f : Nat) (pd : Mth → Bool) (xs : List Mth) (v : Value) (w : World) (hv : Sl 8 RM w v xs) (hf : ∀ w', Ch w w' → ∀ x ∈ xs, ∀ vc vh, Sl 6 RI w' vc x.code → Sl 4 RH w' vh x.hs → Calls Tryz.prog 201 #[.agg #[.string x.n, .string x.d, .bool x.st, .bool x.ab, .int .i64 x.sk, .int .i64 x.lo, vc, vh], .pointer (some ⟨d, 0, none⟩), .pointer (some ⟨f, 0, none⟩)] w' fun e w2 => e = .returned (.bool (pd x)) ∧ Ch w' w2) :
    Calls Tryz.prog 200 #[v, .func (.func 201) #[] #[.pointer (some ⟨d, 0, none⟩), .pointer (some ⟨f, 0, none⟩)]] w fun e w' => e = .returned (.int .i64 (idI pd xs)) ∧ Ch w w' := by
  obtain ⟨ao, c, rfl, hc1, hc2⟩ := hv.form
  have HS : Hid (Sl 8 RM w (.slice ao xs.length c) xs) := hv
  have HF : Hid (∀ w', Ch w w' → ∀ x ∈ xs, ∀ vc vh, Sl 6 RI w' vc x.code → Sl 4 RH w' vh x.hs → Calls Tryz.prog 201 #[.agg #[.string x.n, .string x.d, .bool x.st, .bool x.ab, .int .i64 x.sk, .int .i64 x.lo, vc, vh], .pointer (some ⟨d, 0, none⟩), .pointer (some ⟨f, 0, none⟩)] w' fun e w2 => e = .returned (.bool (pd x)) ∧ Ch w' w2) := hf
  clear hv hf
  obtain ⟨ans, hans⟩ : ∃ q, idI pd xs = q := ⟨_, rfl⟩
  rw [hans]
  have HA : Hid (idJ pd 0 (xs.drop 0) = ans) := hans
  clear hans
  go_enter Tryz.func200, Tryz.ntmps200
  go_wp2_with fail
  go_loopw [8] (fun i wr => ∃ k : Nat, k ≤ xs.length ∧ i = .int .i64 k ∧ idJ pd k (xs.drop k) = ans ∧ Ch w wr) (fun i _ => xs.length - (intOf i).toNat)
  case atStart => exact ⟨0, Nat.zero_le _, rfl, HA.out, Ch.refl _⟩
  case round =>
    obtain ⟨k, hk, rfl, hno, hcr⟩ := hrel
    by_cases hlt : k < xs.length
    · obtain ⟨x, hx⟩ : ∃ x, xs[k]? = some x := ⟨_, List.getElem?_eq_getElem hlt⟩
      obtain ⟨b, off, vc, vh, rfl, s1, s2, q0, q1, q2, q3, q4, q5, q6, q7⟩ := (HS.out.keepM hcr).atM hx
      have hfk := HF.out wr hcr x (List.mem_of_getElem? hx) vc vh s1 s2
      obtain ⟨ac, cc, rfl, _, _⟩ := s1.form
      obtain ⟨ah, chh, rfl, _, _⟩ := s2.form
      clear s1 s2
      rw [idJ_step pd hx] at hno
      have HN : Hid ((if pd x then (k : Int) else idJ pd (k + 1) (xs.drop (k + 1))) = ans) := hno
      clear hno hx
      obtain ⟨bq, hbq⟩ : ∃ q, pd x = q := ⟨_, rfl⟩
      rw [hbq] at hfk HN
      clear hbq
      cases bq with
      | true =>
        go_wp2_with (first
          | (go_at_call 201; (with_reducible refine hfk.mono ?_); rintro e w3 ⟨rfl, c3⟩)
          | fail)
        go_ret
        exact ⟨by rw [← HN.out]; rfl, hcr.trans c3⟩
      | false =>
        go_wp2_with (first
          | (go_at_call 201; (with_reducible refine hfk.mono ?_); rintro e w3 ⟨rfl, c3⟩)
          | fail)
        go_roundw
        case rel => exact ⟨k + 1, by omega, by go_num, by rw [← HN.out]; rfl, hcr.trans c3⟩
        case measure => simp [intOf]; omega
    · obtain rfl : k = xs.length := by omega
      rw [List.drop_length] at hno
      subst hno
      go_wp2_with fail
      go_ret
      exact ⟨rfl, hcr⟩


theorem idJ_none {α : Type} (pd : α → Bool) : ∀ (xs : List α) (k : Nat), xs.find? pd = none → idJ pd k xs = -1
  | [], k, _ => rfl
  | x :: r, k, h => by
    rw [List.find?_cons] at h
    cases hp : pd x with
    | true => rw [hp] at h; cases h
    | false => rw [hp] at h; rw [idJ, hp, if_neg (by simp)]; exact idJ_none pd r _ h
theorem idJ_some {α : Type} (pd : α → Bool) {m : α} : ∀ (xs : List α) (k : Nat), xs.find? pd = some m → ∃ i : Nat, idJ pd k xs = ((k + i : Nat) : Int) ∧ xs[i]? = some m
  | [], k, h => by cases h
  | x :: r, k, h => by
    rw [List.find?_cons] at h
    cases hp : pd x with
    | true => rw [hp] at h; exact ⟨0, by rw [idJ, hp, if_pos rfl]; rfl, by simpa using h⟩
    | false =>
      rw [hp] at h
      obtain ⟨i, h1, h2⟩ := idJ_some pd r (k + 1) h
      exact ⟨i + 1, by rw [idJ, hp, if_neg (by simp), h1]; congr 1; omega, by simpa using h2⟩
def mIs (n d : ByteArray) (x : Mth) : Bool := nq x.n n && nq x.d d
/-- A class's own method. -/
def mth (P : List Cls) (c n d : ByteArray) : Option Mth := (meOf (lk P) c).find? (mIs n d)
def noM : Mth := ⟨⟨#[]⟩, ⟨#[]⟩, false, false, 0, 0, [], []⟩
def mV (vc vh : Value) (m : Mth) : Value := .agg #[.string m.n, .string m.d, .bool m.st, .bool m.ab, .int .i64 m.sk, .int .i64 m.lo, vc, vh]

set_option maxHeartbeats 4000000 in
theorem mIs_any (n d : ByteArray) (o : Mth) (e f : Nat) (a1 : Option Addr) (n1 c1 : Nat) (a2 : Option Addr) (n2 c2 : Nat) (w : World) (h0 : w.cell? ⟨e, 0, none⟩ = some (.string n)) (h1 : w.cell? ⟨f, 0, none⟩ = some (.string d)) :
    Calls Tryz.prog 201 #[.agg #[.string o.n, .string o.d, .bool o.st, .bool o.ab, .int .i64 o.sk, .int .i64 o.lo, .slice a1 n1 c1, .slice a2 n2 c2], .pointer (some ⟨e, 0, none⟩), .pointer (some ⟨f, 0, none⟩)] w fun e w' => e = .returned (.bool (mIs n d o)) ∧ Ch w w' := by
  unfold mIs
  obtain ⟨xn, xd, xst, xab, xsk, xlo, xc, xh⟩ := o
  dsimp only
  have hq : (xn.toList == n.toList) = nq xn n := toList_nq _ _
  have hq2 : (xd.toList == d.toList) = nq xd d := toList_nq _ _
  generalize nq xn n = r at *
  generalize nq xd d = s at *
  have g0 := cell_keep ((Ch.refl w).alloc (.cells #[.string xn, .string xd, .bool xst, .bool xab, .int .i64 xsk, .int .i64 xlo, .slice a1 n1 c1, .slice a2 n2 c2] 66)) h0
  have g1 := cell_keep ((Ch.refl w).alloc (.cells #[.string xn, .string xd, .bool xst, .bool xab, .int .i64 xsk, .int .i64 xlo, .slice a1 n1 c1, .slice a2 n2 c2] 66)) h1
  cases r <;> cases s <;>
  · go_enter Tryz.func201, Tryz.ntmps201
    go_wp2
    go_ret
    exact ⟨rfl, (Ch.refl w).alloc _⟩

/-- A method that shares nothing with what was there in W. -/
def Mw (W w' : World) (v : Value) (m : Mth) : Prop := ∃ vc vh, v = mV vc vh m ∧ Ow 6 62 RI W.heap.size w' vc m.code ∧ Ow 4 124 RH W.heap.size w' vh m.hs

set_option maxHeartbeats 16000000 in
set_option maxRecDepth 100000 in
theorem lkMethod_any (c n d : ByteArray) (P : List Cls) (g b : Nat) (w : World) (h : Pm w g b P) (hT : okCs P) :
    Calls Tryz.prog 136 #[.pointer (some ⟨g, 0, none⟩), .string c, .string n, .string d] w fun e w' => ∃ v, e = .returned (.tuple #[v, .bool (mth P c n d).isSome]) ∧ Mw w w' v ((mth P c n d).getD noM) ∧ Ch w w' := by
  have B1 := Bo.new (Ch.refl w) #[.string n] 9
  have B2 := Bo.new B1.ch #[.string d] 9
  have B1 := B1.call ((Ch.refl _).alloc (.cells #[.string d] 9))
  have R0 := Bo.new B2.ch #[.string ⟨#[]⟩, .string ⟨#[]⟩, .bool false, .bool false, .int .i64 0, .int .i64 0, .slice none 0 0, .slice none 0 0] 66
  have B1 := B1.call ((Ch.refl _).alloc (.cells #[.string ⟨#[]⟩, .string ⟨#[]⟩, .bool false, .bool false, .int .i64 0, .int .i64 0, .slice none 0 0, .slice none 0 0] 66))
  have B2 := B2.call ((Ch.refl _).alloc (.cells #[.string ⟨#[]⟩, .string ⟨#[]⟩, .bool false, .bool false, .int .i64 0, .int .i64 0, .slice none 0 0, .slice none 0 0] 66))
  have e1 : (w.alloc (.cells #[.string n] 9)).heap.size = w.heap.size + 1 := by simp
  have e2 : ((w.alloc (.cells #[.string n] 9)).alloc (.cells #[.string d] 9)).heap.size = w.heap.size + 2 := by simp
  rw [e1] at B2
  rw [e2] at R0
  clear e1 e2
  have hf := find_any c P g b _ (h.keep R0.ch)
  unfold mth meOf
  cases hx : ixN P c with
  | none =>
    rw [pn_no hx] at hf
    rw [ix_none.1 hx]
    clear hx h
    go_enter Tryz.func136, Tryz.ntmps136
    go_wp2_with (first
      | (go_at_call 92; (with_reducible refine hf.mono ?_); clear hf; rintro e w2 ⟨rfl, c2⟩; have R := R0.call c2)
      | (refine wpList_store_row rfl 66 (.tmp 8) (.tmp 17) rfl (w.heap.size + 2) #[.string ⟨#[]⟩, .string ⟨#[]⟩, .bool false, .bool false, .int .i64 0, .int .i64 0, .slice none 0 0, .slice none 0 0] rfl rfl 66 _ R.b infoM rfl (one8 _ _ _ _ _ _ _ _ _ _ _ _) ?_)
      | fail)
    have R6 := R.setRow #[.string ⟨#[]⟩, .string ⟨#[]⟩, .bool false, .bool false, .int .i64 0, .int .i64 0, .slice none 0 0, .slice none 0 0]
    refine bodyPost_ret (results_cell_one rfl _ _ (w.heap.size + 2) 66 _ (0, 0) _ rfl R6.b Tryz.underlying66 rfl infoM) rfl ?_
    exact ⟨_, rfl, ⟨_, _, rfl, Ow.nil, Ow.nil⟩, R6.ch⟩
  | some i =>
    obtain ⟨x, hxi, hxl, _⟩ := ix_some hx
    rw [pn_is hx] at hf
    unfold ptr at hf
    rw [hxl]
    dsimp only
    obtain ⟨vi, vf, vm, hat, p0, p1, p2, p3, p4, p5, p6⟩ := h.at hxi
    have hxT : clsT x ≤ 12000 := hT x (List.mem_of_getElem? hxi)
    have HM : Hid (∀ w', Ch w w' → w'.cell? ⟨w.heap.size, 0, none⟩ = some (.string n) → w'.cell? ⟨w.heap.size + 1, 0, none⟩ = some (.string d) → Calls Tryz.prog 200 #[vm, .func (.func 201) #[] #[.pointer (some ⟨w.heap.size, 0, none⟩), .pointer (some ⟨w.heap.size + 1, 0, none⟩)]] w' fun e w2 => e = .returned (.int .i64 (idI (mIs n d) x.me)) ∧ Ch w' w2) := fun w' k k1 k2 =>
      ixM201 _ _ (mIs n d) x.me vm w' (hat.2.2.keepM k) (fun w2 q m _ vc vh s1 s2 => by
        obtain ⟨a1, c1, rfl, _, _⟩ := s1.form
        obtain ⟨a2, c2, rfl, _, _⟩ := s2.form
        exact mIs_any n d m _ _ a1 _ c1 a2 _ c2 w2 (cell_keep q k1) (cell_keep q k2))
    have HS : Hid (∀ w', Ch w w' → Sl 8 RM w' vm x.me) := fun w' k => hat.2.2.keepM k
    have HQ : Hid (∀ w', Ch w w' → w'.cell? ⟨b, i * 7 + 6, none⟩ = some vm) := fun w' k => cell_keep k p6
    obtain ⟨am, cm, rfl, _, _⟩ := hat.2.2.form
    clear hat p0 p1 p2 p3 p4 p5 p6 hx hxi hxl h
    cases hm : x.me.find? (mIs n d) with
    | none =>
      have hi : idI (mIs n d) x.me = -1 := idJ_none _ _ _ hm
      rw [hi] at HM
      clear hi hm hxT
      go_enter Tryz.func136, Tryz.ntmps136
      go_wp2_with (first
        | (go_at_call 92; (with_reducible refine hf.mono ?_); clear hf; rintro e w2 ⟨rfl, c2⟩; have R := R0.call c2; have q1 := (B1.call c2).c 0 rfl; have q2 := (B2.call c2).c 0 rfl; have q6 := HQ.out w2 R.ch; have hm := HM.out w2 R.ch q1 q2)
        | (go_at_call 200; (with_reducible refine hm.mono ?_); clear hm; rintro e w3 ⟨rfl, c3⟩; have R3 := R.call c3)
        | (refine wpList_store_row rfl 66 (.tmp 8) (.tmp 26) rfl (w.heap.size + 2) #[.string ⟨#[]⟩, .string ⟨#[]⟩, .bool false, .bool false, .int .i64 0, .int .i64 0, .slice none 0 0, .slice none 0 0] rfl rfl 66 _ R3.b infoM rfl (one8 _ _ _ _ _ _ _ _ _ _ _ _) ?_)
        | fail)
      have R6 := R3.setRow #[.string ⟨#[]⟩, .string ⟨#[]⟩, .bool false, .bool false, .int .i64 0, .int .i64 0, .slice none 0 0, .slice none 0 0]
      refine bodyPost_ret (results_cell_one rfl _ _ (w.heap.size + 2) 66 _ (0, 0) _ rfl R6.b Tryz.underlying66 rfl infoM) rfl ?_
      exact ⟨_, rfl, ⟨_, _, rfl, Ow.nil, Ow.nil⟩, R6.ch⟩
    | some m =>
      obtain ⟨k, hk1, hk2⟩ := idJ_some _ _ 0 hm
      have hi : idI (mIs n d) x.me = (k : Int) := by unfold idI; rw [hk1]; congr 1; omega
      rw [hi] at HM
      have hmem := List.mem_of_getElem? hk2
      have hkl := (List.getElem?_eq_some_iff.1 hk2).1
      obtain ⟨_, _, hb1, hb2, _⟩ := lim_mm (lim_m hxT hmem)
      obtain ⟨_, _, hl⟩ := lim_i hxT
      clear hi hm hk1 hmem
      go_enter Tryz.func136, Tryz.ntmps136
      go_wp2_with (first
        | (go_at_call 92; (with_reducible refine hf.mono ?_); clear hf; rintro e w2 ⟨rfl, c2⟩; have R := R0.call c2; have q1 := (B1.call c2).c 0 rfl; have q2 := (B2.call c2).c 0 rfl; have q6 := HQ.out w2 R.ch; have hm := HM.out w2 R.ch q1 q2)
        | (go_at_call 200; (with_reducible refine hm.mono ?_); clear hm; rintro e w3 ⟨rfl, c3⟩; have R3 := R.call c3; have q63 := HQ.out w3 R3.ch; obtain ⟨bb, off, vc, vh, rfl, s1, s2, r0, r1, r2, r3, r4, r5, r6, r7⟩ := (HS.out w3 R3.ch).atM hk2; have ho := ownCode_any m vc vh w3 s1 s2 (by omega) (by omega); obtain ⟨ac, cc, rfl, _, _⟩ := s1.form; obtain ⟨ah, chh, rfl, _, _⟩ := s2.form)
        | (go_at_call 172; (with_reducible refine ho.mono ?_); clear ho; rintro e w4 ⟨vc4, vh4, rfl, oc, oh, c4⟩; have R4 := R3.call c4; have oc := oc.base (B' := w.heap.size) R3.ch.size; have oh := oh.base (B' := w.heap.size) R3.ch.size; obtain ⟨ac4, cc4, rfl⟩ := oc.form; obtain ⟨ah4, ch4, rfl⟩ := oh.form)
        | (refine wpList_store_row rfl 66 (.tmp 8) (.tmp 34) rfl (w.heap.size + 2) #[.string m.n, .string m.d, .bool m.st, .bool m.ab, .int .i64 m.sk, .int .i64 m.lo, .slice ac4 m.code.length cc4, .slice ah4 m.hs.length ch4] rfl rfl 66 _ R4.b infoM rfl (one8 _ _ _ _ _ _ _ _ _ _ _ _) ?_)
        | fail)
      have R6 := R4.setRow #[.string m.n, .string m.d, .bool m.st, .bool m.ab, .int .i64 m.sk, .int .i64 m.lo, .slice ac4 m.code.length cc4, .slice ah4 m.hs.length ch4]
      refine bodyPost_ret (results_cell_one rfl _ _ (w.heap.size + 2) 66 _ (0, 0) _ rfl R6.b Tryz.underlying66 rfl infoM) rfl ?_
      exact ⟨_, rfl, ⟨_, _, rfl, oc.rowI _ R4.b (by decide), oh.rowH _ R4.b (by decide)⟩, R6.ch⟩
end Go.Proofs.YthmepecmeambmaaGreat
namespace Go.Proofs.YthmepecmeambmaaGreat
open Go.RowKit
set_option linter.unusedVariables false

/-- Is it one that an object does? -/
def dsp (m : Mth) : Bool := !m.st && !m.ab
def dspF (P : List Cls) (n d : ByteArray) (c : ByteArray) : Option Mth := (mth P c n d).filter dsp
/-- The first of a row of classes that has what is looked for. -/
def fst1 (F : ByteArray → Option Mth) : List ByteArray → ByteArray × Option Mth
  | [] => (⟨#[]⟩, none)
  | x :: r => match F x with
    | some m => (x, some m)
    | none => fst1 F r
theorem fst1_step (F : ByteArray → Option Mth) {l : List ByteArray} {k : Nat} {x : ByteArray} (h : l[k]? = some x) : fst1 F (l.drop k) = match F x with
    | some m => (x, some m)
    | none => fst1 F (l.drop (k + 1)) := by
  obtain ⟨h1, h2⟩ := List.getElem?_eq_some_iff.1 h
  rw [List.drop_eq_getElem_cons h1, h2, fst1]
theorem Mw.keep {W w w' : World} {v : Value} {m : Mth} (h : Mw W w v m) (c : Ch w w') : Mw W w' v m := by
  obtain ⟨vc, vh, e, h1, h2⟩ := h
  exact ⟨vc, vh, e, h1.keepI c, h2.keepH c⟩
theorem Mw.base {W W' w : World} {v : Value} {m : Mth} (h : Mw W w v m) (c : Ch W' W) : Mw W' w v m := by
  obtain ⟨vc, vh, e, h1, h2⟩ := h
  exact ⟨vc, vh, e, h1.base c.size, h2.base c.size⟩
theorem Mw.row {W w : World} {v : Value} {m : Mth} (h : Mw W w v m) {g : Nat} {cs : Array Value} {T : TypeId} (cs' : Array Value) (hg : w.heap[g]? = some (.cells cs T)) (h1 : T ≠ 62) (h2 : T ≠ 124) : Mw W (w.setRow g cs') v m := by
  obtain ⟨vc, vh, e, q1, q2⟩ := h
  exact ⟨vc, vh, e, q1.rowI _ hg h1, q2.rowH _ hg h2⟩

set_option maxHeartbeats 16000000 in
set_option maxRecDepth 100000 in
theorem askD_any (x n d : ByteArray) (tp tn td : Nat) (P : List Cls) (g b : Nat) (w : World) (h : Pm w g b P) (hT : okCs P) (hp : w.cell? ⟨tp, 0, none⟩ = some (.pointer (some ⟨g, 0, none⟩))) (hn : w.cell? ⟨tn, 0, none⟩ = some (.string n)) (hd : w.cell? ⟨td, 0, none⟩ = some (.string d)) :
    Calls Tryz.prog 139 #[.string x, .pointer (some ⟨tp, 0, none⟩), .pointer (some ⟨tn, 0, none⟩), .pointer (some ⟨td, 0, none⟩)] w fun e w' => ∃ v m, e = .returned (.tuple #[v, .bool (dspF P n d x).isSome]) ∧ Mw w w' v m ∧ (∀ m', dspF P n d x = some m' → m = m') ∧ Ch w w' := by
  have R0 := Bo.new (Ch.refl w) #[.string ⟨#[]⟩, .string ⟨#[]⟩, .bool false, .bool false, .int .i64 0, .int .i64 0, .slice none 0 0, .slice none 0 0] 66
  have q1 := cell_keep R0.ch hp
  have q2 := cell_keep R0.ch hn
  have q3 := cell_keep R0.ch hd
  have hm := lkMethod_any x n d P g b _ (h.keep R0.ch) hT
  clear h hp hn hd
  unfold dspF
  generalize mth P x n d = o at *
  obtain ⟨t, m, ht, hmm⟩ : ∃ t m, o.isSome = t ∧ o.getD noM = m := ⟨_, _, rfl, rfl⟩
  rw [ht, hmm] at hm
  have hR : (Option.filter dsp o).isSome = (t && dsp m) ∧ ∀ m', Option.filter dsp o = some m' → m = m' := by
    subst ht hmm
    cases o with
    | none => exact ⟨rfl, fun _ h => by cases h⟩
    | some m =>
      constructor
      · simp [Option.filter]; cases dsp m <;> rfl
      · intro m' h
        simp [Option.filter] at h
        exact h.2
  obtain ⟨hR1, hR2⟩ := hR
  rw [hR1]
  have HR : Hid (∀ m', Option.filter dsp o = some m' → m = m') := hR2
  clear hR1 hR2 ht hmm
  obtain ⟨mn, md, st, ab, sk, lo, code, hs⟩ := m
  unfold dsp
  dsimp only
  cases t with
  | false =>
    go_enter Tryz.func139, Tryz.ntmps139
    go_wp2_with (first
      | (go_at_call 136; (with_reducible refine hm.mono ?_); clear hm; rintro e w2 ⟨v, rfl, ⟨vc, vh, rfl, oc, oh⟩, c2⟩; have oc := oc.base (B' := w.heap.size) R0.ch.size; have oh := oh.base (B' := w.heap.size) R0.ch.size; obtain ⟨ac, cc, rfl⟩ := oc.form; obtain ⟨ah, ch, rfl⟩ := oh.form; unfold mV; have R := R0.call c2; have T0 := Bo.new R.ch #[.string ⟨#[]⟩, .string ⟨#[]⟩, .bool false, .bool false, .int .i64 0, .int .i64 0, .slice none 0 0, .slice none 0 0] 66; have R1 := R.call ((Ch.refl _).alloc (.cells #[.string ⟨#[]⟩, .string ⟨#[]⟩, .bool false, .bool false, .int .i64 0, .int .i64 0, .slice none 0 0, .slice none 0 0] 66)))
      | (refine wpList_store_row rfl 66 (.tmp 7) (.tmp 15) rfl w2.heap.size #[.string mn, .string md, .bool st, .bool ab, .int .i64 sk, .int .i64 lo, .slice ac code.length cc, .slice ah hs.length ch] rfl rfl 66 _ T0.b infoM rfl (one8 _ _ _ _ _ _ _ _ _ _ _ _) ?_; have T1 := (T0.setRow #[.string mn, .string md, .bool st, .bool ab, .int .i64 sk, .int .i64 lo, .slice ac code.length cc, .slice ah hs.length ch]).call (Ch.refl _).drew; have R2 := (R1.farRow (g' := w2.heap.size) #[.string mn, .string md, .bool st, .bool ab, .int .i64 sk, .int .i64 lo, .slice ac code.length cc, .slice ah hs.length ch] (Nat.ne_of_lt R.lt) R.ch.size).call (Ch.refl _).drew)
      | fail)
    refine wp_region_held_drew (S := fun w' => w'.cell? ⟨w2.heap.size, 0, none⟩ = some (.string mn) ∧ w'.cell? ⟨w2.heap.size, 1, none⟩ = some (.string md) ∧ w'.cell? ⟨w2.heap.size, 2, none⟩ = some (.bool st) ∧ w'.cell? ⟨w2.heap.size, 3, none⟩ = some (.bool ab) ∧ w'.cell? ⟨w2.heap.size, 4, none⟩ = some (.int .i64 sk) ∧ w'.cell? ⟨w2.heap.size, 5, none⟩ = some (.int .i64 lo) ∧ w'.cell? ⟨w2.heap.size, 6, none⟩ = some (.slice ac code.length cc) ∧ w'.cell? ⟨w2.heap.size, 7, none⟩ = some (.slice ah hs.length ch)) (by kernel_rfl) (by exact ⟨(T1).c 0 rfl, (T1).c 1 rfl, (T1).c 2 rfl, (T1).c 3 rfl, (T1).c 4 rfl, (T1).c 5 rfl, (T1).c 6 rfl, (T1).c 7 rfl⟩) (fun hHeld => ?_)
    refine wpAnyH_take (i := 0) (oi := ({ dst := some 17, op := Go.Op.load 66 (Go.Operand.tmp 7), type := 66, pos := "resolve.go:66", after := #[], guard := none } : Oper)) (v := ?_) rfl (by kernel_rfl) (by kernel_rfl) (by kernel_rfl) (fun _ _ _ h => h) (Or.inl ⟨by rfl, ?_⟩) (by assumption) ?_
    rotate_left
    focus (intro w' hSw; (try dsimp only at hSw); go_split_ands; go_simp; try with_reducible rfl)
    (try simp only [Act.put, List.setIfInBounds_toArray, List.set_cons_zero, List.set_cons_succ])
    refine wpAnyH_take (i := 1) (oi := ({ dst := some 18, op := Go.Op.move (Go.Operand.tmp 8), type := 4, pos := "resolve.go:66", after := #[], guard := none } : Oper)) (v := ?_) rfl (by kernel_rfl) (by kernel_rfl) (by kernel_rfl) (fun _ _ _ h => h) (Or.inl ⟨by rfl, ?_⟩) (by assumption) ?_
    rotate_left
    focus (intro w' hSw; (try dsimp only at hSw); go_split_ands; go_simp; try with_reducible rfl)
    (try simp only [Act.put, List.setIfInBounds_toArray, List.set_cons_zero, List.set_cons_succ])
    refine wpAnyH_take (i := 2) (oi := ({ dst := some 19, op := Go.Op.move (Go.Operand.tmp 18), type := 4, pos := "resolve.go:66", after := #[{ on := 1, ground := Go.Ground.data }], guard := none } : Oper)) (v := ?_) rfl (by kernel_rfl) (by kernel_rfl) (by kernel_rfl) (fun _ _ _ h => h) (Or.inl ⟨by rfl, ?_⟩) (by assumption) ?_
    rotate_left
    focus (intro w' hSw; (try dsimp only at hSw); go_split_ands; go_simp; try with_reducible rfl)
    (try simp only [Act.put, List.setIfInBounds_toArray, List.set_cons_zero, List.set_cons_succ])
    refine wpAnyH_take (i := 3) (oi := ({ dst := some 20, op := Go.Op.fieldAddr 66 (Go.Operand.tmp 7) 2, type := 0, pos := "resolve.go:66", after := #[{ on := 2, ground := Go.Ground.guard }], guard := some (2, true) } : Oper)) (v := undef) rfl (by kernel_rfl) (by kernel_rfl) (by kernel_rfl) (fun _ _ _ h => h) (Or.inr ⟨by rfl, rfl⟩) (by assumption) ?_
    (try simp only [Act.put, List.setIfInBounds_toArray, List.set_cons_zero, List.set_cons_succ])
    refine wpAnyH_take (i := 4) (oi := ({ dst := some 21, op := Go.Op.load 4 (Go.Operand.tmp 20), type := 4, pos := "resolve.go:66", after := #[{ on := 3, ground := Go.Ground.data }, { on := 2, ground := Go.Ground.guard }], guard := some (2, true) } : Oper)) (v := undef) rfl (by kernel_rfl) (by kernel_rfl) (by kernel_rfl) (fun _ _ _ h => h) (Or.inr ⟨by rfl, rfl⟩) (by assumption) ?_
    (try simp only [Act.put, List.setIfInBounds_toArray, List.set_cons_zero, List.set_cons_succ])
    refine wpAnyH_take (i := 5) (oi := ({ dst := some 22, op := Go.Op.unOp Go.UnOp.not 4 (Go.Operand.tmp 21), type := 4, pos := "resolve.go:66", after := #[{ on := 4, ground := Go.Ground.data }, { on := 2, ground := Go.Ground.guard }], guard := some (2, true) } : Oper)) (v := undef) rfl (by kernel_rfl) (by kernel_rfl) (by kernel_rfl) (fun _ _ _ h => h) (Or.inr ⟨by rfl, rfl⟩) (by assumption) ?_
    (try simp only [Act.put, List.setIfInBounds_toArray, List.set_cons_zero, List.set_cons_succ])
    refine wpAnyH_take (i := 6) (oi := ({ dst := some 23, op := Go.Op.pick (Go.Operand.tmp 19) (Go.Operand.tmp 22) (Go.Operand.const (Go.Value.bool false)), type := 4, pos := "resolve.go:66", after := #[{ on := 2, ground := Go.Ground.data }, { on := 5, ground := Go.Ground.data }], guard := none } : Oper)) (v := ?_) rfl (by kernel_rfl) (by kernel_rfl) (by kernel_rfl) (fun _ _ _ h => h) (Or.inl ⟨by rfl, ?_⟩) (by assumption) ?_
    rotate_left
    focus (intro w' hSw; (try dsimp only at hSw); go_split_ands; go_simp; try with_reducible rfl)
    (try simp only [Act.put, List.setIfInBounds_toArray, List.set_cons_zero, List.set_cons_succ])
    refine wpAnyH_take (i := 7) (oi := ({ dst := some 24, op := Go.Op.move (Go.Operand.tmp 23), type := 4, pos := "resolve.go:66", after := #[{ on := 6, ground := Go.Ground.data }, { on := 2, ground := Go.Ground.chain }], guard := none } : Oper)) (v := ?_) rfl (by kernel_rfl) (by kernel_rfl) (by kernel_rfl) (fun _ _ _ h => h) (Or.inl ⟨by rfl, ?_⟩) (by assumption) ?_
    rotate_left
    focus (intro w' hSw; (try dsimp only at hSw); go_split_ands; go_simp; try with_reducible rfl)
    (try simp only [Act.put, List.setIfInBounds_toArray, List.set_cons_zero, List.set_cons_succ])
    refine wpAnyH_take (i := 8) (oi := ({ dst := some 25, op := Go.Op.fieldAddr 66 (Go.Operand.tmp 7) 3, type := 0, pos := "resolve.go:66", after := #[{ on := 7, ground := Go.Ground.guard }, { on := 12, ground := Go.Ground.gcOnly Go.Departure.lateStores }], guard := some (7, true) } : Oper)) (v := undef) rfl (by kernel_rfl) (by kernel_rfl) (by kernel_rfl) (fun _ _ _ h => h) (Or.inr ⟨by rfl, rfl⟩) (by assumption) ?_
    (try simp only [Act.put, List.setIfInBounds_toArray, List.set_cons_zero, List.set_cons_succ])
    refine wpAnyH_take (i := 9) (oi := ({ dst := some 26, op := Go.Op.load 4 (Go.Operand.tmp 25), type := 4, pos := "resolve.go:66", after := #[{ on := 8, ground := Go.Ground.data }, { on := 7, ground := Go.Ground.guard }, { on := 12, ground := Go.Ground.gcOnly Go.Departure.lateStores }], guard := some (7, true) } : Oper)) (v := undef) rfl (by kernel_rfl) (by kernel_rfl) (by kernel_rfl) (fun _ _ _ h => h) (Or.inr ⟨by rfl, rfl⟩) (by assumption) ?_
    (try simp only [Act.put, List.setIfInBounds_toArray, List.set_cons_zero, List.set_cons_succ])
    refine wpAnyH_take (i := 10) (oi := ({ dst := some 27, op := Go.Op.unOp Go.UnOp.not 4 (Go.Operand.tmp 26), type := 4, pos := "resolve.go:66", after := #[{ on := 9, ground := Go.Ground.data }, { on := 7, ground := Go.Ground.guard }, { on := 12, ground := Go.Ground.gcOnly Go.Departure.lateStores }], guard := some (7, true) } : Oper)) (v := undef) rfl (by kernel_rfl) (by kernel_rfl) (by kernel_rfl) (fun _ _ _ h => h) (Or.inr ⟨by rfl, rfl⟩) (by assumption) ?_
    (try simp only [Act.put, List.setIfInBounds_toArray, List.set_cons_zero, List.set_cons_succ])
    refine wpAnyH_take (i := 11) (oi := ({ dst := some 28, op := Go.Op.pick (Go.Operand.tmp 24) (Go.Operand.tmp 27) (Go.Operand.const (Go.Value.bool false)), type := 4, pos := "resolve.go:66", after := #[{ on := 7, ground := Go.Ground.data }, { on := 10, ground := Go.Ground.data }, { on := 12, ground := Go.Ground.gcOnly Go.Departure.lateStores }], guard := none } : Oper)) (v := ?_) rfl (by kernel_rfl) (by kernel_rfl) (by kernel_rfl) (fun _ _ _ h => h) (Or.inl ⟨by rfl, ?_⟩) (by assumption) ?_
    rotate_left
    focus (intro w' hSw; (try dsimp only at hSw); go_split_ands; go_simp; try with_reducible rfl)
    (try simp only [Act.put, List.setIfInBounds_toArray, List.set_cons_zero, List.set_cons_succ])
    refine wpAnyH_ready (rs := [12]) (by kernel_rfl) (by simp) ?_
    refine AllReadyH.cons (o := ({ dst := none, op := Go.Op.store 66 (Go.Operand.tmp 5) (Go.Operand.tmp 17), type := 0, pos := "resolve.go:66", after := #[{ on := 0, ground := Go.Ground.data }, { on := 7, ground := Go.Ground.chain }, { on := 0, ground := Go.Ground.phase }, { on := 1, ground := Go.Ground.textOnly Go.Departure.lateStores }, { on := 2, ground := Go.Ground.textOnly Go.Departure.lateStores }, { on := 3, ground := Go.Ground.textOnly Go.Departure.lateStores }, { on := 4, ground := Go.Ground.textOnly Go.Departure.lateStores }, { on := 5, ground := Go.Ground.textOnly Go.Departure.lateStores }, { on := 6, ground := Go.Ground.textOnly Go.Departure.lateStores }, { on := 7, ground := Go.Ground.textOnly Go.Departure.lateStores }, { on := 8, ground := Go.Ground.textOnly Go.Departure.lateStores }, { on := 9, ground := Go.Ground.textOnly Go.Departure.lateStores }, { on := 10, ground := Go.Ground.textOnly Go.Departure.lateStores }, { on := 11, ground := Go.Ground.textOnly Go.Departure.lateStores }], guard := none } : Oper)) rfl (fun K hK => ?_) AllReadyH.nil
    refine wp_store_row 66 (.tmp 5) (.tmp 17) rfl w.heap.size #[.string mn, .string md, .bool st, .bool ab, .int .i64 sk, .int .i64 lo, .slice ac code.length cc, .slice ah hs.length ch] rfl rfl 66 _ R2.b infoM rfl (one8 _ _ _ _ _ _ _ _ _ _ _ _) ?_
    have T2 := T1.farRow (g' := w.heap.size) #[.string mn, .string md, .bool st, .bool ab, .int .i64 sk, .int .i64 lo, .slice ac code.length cc, .slice ah hs.length ch] (Nat.ne_of_gt R.lt) (Nat.le_refl _)
    have R3 := R2.setRow #[.string mn, .string md, .bool st, .bool ab, .int .i64 sk, .int .i64 lo, .slice ac code.length cc, .slice ah hs.length ch]
    refine hK.out _ _ ?_ (fun hHeld => ?_)
    exact ⟨(T2).c 0 rfl, (T2).c 1 rfl, (T2).c 2 rfl, (T2).c 3 rfl, (T2).c 4 rfl, (T2).c 5 rfl, (T2).c 6 rfl, (T2).c 7 rfl⟩
    clear hK K
    (try simp only [Act.put])
    refine wpAnyH_take (i := 13) (oi := ({ dst := some 6, op := Go.Op.assign (Go.Operand.tmp 28), type := 4, pos := "resolve.go:66", after := #[{ on := 11, ground := Go.Ground.data }, { on := 12, ground := Go.Ground.chain }, { on := 0, ground := Go.Ground.phase }, { on := 1, ground := Go.Ground.phase }, { on := 2, ground := Go.Ground.phase }, { on := 3, ground := Go.Ground.phase }, { on := 4, ground := Go.Ground.phase }, { on := 5, ground := Go.Ground.phase }, { on := 6, ground := Go.Ground.phase }, { on := 7, ground := Go.Ground.phase }, { on := 8, ground := Go.Ground.phase }, { on := 9, ground := Go.Ground.phase }, { on := 10, ground := Go.Ground.phase }, { on := 11, ground := Go.Ground.phase }, { on := 12, ground := Go.Ground.phase }], guard := none } : Oper)) (v := ?_) rfl (by kernel_rfl) (by kernel_rfl) (by kernel_rfl) (fun _ _ _ h => h) (Or.inl ⟨by rfl, ?_⟩) (by assumption) ?_
    rotate_left
    focus (intro w' hSw; (try dsimp only at hSw); go_split_ands; go_simp; try with_reducible rfl)
    (try simp only [Act.put, List.setIfInBounds_toArray, List.set_cons_zero, List.set_cons_succ])
    refine wpAnyH_done (by kernel_rfl) ?_ _
    go_wp2_with fail
    have oc1 := ((((oc.keepI ((Ch.refl _).alloc (.cells #[.string ⟨#[]⟩, .string ⟨#[]⟩, .bool false, .bool false, .int .i64 0, .int .i64 0, .slice none 0 0, .slice none 0 0] 66))).rowI #[.string mn, .string md, .bool st, .bool ab, .int .i64 sk, .int .i64 lo, .slice ac code.length cc, .slice ah hs.length ch] T0.b (by decide)).keepI (Ch.refl _).drew).rowI #[.string mn, .string md, .bool st, .bool ab, .int .i64 sk, .int .i64 lo, .slice ac code.length cc, .slice ah hs.length ch] R2.b (by decide))
    have oh1 := ((((oh.keepH ((Ch.refl _).alloc (.cells #[.string ⟨#[]⟩, .string ⟨#[]⟩, .bool false, .bool false, .int .i64 0, .int .i64 0, .slice none 0 0, .slice none 0 0] 66))).rowH #[.string mn, .string md, .bool st, .bool ab, .int .i64 sk, .int .i64 lo, .slice ac code.length cc, .slice ah hs.length ch] T0.b (by decide)).keepH (Ch.refl _).drew).rowH #[.string mn, .string md, .bool st, .bool ab, .int .i64 sk, .int .i64 lo, .slice ac code.length cc, .slice ah hs.length ch] R2.b (by decide))
    refine bodyPost_ret (results_cell_one rfl _ _ w.heap.size 66 _ (0, 0) _ rfl R3.b Tryz.underlying66 rfl infoM) rfl ?_
    exact ⟨_, _, rfl, ⟨_, _, rfl, oc1, oh1⟩, HR.out, R3.ch⟩
  | true =>
    cases st with
    | true =>
      go_enter Tryz.func139, Tryz.ntmps139
      go_wp2_with (first
        | (go_at_call 136; (with_reducible refine hm.mono ?_); clear hm; rintro e w2 ⟨v, rfl, ⟨vc, vh, rfl, oc, oh⟩, c2⟩; have oc := oc.base (B' := w.heap.size) R0.ch.size; have oh := oh.base (B' := w.heap.size) R0.ch.size; obtain ⟨ac, cc, rfl⟩ := oc.form; obtain ⟨ah, ch, rfl⟩ := oh.form; unfold mV; have R := R0.call c2; have T0 := Bo.new R.ch #[.string ⟨#[]⟩, .string ⟨#[]⟩, .bool false, .bool false, .int .i64 0, .int .i64 0, .slice none 0 0, .slice none 0 0] 66; have R1 := R.call ((Ch.refl _).alloc (.cells #[.string ⟨#[]⟩, .string ⟨#[]⟩, .bool false, .bool false, .int .i64 0, .int .i64 0, .slice none 0 0, .slice none 0 0] 66)))
        | (refine wpList_store_row rfl 66 (.tmp 7) (.tmp 15) rfl w2.heap.size #[.string mn, .string md, .bool true, .bool ab, .int .i64 sk, .int .i64 lo, .slice ac code.length cc, .slice ah hs.length ch] rfl rfl 66 _ T0.b infoM rfl (one8 _ _ _ _ _ _ _ _ _ _ _ _) ?_; have T1 := (T0.setRow #[.string mn, .string md, .bool true, .bool ab, .int .i64 sk, .int .i64 lo, .slice ac code.length cc, .slice ah hs.length ch]).call (Ch.refl _).drew; have R2 := (R1.farRow (g' := w2.heap.size) #[.string mn, .string md, .bool true, .bool ab, .int .i64 sk, .int .i64 lo, .slice ac code.length cc, .slice ah hs.length ch] (Nat.ne_of_lt R.lt) R.ch.size).call (Ch.refl _).drew)
        | fail)
      refine wp_region_held_drew (S := fun w' => w'.cell? ⟨w2.heap.size, 0, none⟩ = some (.string mn) ∧ w'.cell? ⟨w2.heap.size, 1, none⟩ = some (.string md) ∧ w'.cell? ⟨w2.heap.size, 2, none⟩ = some (.bool true) ∧ w'.cell? ⟨w2.heap.size, 3, none⟩ = some (.bool ab) ∧ w'.cell? ⟨w2.heap.size, 4, none⟩ = some (.int .i64 sk) ∧ w'.cell? ⟨w2.heap.size, 5, none⟩ = some (.int .i64 lo) ∧ w'.cell? ⟨w2.heap.size, 6, none⟩ = some (.slice ac code.length cc) ∧ w'.cell? ⟨w2.heap.size, 7, none⟩ = some (.slice ah hs.length ch)) (by kernel_rfl) (by exact ⟨(T1).c 0 rfl, (T1).c 1 rfl, (T1).c 2 rfl, (T1).c 3 rfl, (T1).c 4 rfl, (T1).c 5 rfl, (T1).c 6 rfl, (T1).c 7 rfl⟩) (fun hHeld => ?_)
      refine wpAnyH_take (i := 0) (oi := ({ dst := some 17, op := Go.Op.load 66 (Go.Operand.tmp 7), type := 66, pos := "resolve.go:66", after := #[], guard := none } : Oper)) (v := ?_) rfl (by kernel_rfl) (by kernel_rfl) (by kernel_rfl) (fun _ _ _ h => h) (Or.inl ⟨by rfl, ?_⟩) (by assumption) ?_
      rotate_left
      focus (intro w' hSw; (try dsimp only at hSw); go_split_ands; go_simp; try with_reducible rfl)
      (try simp only [Act.put, List.setIfInBounds_toArray, List.set_cons_zero, List.set_cons_succ])
      refine wpAnyH_take (i := 1) (oi := ({ dst := some 18, op := Go.Op.move (Go.Operand.tmp 8), type := 4, pos := "resolve.go:66", after := #[], guard := none } : Oper)) (v := ?_) rfl (by kernel_rfl) (by kernel_rfl) (by kernel_rfl) (fun _ _ _ h => h) (Or.inl ⟨by rfl, ?_⟩) (by assumption) ?_
      rotate_left
      focus (intro w' hSw; (try dsimp only at hSw); go_split_ands; go_simp; try with_reducible rfl)
      (try simp only [Act.put, List.setIfInBounds_toArray, List.set_cons_zero, List.set_cons_succ])
      refine wpAnyH_take (i := 2) (oi := ({ dst := some 19, op := Go.Op.move (Go.Operand.tmp 18), type := 4, pos := "resolve.go:66", after := #[{ on := 1, ground := Go.Ground.data }], guard := none } : Oper)) (v := ?_) rfl (by kernel_rfl) (by kernel_rfl) (by kernel_rfl) (fun _ _ _ h => h) (Or.inl ⟨by rfl, ?_⟩) (by assumption) ?_
      rotate_left
      focus (intro w' hSw; (try dsimp only at hSw); go_split_ands; go_simp; try with_reducible rfl)
      (try simp only [Act.put, List.setIfInBounds_toArray, List.set_cons_zero, List.set_cons_succ])
      refine wpAnyH_take (i := 3) (oi := ({ dst := some 20, op := Go.Op.fieldAddr 66 (Go.Operand.tmp 7) 2, type := 0, pos := "resolve.go:66", after := #[{ on := 2, ground := Go.Ground.guard }], guard := some (2, true) } : Oper)) (v := ?_) rfl (by kernel_rfl) (by kernel_rfl) (by kernel_rfl) (fun _ _ _ h => h) (Or.inl ⟨by rfl, ?_⟩) (by assumption) ?_
      rotate_left
      focus (intro w' hSw; (try dsimp only at hSw); go_split_ands; go_simp; try with_reducible rfl)
      (try simp only [Act.put, List.setIfInBounds_toArray, List.set_cons_zero, List.set_cons_succ])
      refine wpAnyH_take (i := 4) (oi := ({ dst := some 21, op := Go.Op.load 4 (Go.Operand.tmp 20), type := 4, pos := "resolve.go:66", after := #[{ on := 3, ground := Go.Ground.data }, { on := 2, ground := Go.Ground.guard }], guard := some (2, true) } : Oper)) (v := ?_) rfl (by kernel_rfl) (by kernel_rfl) (by kernel_rfl) (fun _ _ _ h => h) (Or.inl ⟨by rfl, ?_⟩) (by assumption) ?_
      rotate_left
      focus (intro w' hSw; (try dsimp only at hSw); go_split_ands; go_simp; try with_reducible rfl)
      (try simp only [Act.put, List.setIfInBounds_toArray, List.set_cons_zero, List.set_cons_succ])
      refine wpAnyH_take (i := 5) (oi := ({ dst := some 22, op := Go.Op.unOp Go.UnOp.not 4 (Go.Operand.tmp 21), type := 4, pos := "resolve.go:66", after := #[{ on := 4, ground := Go.Ground.data }, { on := 2, ground := Go.Ground.guard }], guard := some (2, true) } : Oper)) (v := ?_) rfl (by kernel_rfl) (by kernel_rfl) (by kernel_rfl) (fun _ _ _ h => h) (Or.inl ⟨by rfl, ?_⟩) (by assumption) ?_
      rotate_left
      focus (intro w' hSw; (try dsimp only at hSw); go_split_ands; go_simp; try with_reducible rfl)
      (try simp only [Act.put, List.setIfInBounds_toArray, List.set_cons_zero, List.set_cons_succ])
      refine wpAnyH_take (i := 6) (oi := ({ dst := some 23, op := Go.Op.pick (Go.Operand.tmp 19) (Go.Operand.tmp 22) (Go.Operand.const (Go.Value.bool false)), type := 4, pos := "resolve.go:66", after := #[{ on := 2, ground := Go.Ground.data }, { on := 5, ground := Go.Ground.data }], guard := none } : Oper)) (v := ?_) rfl (by kernel_rfl) (by kernel_rfl) (by kernel_rfl) (fun _ _ _ h => h) (Or.inl ⟨by rfl, ?_⟩) (by assumption) ?_
      rotate_left
      focus (intro w' hSw; (try dsimp only at hSw); go_split_ands; go_simp; try with_reducible rfl)
      (try simp only [Act.put, List.setIfInBounds_toArray, List.set_cons_zero, List.set_cons_succ])
      refine wpAnyH_take (i := 7) (oi := ({ dst := some 24, op := Go.Op.move (Go.Operand.tmp 23), type := 4, pos := "resolve.go:66", after := #[{ on := 6, ground := Go.Ground.data }, { on := 2, ground := Go.Ground.chain }], guard := none } : Oper)) (v := ?_) rfl (by kernel_rfl) (by kernel_rfl) (by kernel_rfl) (fun _ _ _ h => h) (Or.inl ⟨by rfl, ?_⟩) (by assumption) ?_
      rotate_left
      focus (intro w' hSw; (try dsimp only at hSw); go_split_ands; go_simp; try with_reducible rfl)
      (try simp only [Act.put, List.setIfInBounds_toArray, List.set_cons_zero, List.set_cons_succ])
      refine wpAnyH_take (i := 8) (oi := ({ dst := some 25, op := Go.Op.fieldAddr 66 (Go.Operand.tmp 7) 3, type := 0, pos := "resolve.go:66", after := #[{ on := 7, ground := Go.Ground.guard }, { on := 12, ground := Go.Ground.gcOnly Go.Departure.lateStores }], guard := some (7, true) } : Oper)) (v := undef) rfl (by kernel_rfl) (by kernel_rfl) (by kernel_rfl) (fun _ _ _ h => h) (Or.inr ⟨by rfl, rfl⟩) (by assumption) ?_
      (try simp only [Act.put, List.setIfInBounds_toArray, List.set_cons_zero, List.set_cons_succ])
      refine wpAnyH_take (i := 9) (oi := ({ dst := some 26, op := Go.Op.load 4 (Go.Operand.tmp 25), type := 4, pos := "resolve.go:66", after := #[{ on := 8, ground := Go.Ground.data }, { on := 7, ground := Go.Ground.guard }, { on := 12, ground := Go.Ground.gcOnly Go.Departure.lateStores }], guard := some (7, true) } : Oper)) (v := undef) rfl (by kernel_rfl) (by kernel_rfl) (by kernel_rfl) (fun _ _ _ h => h) (Or.inr ⟨by rfl, rfl⟩) (by assumption) ?_
      (try simp only [Act.put, List.setIfInBounds_toArray, List.set_cons_zero, List.set_cons_succ])
      refine wpAnyH_take (i := 10) (oi := ({ dst := some 27, op := Go.Op.unOp Go.UnOp.not 4 (Go.Operand.tmp 26), type := 4, pos := "resolve.go:66", after := #[{ on := 9, ground := Go.Ground.data }, { on := 7, ground := Go.Ground.guard }, { on := 12, ground := Go.Ground.gcOnly Go.Departure.lateStores }], guard := some (7, true) } : Oper)) (v := undef) rfl (by kernel_rfl) (by kernel_rfl) (by kernel_rfl) (fun _ _ _ h => h) (Or.inr ⟨by rfl, rfl⟩) (by assumption) ?_
      (try simp only [Act.put, List.setIfInBounds_toArray, List.set_cons_zero, List.set_cons_succ])
      refine wpAnyH_take (i := 11) (oi := ({ dst := some 28, op := Go.Op.pick (Go.Operand.tmp 24) (Go.Operand.tmp 27) (Go.Operand.const (Go.Value.bool false)), type := 4, pos := "resolve.go:66", after := #[{ on := 7, ground := Go.Ground.data }, { on := 10, ground := Go.Ground.data }, { on := 12, ground := Go.Ground.gcOnly Go.Departure.lateStores }], guard := none } : Oper)) (v := ?_) rfl (by kernel_rfl) (by kernel_rfl) (by kernel_rfl) (fun _ _ _ h => h) (Or.inl ⟨by rfl, ?_⟩) (by assumption) ?_
      rotate_left
      focus (intro w' hSw; (try dsimp only at hSw); go_split_ands; go_simp; try with_reducible rfl)
      (try simp only [Act.put, List.setIfInBounds_toArray, List.set_cons_zero, List.set_cons_succ])
      refine wpAnyH_ready (rs := [12]) (by kernel_rfl) (by simp) ?_
      refine AllReadyH.cons (o := ({ dst := none, op := Go.Op.store 66 (Go.Operand.tmp 5) (Go.Operand.tmp 17), type := 0, pos := "resolve.go:66", after := #[{ on := 0, ground := Go.Ground.data }, { on := 7, ground := Go.Ground.chain }, { on := 0, ground := Go.Ground.phase }, { on := 1, ground := Go.Ground.textOnly Go.Departure.lateStores }, { on := 2, ground := Go.Ground.textOnly Go.Departure.lateStores }, { on := 3, ground := Go.Ground.textOnly Go.Departure.lateStores }, { on := 4, ground := Go.Ground.textOnly Go.Departure.lateStores }, { on := 5, ground := Go.Ground.textOnly Go.Departure.lateStores }, { on := 6, ground := Go.Ground.textOnly Go.Departure.lateStores }, { on := 7, ground := Go.Ground.textOnly Go.Departure.lateStores }, { on := 8, ground := Go.Ground.textOnly Go.Departure.lateStores }, { on := 9, ground := Go.Ground.textOnly Go.Departure.lateStores }, { on := 10, ground := Go.Ground.textOnly Go.Departure.lateStores }, { on := 11, ground := Go.Ground.textOnly Go.Departure.lateStores }], guard := none } : Oper)) rfl (fun K hK => ?_) AllReadyH.nil
      refine wp_store_row 66 (.tmp 5) (.tmp 17) rfl w.heap.size #[.string mn, .string md, .bool true, .bool ab, .int .i64 sk, .int .i64 lo, .slice ac code.length cc, .slice ah hs.length ch] rfl rfl 66 _ R2.b infoM rfl (one8 _ _ _ _ _ _ _ _ _ _ _ _) ?_
      have T2 := T1.farRow (g' := w.heap.size) #[.string mn, .string md, .bool true, .bool ab, .int .i64 sk, .int .i64 lo, .slice ac code.length cc, .slice ah hs.length ch] (Nat.ne_of_gt R.lt) (Nat.le_refl _)
      have R3 := R2.setRow #[.string mn, .string md, .bool true, .bool ab, .int .i64 sk, .int .i64 lo, .slice ac code.length cc, .slice ah hs.length ch]
      refine hK.out _ _ ?_ (fun hHeld => ?_)
      exact ⟨(T2).c 0 rfl, (T2).c 1 rfl, (T2).c 2 rfl, (T2).c 3 rfl, (T2).c 4 rfl, (T2).c 5 rfl, (T2).c 6 rfl, (T2).c 7 rfl⟩
      clear hK K
      (try simp only [Act.put])
      refine wpAnyH_take (i := 13) (oi := ({ dst := some 6, op := Go.Op.assign (Go.Operand.tmp 28), type := 4, pos := "resolve.go:66", after := #[{ on := 11, ground := Go.Ground.data }, { on := 12, ground := Go.Ground.chain }, { on := 0, ground := Go.Ground.phase }, { on := 1, ground := Go.Ground.phase }, { on := 2, ground := Go.Ground.phase }, { on := 3, ground := Go.Ground.phase }, { on := 4, ground := Go.Ground.phase }, { on := 5, ground := Go.Ground.phase }, { on := 6, ground := Go.Ground.phase }, { on := 7, ground := Go.Ground.phase }, { on := 8, ground := Go.Ground.phase }, { on := 9, ground := Go.Ground.phase }, { on := 10, ground := Go.Ground.phase }, { on := 11, ground := Go.Ground.phase }, { on := 12, ground := Go.Ground.phase }], guard := none } : Oper)) (v := ?_) rfl (by kernel_rfl) (by kernel_rfl) (by kernel_rfl) (fun _ _ _ h => h) (Or.inl ⟨by rfl, ?_⟩) (by assumption) ?_
      rotate_left
      focus (intro w' hSw; (try dsimp only at hSw); go_split_ands; go_simp; try with_reducible rfl)
      (try simp only [Act.put, List.setIfInBounds_toArray, List.set_cons_zero, List.set_cons_succ])
      refine wpAnyH_done (by kernel_rfl) ?_ _
      go_wp2_with fail
      have oc1 := ((((oc.keepI ((Ch.refl _).alloc (.cells #[.string ⟨#[]⟩, .string ⟨#[]⟩, .bool false, .bool false, .int .i64 0, .int .i64 0, .slice none 0 0, .slice none 0 0] 66))).rowI #[.string mn, .string md, .bool true, .bool ab, .int .i64 sk, .int .i64 lo, .slice ac code.length cc, .slice ah hs.length ch] T0.b (by decide)).keepI (Ch.refl _).drew).rowI #[.string mn, .string md, .bool true, .bool ab, .int .i64 sk, .int .i64 lo, .slice ac code.length cc, .slice ah hs.length ch] R2.b (by decide))
      have oh1 := ((((oh.keepH ((Ch.refl _).alloc (.cells #[.string ⟨#[]⟩, .string ⟨#[]⟩, .bool false, .bool false, .int .i64 0, .int .i64 0, .slice none 0 0, .slice none 0 0] 66))).rowH #[.string mn, .string md, .bool true, .bool ab, .int .i64 sk, .int .i64 lo, .slice ac code.length cc, .slice ah hs.length ch] T0.b (by decide)).keepH (Ch.refl _).drew).rowH #[.string mn, .string md, .bool true, .bool ab, .int .i64 sk, .int .i64 lo, .slice ac code.length cc, .slice ah hs.length ch] R2.b (by decide))
      refine bodyPost_ret (results_cell_one rfl _ _ w.heap.size 66 _ (0, 0) _ rfl R3.b Tryz.underlying66 rfl infoM) rfl ?_
      exact ⟨_, _, rfl, ⟨_, _, rfl, oc1, oh1⟩, HR.out, R3.ch⟩
    | false =>
      cases ab with
      | true =>
        go_enter Tryz.func139, Tryz.ntmps139
        go_wp2_with (first
          | (go_at_call 136; (with_reducible refine hm.mono ?_); clear hm; rintro e w2 ⟨v, rfl, ⟨vc, vh, rfl, oc, oh⟩, c2⟩; have oc := oc.base (B' := w.heap.size) R0.ch.size; have oh := oh.base (B' := w.heap.size) R0.ch.size; obtain ⟨ac, cc, rfl⟩ := oc.form; obtain ⟨ah, ch, rfl⟩ := oh.form; unfold mV; have R := R0.call c2; have T0 := Bo.new R.ch #[.string ⟨#[]⟩, .string ⟨#[]⟩, .bool false, .bool false, .int .i64 0, .int .i64 0, .slice none 0 0, .slice none 0 0] 66; have R1 := R.call ((Ch.refl _).alloc (.cells #[.string ⟨#[]⟩, .string ⟨#[]⟩, .bool false, .bool false, .int .i64 0, .int .i64 0, .slice none 0 0, .slice none 0 0] 66)))
          | (refine wpList_store_row rfl 66 (.tmp 7) (.tmp 15) rfl w2.heap.size #[.string mn, .string md, .bool false, .bool true, .int .i64 sk, .int .i64 lo, .slice ac code.length cc, .slice ah hs.length ch] rfl rfl 66 _ T0.b infoM rfl (one8 _ _ _ _ _ _ _ _ _ _ _ _) ?_; have T1 := (T0.setRow #[.string mn, .string md, .bool false, .bool true, .int .i64 sk, .int .i64 lo, .slice ac code.length cc, .slice ah hs.length ch]).call (Ch.refl _).drew; have R2 := (R1.farRow (g' := w2.heap.size) #[.string mn, .string md, .bool false, .bool true, .int .i64 sk, .int .i64 lo, .slice ac code.length cc, .slice ah hs.length ch] (Nat.ne_of_lt R.lt) R.ch.size).call (Ch.refl _).drew)
          | fail)
        refine wp_region_held_drew (S := fun w' => w'.cell? ⟨w2.heap.size, 0, none⟩ = some (.string mn) ∧ w'.cell? ⟨w2.heap.size, 1, none⟩ = some (.string md) ∧ w'.cell? ⟨w2.heap.size, 2, none⟩ = some (.bool false) ∧ w'.cell? ⟨w2.heap.size, 3, none⟩ = some (.bool true) ∧ w'.cell? ⟨w2.heap.size, 4, none⟩ = some (.int .i64 sk) ∧ w'.cell? ⟨w2.heap.size, 5, none⟩ = some (.int .i64 lo) ∧ w'.cell? ⟨w2.heap.size, 6, none⟩ = some (.slice ac code.length cc) ∧ w'.cell? ⟨w2.heap.size, 7, none⟩ = some (.slice ah hs.length ch)) (by kernel_rfl) (by exact ⟨(T1).c 0 rfl, (T1).c 1 rfl, (T1).c 2 rfl, (T1).c 3 rfl, (T1).c 4 rfl, (T1).c 5 rfl, (T1).c 6 rfl, (T1).c 7 rfl⟩) (fun hHeld => ?_)
        refine wpAnyH_take (i := 0) (oi := ({ dst := some 17, op := Go.Op.load 66 (Go.Operand.tmp 7), type := 66, pos := "resolve.go:66", after := #[], guard := none } : Oper)) (v := ?_) rfl (by kernel_rfl) (by kernel_rfl) (by kernel_rfl) (fun _ _ _ h => h) (Or.inl ⟨by rfl, ?_⟩) (by assumption) ?_
        rotate_left
        focus (intro w' hSw; (try dsimp only at hSw); go_split_ands; go_simp; try with_reducible rfl)
        (try simp only [Act.put, List.setIfInBounds_toArray, List.set_cons_zero, List.set_cons_succ])
        refine wpAnyH_take (i := 1) (oi := ({ dst := some 18, op := Go.Op.move (Go.Operand.tmp 8), type := 4, pos := "resolve.go:66", after := #[], guard := none } : Oper)) (v := ?_) rfl (by kernel_rfl) (by kernel_rfl) (by kernel_rfl) (fun _ _ _ h => h) (Or.inl ⟨by rfl, ?_⟩) (by assumption) ?_
        rotate_left
        focus (intro w' hSw; (try dsimp only at hSw); go_split_ands; go_simp; try with_reducible rfl)
        (try simp only [Act.put, List.setIfInBounds_toArray, List.set_cons_zero, List.set_cons_succ])
        refine wpAnyH_take (i := 2) (oi := ({ dst := some 19, op := Go.Op.move (Go.Operand.tmp 18), type := 4, pos := "resolve.go:66", after := #[{ on := 1, ground := Go.Ground.data }], guard := none } : Oper)) (v := ?_) rfl (by kernel_rfl) (by kernel_rfl) (by kernel_rfl) (fun _ _ _ h => h) (Or.inl ⟨by rfl, ?_⟩) (by assumption) ?_
        rotate_left
        focus (intro w' hSw; (try dsimp only at hSw); go_split_ands; go_simp; try with_reducible rfl)
        (try simp only [Act.put, List.setIfInBounds_toArray, List.set_cons_zero, List.set_cons_succ])
        refine wpAnyH_take (i := 3) (oi := ({ dst := some 20, op := Go.Op.fieldAddr 66 (Go.Operand.tmp 7) 2, type := 0, pos := "resolve.go:66", after := #[{ on := 2, ground := Go.Ground.guard }], guard := some (2, true) } : Oper)) (v := ?_) rfl (by kernel_rfl) (by kernel_rfl) (by kernel_rfl) (fun _ _ _ h => h) (Or.inl ⟨by rfl, ?_⟩) (by assumption) ?_
        rotate_left
        focus (intro w' hSw; (try dsimp only at hSw); go_split_ands; go_simp; try with_reducible rfl)
        (try simp only [Act.put, List.setIfInBounds_toArray, List.set_cons_zero, List.set_cons_succ])
        refine wpAnyH_take (i := 4) (oi := ({ dst := some 21, op := Go.Op.load 4 (Go.Operand.tmp 20), type := 4, pos := "resolve.go:66", after := #[{ on := 3, ground := Go.Ground.data }, { on := 2, ground := Go.Ground.guard }], guard := some (2, true) } : Oper)) (v := ?_) rfl (by kernel_rfl) (by kernel_rfl) (by kernel_rfl) (fun _ _ _ h => h) (Or.inl ⟨by rfl, ?_⟩) (by assumption) ?_
        rotate_left
        focus (intro w' hSw; (try dsimp only at hSw); go_split_ands; go_simp; try with_reducible rfl)
        (try simp only [Act.put, List.setIfInBounds_toArray, List.set_cons_zero, List.set_cons_succ])
        refine wpAnyH_take (i := 5) (oi := ({ dst := some 22, op := Go.Op.unOp Go.UnOp.not 4 (Go.Operand.tmp 21), type := 4, pos := "resolve.go:66", after := #[{ on := 4, ground := Go.Ground.data }, { on := 2, ground := Go.Ground.guard }], guard := some (2, true) } : Oper)) (v := ?_) rfl (by kernel_rfl) (by kernel_rfl) (by kernel_rfl) (fun _ _ _ h => h) (Or.inl ⟨by rfl, ?_⟩) (by assumption) ?_
        rotate_left
        focus (intro w' hSw; (try dsimp only at hSw); go_split_ands; go_simp; try with_reducible rfl)
        (try simp only [Act.put, List.setIfInBounds_toArray, List.set_cons_zero, List.set_cons_succ])
        refine wpAnyH_take (i := 6) (oi := ({ dst := some 23, op := Go.Op.pick (Go.Operand.tmp 19) (Go.Operand.tmp 22) (Go.Operand.const (Go.Value.bool false)), type := 4, pos := "resolve.go:66", after := #[{ on := 2, ground := Go.Ground.data }, { on := 5, ground := Go.Ground.data }], guard := none } : Oper)) (v := ?_) rfl (by kernel_rfl) (by kernel_rfl) (by kernel_rfl) (fun _ _ _ h => h) (Or.inl ⟨by rfl, ?_⟩) (by assumption) ?_
        rotate_left
        focus (intro w' hSw; (try dsimp only at hSw); go_split_ands; go_simp; try with_reducible rfl)
        (try simp only [Act.put, List.setIfInBounds_toArray, List.set_cons_zero, List.set_cons_succ])
        refine wpAnyH_take (i := 7) (oi := ({ dst := some 24, op := Go.Op.move (Go.Operand.tmp 23), type := 4, pos := "resolve.go:66", after := #[{ on := 6, ground := Go.Ground.data }, { on := 2, ground := Go.Ground.chain }], guard := none } : Oper)) (v := ?_) rfl (by kernel_rfl) (by kernel_rfl) (by kernel_rfl) (fun _ _ _ h => h) (Or.inl ⟨by rfl, ?_⟩) (by assumption) ?_
        rotate_left
        focus (intro w' hSw; (try dsimp only at hSw); go_split_ands; go_simp; try with_reducible rfl)
        (try simp only [Act.put, List.setIfInBounds_toArray, List.set_cons_zero, List.set_cons_succ])
        refine wpAnyH_take (i := 8) (oi := ({ dst := some 25, op := Go.Op.fieldAddr 66 (Go.Operand.tmp 7) 3, type := 0, pos := "resolve.go:66", after := #[{ on := 7, ground := Go.Ground.guard }, { on := 12, ground := Go.Ground.gcOnly Go.Departure.lateStores }], guard := some (7, true) } : Oper)) (v := ?_) rfl (by kernel_rfl) (by kernel_rfl) (by kernel_rfl) (fun _ _ _ h => h) (Or.inl ⟨by rfl, ?_⟩) (by assumption) ?_
        rotate_left
        focus (intro w' hSw; (try dsimp only at hSw); go_split_ands; go_simp; try with_reducible rfl)
        (try simp only [Act.put, List.setIfInBounds_toArray, List.set_cons_zero, List.set_cons_succ])
        refine wpAnyH_take (i := 9) (oi := ({ dst := some 26, op := Go.Op.load 4 (Go.Operand.tmp 25), type := 4, pos := "resolve.go:66", after := #[{ on := 8, ground := Go.Ground.data }, { on := 7, ground := Go.Ground.guard }, { on := 12, ground := Go.Ground.gcOnly Go.Departure.lateStores }], guard := some (7, true) } : Oper)) (v := ?_) rfl (by kernel_rfl) (by kernel_rfl) (by kernel_rfl) (fun _ _ _ h => h) (Or.inl ⟨by rfl, ?_⟩) (by assumption) ?_
        rotate_left
        focus (intro w' hSw; (try dsimp only at hSw); go_split_ands; go_simp; try with_reducible rfl)
        (try simp only [Act.put, List.setIfInBounds_toArray, List.set_cons_zero, List.set_cons_succ])
        refine wpAnyH_take (i := 10) (oi := ({ dst := some 27, op := Go.Op.unOp Go.UnOp.not 4 (Go.Operand.tmp 26), type := 4, pos := "resolve.go:66", after := #[{ on := 9, ground := Go.Ground.data }, { on := 7, ground := Go.Ground.guard }, { on := 12, ground := Go.Ground.gcOnly Go.Departure.lateStores }], guard := some (7, true) } : Oper)) (v := ?_) rfl (by kernel_rfl) (by kernel_rfl) (by kernel_rfl) (fun _ _ _ h => h) (Or.inl ⟨by rfl, ?_⟩) (by assumption) ?_
        rotate_left
        focus (intro w' hSw; (try dsimp only at hSw); go_split_ands; go_simp; try with_reducible rfl)
        (try simp only [Act.put, List.setIfInBounds_toArray, List.set_cons_zero, List.set_cons_succ])
        refine wpAnyH_take (i := 11) (oi := ({ dst := some 28, op := Go.Op.pick (Go.Operand.tmp 24) (Go.Operand.tmp 27) (Go.Operand.const (Go.Value.bool false)), type := 4, pos := "resolve.go:66", after := #[{ on := 7, ground := Go.Ground.data }, { on := 10, ground := Go.Ground.data }, { on := 12, ground := Go.Ground.gcOnly Go.Departure.lateStores }], guard := none } : Oper)) (v := ?_) rfl (by kernel_rfl) (by kernel_rfl) (by kernel_rfl) (fun _ _ _ h => h) (Or.inl ⟨by rfl, ?_⟩) (by assumption) ?_
        rotate_left
        focus (intro w' hSw; (try dsimp only at hSw); go_split_ands; go_simp; try with_reducible rfl)
        (try simp only [Act.put, List.setIfInBounds_toArray, List.set_cons_zero, List.set_cons_succ])
        refine wpAnyH_ready (rs := [12]) (by kernel_rfl) (by simp) ?_
        refine AllReadyH.cons (o := ({ dst := none, op := Go.Op.store 66 (Go.Operand.tmp 5) (Go.Operand.tmp 17), type := 0, pos := "resolve.go:66", after := #[{ on := 0, ground := Go.Ground.data }, { on := 7, ground := Go.Ground.chain }, { on := 0, ground := Go.Ground.phase }, { on := 1, ground := Go.Ground.textOnly Go.Departure.lateStores }, { on := 2, ground := Go.Ground.textOnly Go.Departure.lateStores }, { on := 3, ground := Go.Ground.textOnly Go.Departure.lateStores }, { on := 4, ground := Go.Ground.textOnly Go.Departure.lateStores }, { on := 5, ground := Go.Ground.textOnly Go.Departure.lateStores }, { on := 6, ground := Go.Ground.textOnly Go.Departure.lateStores }, { on := 7, ground := Go.Ground.textOnly Go.Departure.lateStores }, { on := 8, ground := Go.Ground.textOnly Go.Departure.lateStores }, { on := 9, ground := Go.Ground.textOnly Go.Departure.lateStores }, { on := 10, ground := Go.Ground.textOnly Go.Departure.lateStores }, { on := 11, ground := Go.Ground.textOnly Go.Departure.lateStores }], guard := none } : Oper)) rfl (fun K hK => ?_) AllReadyH.nil
        refine wp_store_row 66 (.tmp 5) (.tmp 17) rfl w.heap.size #[.string mn, .string md, .bool false, .bool true, .int .i64 sk, .int .i64 lo, .slice ac code.length cc, .slice ah hs.length ch] rfl rfl 66 _ R2.b infoM rfl (one8 _ _ _ _ _ _ _ _ _ _ _ _) ?_
        have T2 := T1.farRow (g' := w.heap.size) #[.string mn, .string md, .bool false, .bool true, .int .i64 sk, .int .i64 lo, .slice ac code.length cc, .slice ah hs.length ch] (Nat.ne_of_gt R.lt) (Nat.le_refl _)
        have R3 := R2.setRow #[.string mn, .string md, .bool false, .bool true, .int .i64 sk, .int .i64 lo, .slice ac code.length cc, .slice ah hs.length ch]
        refine hK.out _ _ ?_ (fun hHeld => ?_)
        exact ⟨(T2).c 0 rfl, (T2).c 1 rfl, (T2).c 2 rfl, (T2).c 3 rfl, (T2).c 4 rfl, (T2).c 5 rfl, (T2).c 6 rfl, (T2).c 7 rfl⟩
        clear hK K
        (try simp only [Act.put])
        refine wpAnyH_take (i := 13) (oi := ({ dst := some 6, op := Go.Op.assign (Go.Operand.tmp 28), type := 4, pos := "resolve.go:66", after := #[{ on := 11, ground := Go.Ground.data }, { on := 12, ground := Go.Ground.chain }, { on := 0, ground := Go.Ground.phase }, { on := 1, ground := Go.Ground.phase }, { on := 2, ground := Go.Ground.phase }, { on := 3, ground := Go.Ground.phase }, { on := 4, ground := Go.Ground.phase }, { on := 5, ground := Go.Ground.phase }, { on := 6, ground := Go.Ground.phase }, { on := 7, ground := Go.Ground.phase }, { on := 8, ground := Go.Ground.phase }, { on := 9, ground := Go.Ground.phase }, { on := 10, ground := Go.Ground.phase }, { on := 11, ground := Go.Ground.phase }, { on := 12, ground := Go.Ground.phase }], guard := none } : Oper)) (v := ?_) rfl (by kernel_rfl) (by kernel_rfl) (by kernel_rfl) (fun _ _ _ h => h) (Or.inl ⟨by rfl, ?_⟩) (by assumption) ?_
        rotate_left
        focus (intro w' hSw; (try dsimp only at hSw); go_split_ands; go_simp; try with_reducible rfl)
        (try simp only [Act.put, List.setIfInBounds_toArray, List.set_cons_zero, List.set_cons_succ])
        refine wpAnyH_done (by kernel_rfl) ?_ _
        go_wp2_with fail
        have oc1 := ((((oc.keepI ((Ch.refl _).alloc (.cells #[.string ⟨#[]⟩, .string ⟨#[]⟩, .bool false, .bool false, .int .i64 0, .int .i64 0, .slice none 0 0, .slice none 0 0] 66))).rowI #[.string mn, .string md, .bool false, .bool true, .int .i64 sk, .int .i64 lo, .slice ac code.length cc, .slice ah hs.length ch] T0.b (by decide)).keepI (Ch.refl _).drew).rowI #[.string mn, .string md, .bool false, .bool true, .int .i64 sk, .int .i64 lo, .slice ac code.length cc, .slice ah hs.length ch] R2.b (by decide))
        have oh1 := ((((oh.keepH ((Ch.refl _).alloc (.cells #[.string ⟨#[]⟩, .string ⟨#[]⟩, .bool false, .bool false, .int .i64 0, .int .i64 0, .slice none 0 0, .slice none 0 0] 66))).rowH #[.string mn, .string md, .bool false, .bool true, .int .i64 sk, .int .i64 lo, .slice ac code.length cc, .slice ah hs.length ch] T0.b (by decide)).keepH (Ch.refl _).drew).rowH #[.string mn, .string md, .bool false, .bool true, .int .i64 sk, .int .i64 lo, .slice ac code.length cc, .slice ah hs.length ch] R2.b (by decide))
        refine bodyPost_ret (results_cell_one rfl _ _ w.heap.size 66 _ (0, 0) _ rfl R3.b Tryz.underlying66 rfl infoM) rfl ?_
        exact ⟨_, _, rfl, ⟨_, _, rfl, oc1, oh1⟩, HR.out, R3.ch⟩
      | false =>
        go_enter Tryz.func139, Tryz.ntmps139
        go_wp2_with (first
          | (go_at_call 136; (with_reducible refine hm.mono ?_); clear hm; rintro e w2 ⟨v, rfl, ⟨vc, vh, rfl, oc, oh⟩, c2⟩; have oc := oc.base (B' := w.heap.size) R0.ch.size; have oh := oh.base (B' := w.heap.size) R0.ch.size; obtain ⟨ac, cc, rfl⟩ := oc.form; obtain ⟨ah, ch, rfl⟩ := oh.form; unfold mV; have R := R0.call c2; have T0 := Bo.new R.ch #[.string ⟨#[]⟩, .string ⟨#[]⟩, .bool false, .bool false, .int .i64 0, .int .i64 0, .slice none 0 0, .slice none 0 0] 66; have R1 := R.call ((Ch.refl _).alloc (.cells #[.string ⟨#[]⟩, .string ⟨#[]⟩, .bool false, .bool false, .int .i64 0, .int .i64 0, .slice none 0 0, .slice none 0 0] 66)))
          | (refine wpList_store_row rfl 66 (.tmp 7) (.tmp 15) rfl w2.heap.size #[.string mn, .string md, .bool false, .bool false, .int .i64 sk, .int .i64 lo, .slice ac code.length cc, .slice ah hs.length ch] rfl rfl 66 _ T0.b infoM rfl (one8 _ _ _ _ _ _ _ _ _ _ _ _) ?_; have T1 := (T0.setRow #[.string mn, .string md, .bool false, .bool false, .int .i64 sk, .int .i64 lo, .slice ac code.length cc, .slice ah hs.length ch]).call (Ch.refl _).drew; have R2 := (R1.farRow (g' := w2.heap.size) #[.string mn, .string md, .bool false, .bool false, .int .i64 sk, .int .i64 lo, .slice ac code.length cc, .slice ah hs.length ch] (Nat.ne_of_lt R.lt) R.ch.size).call (Ch.refl _).drew)
          | fail)
        refine wp_region_held_drew (S := fun w' => w'.cell? ⟨w2.heap.size, 0, none⟩ = some (.string mn) ∧ w'.cell? ⟨w2.heap.size, 1, none⟩ = some (.string md) ∧ w'.cell? ⟨w2.heap.size, 2, none⟩ = some (.bool false) ∧ w'.cell? ⟨w2.heap.size, 3, none⟩ = some (.bool false) ∧ w'.cell? ⟨w2.heap.size, 4, none⟩ = some (.int .i64 sk) ∧ w'.cell? ⟨w2.heap.size, 5, none⟩ = some (.int .i64 lo) ∧ w'.cell? ⟨w2.heap.size, 6, none⟩ = some (.slice ac code.length cc) ∧ w'.cell? ⟨w2.heap.size, 7, none⟩ = some (.slice ah hs.length ch)) (by kernel_rfl) (by exact ⟨(T1).c 0 rfl, (T1).c 1 rfl, (T1).c 2 rfl, (T1).c 3 rfl, (T1).c 4 rfl, (T1).c 5 rfl, (T1).c 6 rfl, (T1).c 7 rfl⟩) (fun hHeld => ?_)
        refine wpAnyH_take (i := 0) (oi := ({ dst := some 17, op := Go.Op.load 66 (Go.Operand.tmp 7), type := 66, pos := "resolve.go:66", after := #[], guard := none } : Oper)) (v := ?_) rfl (by kernel_rfl) (by kernel_rfl) (by kernel_rfl) (fun _ _ _ h => h) (Or.inl ⟨by rfl, ?_⟩) (by assumption) ?_
        rotate_left
        focus (intro w' hSw; (try dsimp only at hSw); go_split_ands; go_simp; try with_reducible rfl)
        (try simp only [Act.put, List.setIfInBounds_toArray, List.set_cons_zero, List.set_cons_succ])
        refine wpAnyH_take (i := 1) (oi := ({ dst := some 18, op := Go.Op.move (Go.Operand.tmp 8), type := 4, pos := "resolve.go:66", after := #[], guard := none } : Oper)) (v := ?_) rfl (by kernel_rfl) (by kernel_rfl) (by kernel_rfl) (fun _ _ _ h => h) (Or.inl ⟨by rfl, ?_⟩) (by assumption) ?_
        rotate_left
        focus (intro w' hSw; (try dsimp only at hSw); go_split_ands; go_simp; try with_reducible rfl)
        (try simp only [Act.put, List.setIfInBounds_toArray, List.set_cons_zero, List.set_cons_succ])
        refine wpAnyH_take (i := 2) (oi := ({ dst := some 19, op := Go.Op.move (Go.Operand.tmp 18), type := 4, pos := "resolve.go:66", after := #[{ on := 1, ground := Go.Ground.data }], guard := none } : Oper)) (v := ?_) rfl (by kernel_rfl) (by kernel_rfl) (by kernel_rfl) (fun _ _ _ h => h) (Or.inl ⟨by rfl, ?_⟩) (by assumption) ?_
        rotate_left
        focus (intro w' hSw; (try dsimp only at hSw); go_split_ands; go_simp; try with_reducible rfl)
        (try simp only [Act.put, List.setIfInBounds_toArray, List.set_cons_zero, List.set_cons_succ])
        refine wpAnyH_take (i := 3) (oi := ({ dst := some 20, op := Go.Op.fieldAddr 66 (Go.Operand.tmp 7) 2, type := 0, pos := "resolve.go:66", after := #[{ on := 2, ground := Go.Ground.guard }], guard := some (2, true) } : Oper)) (v := ?_) rfl (by kernel_rfl) (by kernel_rfl) (by kernel_rfl) (fun _ _ _ h => h) (Or.inl ⟨by rfl, ?_⟩) (by assumption) ?_
        rotate_left
        focus (intro w' hSw; (try dsimp only at hSw); go_split_ands; go_simp; try with_reducible rfl)
        (try simp only [Act.put, List.setIfInBounds_toArray, List.set_cons_zero, List.set_cons_succ])
        refine wpAnyH_take (i := 4) (oi := ({ dst := some 21, op := Go.Op.load 4 (Go.Operand.tmp 20), type := 4, pos := "resolve.go:66", after := #[{ on := 3, ground := Go.Ground.data }, { on := 2, ground := Go.Ground.guard }], guard := some (2, true) } : Oper)) (v := ?_) rfl (by kernel_rfl) (by kernel_rfl) (by kernel_rfl) (fun _ _ _ h => h) (Or.inl ⟨by rfl, ?_⟩) (by assumption) ?_
        rotate_left
        focus (intro w' hSw; (try dsimp only at hSw); go_split_ands; go_simp; try with_reducible rfl)
        (try simp only [Act.put, List.setIfInBounds_toArray, List.set_cons_zero, List.set_cons_succ])
        refine wpAnyH_take (i := 5) (oi := ({ dst := some 22, op := Go.Op.unOp Go.UnOp.not 4 (Go.Operand.tmp 21), type := 4, pos := "resolve.go:66", after := #[{ on := 4, ground := Go.Ground.data }, { on := 2, ground := Go.Ground.guard }], guard := some (2, true) } : Oper)) (v := ?_) rfl (by kernel_rfl) (by kernel_rfl) (by kernel_rfl) (fun _ _ _ h => h) (Or.inl ⟨by rfl, ?_⟩) (by assumption) ?_
        rotate_left
        focus (intro w' hSw; (try dsimp only at hSw); go_split_ands; go_simp; try with_reducible rfl)
        (try simp only [Act.put, List.setIfInBounds_toArray, List.set_cons_zero, List.set_cons_succ])
        refine wpAnyH_take (i := 6) (oi := ({ dst := some 23, op := Go.Op.pick (Go.Operand.tmp 19) (Go.Operand.tmp 22) (Go.Operand.const (Go.Value.bool false)), type := 4, pos := "resolve.go:66", after := #[{ on := 2, ground := Go.Ground.data }, { on := 5, ground := Go.Ground.data }], guard := none } : Oper)) (v := ?_) rfl (by kernel_rfl) (by kernel_rfl) (by kernel_rfl) (fun _ _ _ h => h) (Or.inl ⟨by rfl, ?_⟩) (by assumption) ?_
        rotate_left
        focus (intro w' hSw; (try dsimp only at hSw); go_split_ands; go_simp; try with_reducible rfl)
        (try simp only [Act.put, List.setIfInBounds_toArray, List.set_cons_zero, List.set_cons_succ])
        refine wpAnyH_take (i := 7) (oi := ({ dst := some 24, op := Go.Op.move (Go.Operand.tmp 23), type := 4, pos := "resolve.go:66", after := #[{ on := 6, ground := Go.Ground.data }, { on := 2, ground := Go.Ground.chain }], guard := none } : Oper)) (v := ?_) rfl (by kernel_rfl) (by kernel_rfl) (by kernel_rfl) (fun _ _ _ h => h) (Or.inl ⟨by rfl, ?_⟩) (by assumption) ?_
        rotate_left
        focus (intro w' hSw; (try dsimp only at hSw); go_split_ands; go_simp; try with_reducible rfl)
        (try simp only [Act.put, List.setIfInBounds_toArray, List.set_cons_zero, List.set_cons_succ])
        refine wpAnyH_take (i := 8) (oi := ({ dst := some 25, op := Go.Op.fieldAddr 66 (Go.Operand.tmp 7) 3, type := 0, pos := "resolve.go:66", after := #[{ on := 7, ground := Go.Ground.guard }, { on := 12, ground := Go.Ground.gcOnly Go.Departure.lateStores }], guard := some (7, true) } : Oper)) (v := ?_) rfl (by kernel_rfl) (by kernel_rfl) (by kernel_rfl) (fun _ _ _ h => h) (Or.inl ⟨by rfl, ?_⟩) (by assumption) ?_
        rotate_left
        focus (intro w' hSw; (try dsimp only at hSw); go_split_ands; go_simp; try with_reducible rfl)
        (try simp only [Act.put, List.setIfInBounds_toArray, List.set_cons_zero, List.set_cons_succ])
        refine wpAnyH_take (i := 9) (oi := ({ dst := some 26, op := Go.Op.load 4 (Go.Operand.tmp 25), type := 4, pos := "resolve.go:66", after := #[{ on := 8, ground := Go.Ground.data }, { on := 7, ground := Go.Ground.guard }, { on := 12, ground := Go.Ground.gcOnly Go.Departure.lateStores }], guard := some (7, true) } : Oper)) (v := ?_) rfl (by kernel_rfl) (by kernel_rfl) (by kernel_rfl) (fun _ _ _ h => h) (Or.inl ⟨by rfl, ?_⟩) (by assumption) ?_
        rotate_left
        focus (intro w' hSw; (try dsimp only at hSw); go_split_ands; go_simp; try with_reducible rfl)
        (try simp only [Act.put, List.setIfInBounds_toArray, List.set_cons_zero, List.set_cons_succ])
        refine wpAnyH_take (i := 10) (oi := ({ dst := some 27, op := Go.Op.unOp Go.UnOp.not 4 (Go.Operand.tmp 26), type := 4, pos := "resolve.go:66", after := #[{ on := 9, ground := Go.Ground.data }, { on := 7, ground := Go.Ground.guard }, { on := 12, ground := Go.Ground.gcOnly Go.Departure.lateStores }], guard := some (7, true) } : Oper)) (v := ?_) rfl (by kernel_rfl) (by kernel_rfl) (by kernel_rfl) (fun _ _ _ h => h) (Or.inl ⟨by rfl, ?_⟩) (by assumption) ?_
        rotate_left
        focus (intro w' hSw; (try dsimp only at hSw); go_split_ands; go_simp; try with_reducible rfl)
        (try simp only [Act.put, List.setIfInBounds_toArray, List.set_cons_zero, List.set_cons_succ])
        refine wpAnyH_take (i := 11) (oi := ({ dst := some 28, op := Go.Op.pick (Go.Operand.tmp 24) (Go.Operand.tmp 27) (Go.Operand.const (Go.Value.bool false)), type := 4, pos := "resolve.go:66", after := #[{ on := 7, ground := Go.Ground.data }, { on := 10, ground := Go.Ground.data }, { on := 12, ground := Go.Ground.gcOnly Go.Departure.lateStores }], guard := none } : Oper)) (v := ?_) rfl (by kernel_rfl) (by kernel_rfl) (by kernel_rfl) (fun _ _ _ h => h) (Or.inl ⟨by rfl, ?_⟩) (by assumption) ?_
        rotate_left
        focus (intro w' hSw; (try dsimp only at hSw); go_split_ands; go_simp; try with_reducible rfl)
        (try simp only [Act.put, List.setIfInBounds_toArray, List.set_cons_zero, List.set_cons_succ])
        refine wpAnyH_ready (rs := [12]) (by kernel_rfl) (by simp) ?_
        refine AllReadyH.cons (o := ({ dst := none, op := Go.Op.store 66 (Go.Operand.tmp 5) (Go.Operand.tmp 17), type := 0, pos := "resolve.go:66", after := #[{ on := 0, ground := Go.Ground.data }, { on := 7, ground := Go.Ground.chain }, { on := 0, ground := Go.Ground.phase }, { on := 1, ground := Go.Ground.textOnly Go.Departure.lateStores }, { on := 2, ground := Go.Ground.textOnly Go.Departure.lateStores }, { on := 3, ground := Go.Ground.textOnly Go.Departure.lateStores }, { on := 4, ground := Go.Ground.textOnly Go.Departure.lateStores }, { on := 5, ground := Go.Ground.textOnly Go.Departure.lateStores }, { on := 6, ground := Go.Ground.textOnly Go.Departure.lateStores }, { on := 7, ground := Go.Ground.textOnly Go.Departure.lateStores }, { on := 8, ground := Go.Ground.textOnly Go.Departure.lateStores }, { on := 9, ground := Go.Ground.textOnly Go.Departure.lateStores }, { on := 10, ground := Go.Ground.textOnly Go.Departure.lateStores }, { on := 11, ground := Go.Ground.textOnly Go.Departure.lateStores }], guard := none } : Oper)) rfl (fun K hK => ?_) AllReadyH.nil
        refine wp_store_row 66 (.tmp 5) (.tmp 17) rfl w.heap.size #[.string mn, .string md, .bool false, .bool false, .int .i64 sk, .int .i64 lo, .slice ac code.length cc, .slice ah hs.length ch] rfl rfl 66 _ R2.b infoM rfl (one8 _ _ _ _ _ _ _ _ _ _ _ _) ?_
        have T2 := T1.farRow (g' := w.heap.size) #[.string mn, .string md, .bool false, .bool false, .int .i64 sk, .int .i64 lo, .slice ac code.length cc, .slice ah hs.length ch] (Nat.ne_of_gt R.lt) (Nat.le_refl _)
        have R3 := R2.setRow #[.string mn, .string md, .bool false, .bool false, .int .i64 sk, .int .i64 lo, .slice ac code.length cc, .slice ah hs.length ch]
        refine hK.out _ _ ?_ (fun hHeld => ?_)
        exact ⟨(T2).c 0 rfl, (T2).c 1 rfl, (T2).c 2 rfl, (T2).c 3 rfl, (T2).c 4 rfl, (T2).c 5 rfl, (T2).c 6 rfl, (T2).c 7 rfl⟩
        clear hK K
        (try simp only [Act.put])
        refine wpAnyH_take (i := 13) (oi := ({ dst := some 6, op := Go.Op.assign (Go.Operand.tmp 28), type := 4, pos := "resolve.go:66", after := #[{ on := 11, ground := Go.Ground.data }, { on := 12, ground := Go.Ground.chain }, { on := 0, ground := Go.Ground.phase }, { on := 1, ground := Go.Ground.phase }, { on := 2, ground := Go.Ground.phase }, { on := 3, ground := Go.Ground.phase }, { on := 4, ground := Go.Ground.phase }, { on := 5, ground := Go.Ground.phase }, { on := 6, ground := Go.Ground.phase }, { on := 7, ground := Go.Ground.phase }, { on := 8, ground := Go.Ground.phase }, { on := 9, ground := Go.Ground.phase }, { on := 10, ground := Go.Ground.phase }, { on := 11, ground := Go.Ground.phase }, { on := 12, ground := Go.Ground.phase }], guard := none } : Oper)) (v := ?_) rfl (by kernel_rfl) (by kernel_rfl) (by kernel_rfl) (fun _ _ _ h => h) (Or.inl ⟨by rfl, ?_⟩) (by assumption) ?_
        rotate_left
        focus (intro w' hSw; (try dsimp only at hSw); go_split_ands; go_simp; try with_reducible rfl)
        (try simp only [Act.put, List.setIfInBounds_toArray, List.set_cons_zero, List.set_cons_succ])
        refine wpAnyH_done (by kernel_rfl) ?_ _
        go_wp2_with fail
        have oc1 := ((((oc.keepI ((Ch.refl _).alloc (.cells #[.string ⟨#[]⟩, .string ⟨#[]⟩, .bool false, .bool false, .int .i64 0, .int .i64 0, .slice none 0 0, .slice none 0 0] 66))).rowI #[.string mn, .string md, .bool false, .bool false, .int .i64 sk, .int .i64 lo, .slice ac code.length cc, .slice ah hs.length ch] T0.b (by decide)).keepI (Ch.refl _).drew).rowI #[.string mn, .string md, .bool false, .bool false, .int .i64 sk, .int .i64 lo, .slice ac code.length cc, .slice ah hs.length ch] R2.b (by decide))
        have oh1 := ((((oh.keepH ((Ch.refl _).alloc (.cells #[.string ⟨#[]⟩, .string ⟨#[]⟩, .bool false, .bool false, .int .i64 0, .int .i64 0, .slice none 0 0, .slice none 0 0] 66))).rowH #[.string mn, .string md, .bool false, .bool false, .int .i64 sk, .int .i64 lo, .slice ac code.length cc, .slice ah hs.length ch] T0.b (by decide)).keepH (Ch.refl _).drew).rowH #[.string mn, .string md, .bool false, .bool false, .int .i64 sk, .int .i64 lo, .slice ac code.length cc, .slice ah hs.length ch] R2.b (by decide))
        refine bodyPost_ret (results_cell_one rfl _ _ w.heap.size 66 _ (0, 0) _ rfl R3.b Tryz.underlying66 rfl infoM) rfl ?_
        exact ⟨_, _, rfl, ⟨_, _, rfl, oc1, oh1⟩, HR.out, R3.ch⟩
end Go.Proofs.YthmepecmeambmaaGreat
namespace Go.Proofs.YthmepecmeambmaaGreat
open Go.RowKit
set_option linter.unusedVariables false

theorem results_cells {P : Program} {fn : Func} {p u s : Tmp} {ty : TypeId} (h : fn.results = #[.tmp s, .cell p ty, .tmp u]) (tmps : Array Value) (w : World) (g : Nat) (t : TypeId) (cs : Array Value) (fr : Nat × Nat) (d : TypeDesc)
    (hp : tmps.getD p undef = .pointer (some ⟨g, 0, none⟩)) (hg : w.heap[g]? = some (.cells cs t fr))
    (hu : P.underlying ty = some d) (hd : (match d with | .struct _ | .array _ _ => true | _ => false) = true) (hi : (P.info? ty).map (·.size) = some cs.size) :
    (results fn tmps).run P w = .ok (.tuple #[tmps.getD s undef, .agg cs, tmps.getD u undef]) w := by
  have hp' : tmps[p]?.getD undef = .pointer (some ⟨g, 0, none⟩) := by simpa using hp
  simp [results, h, hp', asAddr, run_loadVar_row w g t ty cs fr d hg hu hd hi]

set_option maxHeartbeats 16000000 in
set_option maxRecDepth 100000 in
theorem fstD_any (F : ByteArray → Option Mth) (l : List ByteArray) (v : Value) (tp tn td : Nat) (w : World) (hv : Sl 1 RS w v l) (hl : ∀ x ∈ l, x.size ≤ 100000) (hf : ∀ w', Ch w w' → ∀ x ∈ l, Calls Tryz.prog 139 #[.string x, .pointer (some ⟨tp, 0, none⟩), .pointer (some ⟨tn, 0, none⟩), .pointer (some ⟨td, 0, none⟩)] w' fun e w2 => ∃ v m, e = .returned (.tuple #[v, .bool (F x).isSome]) ∧ Mw w' w2 v m ∧ (∀ m', F x = some m' → m = m') ∧ Ch w' w2) :
    Calls Tryz.prog 134 #[v, .func (.func 139) #[] #[.pointer (some ⟨tp, 0, none⟩), .pointer (some ⟨tn, 0, none⟩), .pointer (some ⟨td, 0, none⟩)]] w fun e w' => ∃ v, e = .returned (.tuple #[.string (fst1 F l).1, v, .bool (fst1 F l).2.isSome]) ∧ Mw w w' v ((fst1 F l).2.getD noM) ∧ Ch w w' := by
  have R0 := Bo.new (Ch.refl w) #[.string ⟨#[]⟩, .string ⟨#[]⟩, .bool false, .bool false, .int .i64 0, .int .i64 0, .slice none 0 0, .slice none 0 0] 66
  have T0 := Bo.new R0.ch #[.string ⟨#[]⟩, .string ⟨#[]⟩, .bool false, .bool false, .int .i64 0, .int .i64 0, .slice none 0 0, .slice none 0 0] 66
  have R0 := R0.call ((Ch.refl _).alloc (.cells #[.string ⟨#[]⟩, .string ⟨#[]⟩, .bool false, .bool false, .int .i64 0, .int .i64 0, .slice none 0 0, .slice none 0 0] 66))
  have e1 : (w.alloc (.cells #[.string ⟨#[]⟩, .string ⟨#[]⟩, .bool false, .bool false, .int .i64 0, .int .i64 0, .slice none 0 0, .slice none 0 0] 66)).heap.size = w.heap.size + 1 := by simp
  rw [e1] at T0
  clear e1
  obtain ⟨ao, cl, rfl, hx1, hx2⟩ := hv.form
  have HV : Hid (∀ w', Ch w w' → Sl 1 RS w' (.slice ao l.length cl) l) := fun w' k => hv.keepS k
  have HL : Hid (∀ x ∈ l, x.size ≤ 100000) := hl
  have HF : Hid (∀ w', Ch w w' → ∀ x ∈ l, Calls Tryz.prog 139 #[.string x, .pointer (some ⟨tp, 0, none⟩), .pointer (some ⟨tn, 0, none⟩), .pointer (some ⟨td, 0, none⟩)] w' fun e w2 => ∃ v m, e = .returned (.tuple #[v, .bool (F x).isSome]) ∧ Mw w' w2 v m ∧ (∀ m', F x = some m' → m = m') ∧ Ch w' w2) := hf
  clear hv hl hf
  obtain ⟨r, hr⟩ : ∃ r, fst1 F l = r := ⟨_, rfl⟩
  rw [hr]
  have HR : Hid (fst1 F (l.drop 0) = r) := hr
  clear hr
  refine Calls.mono (R := fun e w' => ∃ v, e = .returned (.tuple #[.string r.1, v, .bool r.2.isSome]) ∧ Hid (Mw w w' v (r.2.getD noM) ∧ Ch w w')) ?_ (fun e w' ⟨v, h1, h2⟩ => ⟨v, h1, h2.out⟩)
  go_enter Tryz.func134, Tryz.ntmps134
  go_wp2_with fail
  refine wp_scope_oneL 0 (by rfl) ?_
  go_wp2_with fail
  go_loopw [4, 6, 10] (fun o q i wr => ∃ (k : Nat) (s : ByteArray) (t : Bool) (cs : Array Value), k ≤ l.length ∧ i = .int .i64 k ∧ o = .string s ∧ q = .bool t ∧ cs.size = 8 ∧ fst1 F (l.drop k) = r ∧ Bo w w.heap.size 66 cs wr ∧ Bo w (w.heap.size + 1) 66 #[.string ⟨#[]⟩, .string ⟨#[]⟩, .bool false, .bool false, .int .i64 0, .int .i64 0, .slice none 0 0, .slice none 0 0] wr) (fun _ _ i _ => l.length - (intOf i).toNat)
  case atStart => exact ⟨0, ⟨#[]⟩, false, _, Nat.zero_le _, rfl, rfl, rfl, rfl, HR.out, R0, T0⟩
  case round =>
    obtain ⟨k, s, t, cs, hk, rfl, rfl, rfl, hcs, hno, R, T⟩ := hrel
    clear R0 T0
    by_cases hlt : k < l.length
    · obtain ⟨x, hx⟩ : ∃ x, l[k]? = some x := ⟨_, List.getElem?_eq_getElem hlt⟩
      obtain ⟨b', off, rfl, q0⟩ := (HV.out wr R.ch).atS hx
      have hfk := HF.out wr R.ch x (List.mem_of_getElem? hx)
      have hsz := HL.out x (List.mem_of_getElem? hx)
      rw [fst1_step F hx] at hno
      clear hx
      generalize F x = fx at *
      cases fx with
      | none =>
        have HN : Hid (fst1 F (l.drop (k + 1)) = r) := hno
        clear hno
        go_wp2_with (first
          | (go_at_call 139; (with_reducible refine hfk.mono ?_); clear hfk; rintro e w3 ⟨v3, m, rfl, ⟨vc, vh, rfl, oc, oh⟩, _, c3⟩; obtain ⟨ac, cc, rfl⟩ := oc.form; obtain ⟨ah, chh, rfl⟩ := oh.form; unfold mV; have R3 := R.call c3; have T3 := T.call c3)
          | (refine wpList_store_row rfl 66 (.tmp 5) (.tmp 18) rfl w.heap.size #[.string m.n, .string m.d, .bool m.st, .bool m.ab, .int .i64 m.sk, .int .i64 m.lo, .slice ac m.code.length cc, .slice ah m.hs.length chh] rfl rfl 66 _ R3.b infoM hcs (one8 _ _ _ _ _ _ _ _ _ _ _ _) ?_; have R4 := R3.setRow #[.string m.n, .string m.d, .bool m.st, .bool m.ab, .int .i64 m.sk, .int .i64 m.lo, .slice ac m.code.length cc, .slice ah m.hs.length chh]; have T4 := T3.farRow (g' := w.heap.size) #[.string m.n, .string m.d, .bool m.st, .bool m.ab, .int .i64 m.sk, .int .i64 m.lo, .slice ac m.code.length cc, .slice ah m.hs.length chh] (by omega) (Nat.le_refl _))
          | fail)
        go_roundw
        case rel => exact ⟨k + 1, x, false, _, by omega, by go_num, rfl, rfl, rfl, HN.out, R4, T4⟩
        case measure => simp [intOf]; omega
      | some m' =>
        subst hno
        go_wp2_with (first
          | (go_at_call 139; (with_reducible refine hfk.mono ?_); clear hfk; rintro e w3 ⟨v3, m, rfl, ⟨vc, vh, rfl, oc, oh⟩, hmm, c3⟩; have hmm := hmm _ rfl; subst hmm; have oc := oc.base (B' := w.heap.size) R.ch.size; have oh := oh.base (B' := w.heap.size) R.ch.size; obtain ⟨ac, cc, rfl⟩ := oc.form; obtain ⟨ah, chh, rfl⟩ := oh.form; unfold mV; have R3 := R.call c3)
          | (refine wpList_store_row rfl 66 (.tmp 5) (.tmp 18) rfl w.heap.size #[.string m.n, .string m.d, .bool m.st, .bool m.ab, .int .i64 m.sk, .int .i64 m.lo, .slice ac m.code.length cc, .slice ah m.hs.length chh] rfl rfl 66 _ R3.b infoM hcs (one8 _ _ _ _ _ _ _ _ _ _ _ _) ?_; have R4 := R3.setRow #[.string m.n, .string m.d, .bool m.st, .bool m.ab, .int .i64 m.sk, .int .i64 m.lo, .slice ac m.code.length cc, .slice ah m.hs.length chh]; have oc4 := oc.rowI #[.string m.n, .string m.d, .bool m.st, .bool m.ab, .int .i64 m.sk, .int .i64 m.lo, .slice ac m.code.length cc, .slice ah m.hs.length chh] R3.b (by decide); have oh4 := oh.rowH #[.string m.n, .string m.d, .bool m.st, .bool m.ab, .int .i64 m.sk, .int .i64 m.lo, .slice ac m.code.length cc, .slice ah m.hs.length chh] R3.b (by decide))
          | fail)
        go_step3
        refine And.intro rfl ?_
        change Code.wp Tryz.prog _ _ _ _
        go_wp2_with fail
        have R5 := R4.call (Ch.refl _).drew
        have hcl := clone_any x (w3.setRow w.heap.size #[.string m.n, .string m.d, .bool m.st, .bool m.ab, .int .i64 m.sk, .int .i64 m.lo, .slice ac m.code.length cc, .slice ah m.hs.length chh]).drew hsz
        refine wp_region_held_drew (S := fun w' => w'.cell? ⟨w.heap.size, 0, none⟩ = some (.string m.n) ∧ w'.cell? ⟨w.heap.size, 1, none⟩ = some (.string m.d) ∧ w'.cell? ⟨w.heap.size, 2, none⟩ = some (.bool m.st) ∧ w'.cell? ⟨w.heap.size, 3, none⟩ = some (.bool m.ab) ∧ w'.cell? ⟨w.heap.size, 4, none⟩ = some (.int .i64 m.sk) ∧ w'.cell? ⟨w.heap.size, 5, none⟩ = some (.int .i64 m.lo) ∧ w'.cell? ⟨w.heap.size, 6, none⟩ = some (.slice ac m.code.length cc) ∧ w'.cell? ⟨w.heap.size, 7, none⟩ = some (.slice ah m.hs.length chh)) (by kernel_rfl) (by exact ⟨(R5).c 0 rfl, (R5).c 1 rfl, (R5).c 2 rfl, (R5).c 3 rfl, (R5).c 4 rfl, (R5).c 5 rfl, (R5).c 6 rfl, (R5).c 7 rfl⟩) (fun hHeld => ?_)
        refine wpAnyH_take (i := 0) (oi := ({ dst := some 23, op := Go.Op.move (Go.Operand.tmp 4), type := 9, pos := "resolve.go:112", after := #[], guard := none } : Oper)) (v := ?_) rfl (by kernel_rfl) (by kernel_rfl) (by kernel_rfl) (fun _ _ _ h => h) (Or.inl ⟨by rfl, ?_⟩) (by assumption) ?_
        rotate_left
        focus (intro w' hSw; (try dsimp only at hSw); go_split_ands; go_simp; try with_reducible rfl)
        (try simp only [Act.put, List.setIfInBounds_toArray, List.set_cons_zero, List.set_cons_succ])
        refine wpAnyH_take (i := 2) (oi := ({ dst := some 25, op := Go.Op.load 66 (Go.Operand.tmp 5), type := 66, pos := "resolve.go:112", after := #[{ on := 3, ground := Go.Ground.gcOnly Go.Departure.lateStores }], guard := none } : Oper)) (v := ?_) rfl (by kernel_rfl) (by kernel_rfl) (by kernel_rfl) (fun _ _ _ h => h) (Or.inl ⟨by rfl, ?_⟩) (by assumption) ?_
        rotate_left
        focus (intro w' hSw; (try dsimp only at hSw); go_split_ands; go_simp; try with_reducible rfl)
        (try simp only [Act.put, List.setIfInBounds_toArray, List.set_cons_zero, List.set_cons_succ])
        refine wpAnyH_ready (rs := [1]) (by kernel_rfl) (by simp) ?_
        refine AllReadyH.cons (o := ({ dst := some 24, op := Go.Op.call { callee := Go.Callee.value (Go.Operand.func 79), args := #[Go.Operand.tmp 23], argTypes := #[9] }, type := 9, pos := "resolve.go:112", after := #[{ on := 0, ground := Go.Ground.data }], guard := none } : Oper)) rfl (fun K hK => ?_) AllReadyH.nil
        go_simp
        go_at_call 79; (with_reducible refine hcl.mono ?_); clear hcl; rintro e w6 ⟨rfl, c6⟩; have R6 := R5.call c6
        refine hK.out _ _ ?_ (fun hHeld => ?_)
        exact ⟨(R6).c 0 rfl, (R6).c 1 rfl, (R6).c 2 rfl, (R6).c 3 rfl, (R6).c 4 rfl, (R6).c 5 rfl, (R6).c 6 rfl, (R6).c 7 rfl⟩
        clear hK K
        (try simp only [Act.put, List.setIfInBounds_toArray, List.set_cons_zero, List.set_cons_succ])
        refine wpAnyH_take (i := 3) (oi := ({ dst := some 4, op := Go.Op.assign (Go.Operand.tmp 24), type := 9, pos := "resolve.go:112", after := #[{ on := 1, ground := Go.Ground.data }, { on := 1, ground := Go.Ground.chain }, { on := 0, ground := Go.Ground.phase }, { on := 1, ground := Go.Ground.phase }, { on := 2, ground := Go.Ground.textOnly Go.Departure.lateStores }], guard := none } : Oper)) (v := ?_) rfl (by kernel_rfl) (by kernel_rfl) (by kernel_rfl) (fun _ _ _ h => h) (Or.inl ⟨by rfl, ?_⟩) (by assumption) ?_
        rotate_left
        focus (intro w' hSw; (try dsimp only at hSw); go_split_ands; go_simp; try with_reducible rfl)
        (try simp only [Act.put, List.setIfInBounds_toArray, List.set_cons_zero, List.set_cons_succ])
        refine wpAnyH_ready (rs := [4]) (by kernel_rfl) (by simp) ?_
        refine AllReadyH.cons (o := ({ dst := none, op := Go.Op.store 66 (Go.Operand.tmp 5) (Go.Operand.tmp 25), type := 0, pos := "resolve.go:112", after := #[{ on := 2, ground := Go.Ground.data }, { on := 3, ground := Go.Ground.chain }, { on := 0, ground := Go.Ground.phase }, { on := 1, ground := Go.Ground.phase }, { on := 2, ground := Go.Ground.phase }, { on := 3, ground := Go.Ground.phase }], guard := none } : Oper)) rfl (fun K hK => ?_) AllReadyH.nil
        refine wp_store_row 66 (.tmp 5) (.tmp 25) rfl w.heap.size #[.string m.n, .string m.d, .bool m.st, .bool m.ab, .int .i64 m.sk, .int .i64 m.lo, .slice ac m.code.length cc, .slice ah m.hs.length chh] rfl rfl 66 _ R6.b infoM rfl (one8 _ _ _ _ _ _ _ _ _ _ _ _) ?_
        have R7 := R6.setRow #[.string m.n, .string m.d, .bool m.st, .bool m.ab, .int .i64 m.sk, .int .i64 m.lo, .slice ac m.code.length cc, .slice ah m.hs.length chh]
        refine hK.out _ _ ?_ (fun hHeld => ?_)
        exact ⟨(R7).c 0 rfl, (R7).c 1 rfl, (R7).c 2 rfl, (R7).c 3 rfl, (R7).c 4 rfl, (R7).c 5 rfl, (R7).c 6 rfl, (R7).c 7 rfl⟩
        clear hK K
        (try simp only [Act.put])
        refine wpAnyH_take (i := 5) (oi := ({ dst := some 6, op := Go.Op.assign (Go.Operand.const (Go.Value.bool true)), type := 4, pos := "resolve.go:112", after := #[{ on := 4, ground := Go.Ground.chain }, { on := 0, ground := Go.Ground.phase }, { on := 1, ground := Go.Ground.phase }, { on := 2, ground := Go.Ground.phase }, { on := 3, ground := Go.Ground.phase }, { on := 4, ground := Go.Ground.phase }], guard := none } : Oper)) (v := ?_) rfl (by kernel_rfl) (by kernel_rfl) (by kernel_rfl) (fun _ _ _ h => h) (Or.inl ⟨by rfl, ?_⟩) (by assumption) ?_
        rotate_left
        focus (intro w' hSw; (try dsimp only at hSw); go_split_ands; go_simp; try with_reducible rfl)
        (try simp only [Act.put, List.setIfInBounds_toArray, List.set_cons_zero, List.set_cons_succ])
        refine wpAnyH_done (by kernel_rfl) ?_ _
        go_wp2_with fail
        rw [Exit.noGoto_ret]
        refine bodyPost_ret (results_cells rfl _ _ w.heap.size 66 _ (0, 0) _ rfl R7.b Tryz.underlying66 rfl infoM) rfl ?_
        exact ⟨_, rfl, ⟨_, _, rfl, ((oc4.keepI (Ch.refl _).drew).keepI c6).rowI _ R6.b (by decide), ((oh4.keepH (Ch.refl _).drew).keepH c6).rowH _ R6.b (by decide)⟩, R7.ch⟩
    · obtain rfl : k = l.length := by omega
      rw [List.drop_length] at hno
      subst hno
      go_wp2_with fail
      have R5 := R.call (Ch.refl _).drew
      have T5 := T.call (Ch.refl _).drew
      refine wp_region_held_drew (S := fun w' => w'.cell? ⟨w.heap.size + 1, 0, none⟩ = some (.string ⟨#[]⟩) ∧ w'.cell? ⟨w.heap.size + 1, 1, none⟩ = some (.string ⟨#[]⟩) ∧ w'.cell? ⟨w.heap.size + 1, 2, none⟩ = some (.bool false) ∧ w'.cell? ⟨w.heap.size + 1, 3, none⟩ = some (.bool false) ∧ w'.cell? ⟨w.heap.size + 1, 4, none⟩ = some (.int .i64 0) ∧ w'.cell? ⟨w.heap.size + 1, 5, none⟩ = some (.int .i64 0) ∧ w'.cell? ⟨w.heap.size + 1, 6, none⟩ = some (.slice none 0 0) ∧ w'.cell? ⟨w.heap.size + 1, 7, none⟩ = some (.slice none 0 0)) (by kernel_rfl) (by exact ⟨(T5).c 0 rfl, (T5).c 1 rfl, (T5).c 2 rfl, (T5).c 3 rfl, (T5).c 4 rfl, (T5).c 5 rfl, (T5).c 6 rfl, (T5).c 7 rfl⟩) (fun hHeld => ?_)
      refine wpAnyH_take (i := 0) (oi := ({ dst := some 22, op := Go.Op.load 66 (Go.Operand.tmp 7), type := 66, pos := "resolve.go:110", after := #[{ on := 1, ground := Go.Ground.gcOnly Go.Departure.lateStores }], guard := none } : Oper)) (v := ?_) rfl (by kernel_rfl) (by kernel_rfl) (by kernel_rfl) (fun _ _ _ h => h) (Or.inl ⟨by rfl, ?_⟩) (by assumption) ?_
      rotate_left
      focus (intro w' hSw; (try dsimp only at hSw); go_split_ands; go_simp; try with_reducible rfl)
      (try simp only [Act.put, List.setIfInBounds_toArray, List.set_cons_zero, List.set_cons_succ])
      refine wpAnyH_take (i := 1) (oi := ({ dst := some 4, op := Go.Op.assign (Go.Operand.const (Go.Value.string { data := #[] })), type := 9, pos := "resolve.go:110", after := #[{ on := 0, ground := Go.Ground.textOnly Go.Departure.lateStores }], guard := none } : Oper)) (v := ?_) rfl (by kernel_rfl) (by kernel_rfl) (by kernel_rfl) (fun _ _ _ h => h) (Or.inl ⟨by rfl, ?_⟩) (by assumption) ?_
      rotate_left
      focus (intro w' hSw; (try dsimp only at hSw); go_split_ands; go_simp; try with_reducible rfl)
      (try simp only [Act.put, List.setIfInBounds_toArray, List.set_cons_zero, List.set_cons_succ])
      refine wpAnyH_ready (rs := [2]) (by kernel_rfl) (by simp) ?_
      refine AllReadyH.cons (o := ({ dst := none, op := Go.Op.store 66 (Go.Operand.tmp 5) (Go.Operand.tmp 22), type := 0, pos := "resolve.go:110", after := #[{ on := 0, ground := Go.Ground.data }, { on := 1, ground := Go.Ground.chain }, { on := 0, ground := Go.Ground.phase }, { on := 1, ground := Go.Ground.phase }], guard := none } : Oper)) rfl (fun K hK => ?_) AllReadyH.nil
      refine wp_store_row 66 (.tmp 5) (.tmp 22) rfl w.heap.size #[.string ⟨#[]⟩, .string ⟨#[]⟩, .bool false, .bool false, .int .i64 0, .int .i64 0, .slice none 0 0, .slice none 0 0] rfl rfl 66 _ R5.b infoM hcs (one8 _ _ _ _ _ _ _ _ _ _ _ _) ?_
      have R7 := R5.setRow #[.string ⟨#[]⟩, .string ⟨#[]⟩, .bool false, .bool false, .int .i64 0, .int .i64 0, .slice none 0 0, .slice none 0 0]
      have T7 := T5.farRow (g' := w.heap.size) #[.string ⟨#[]⟩, .string ⟨#[]⟩, .bool false, .bool false, .int .i64 0, .int .i64 0, .slice none 0 0, .slice none 0 0] (by omega) (Nat.le_refl _)
      refine hK.out _ _ ?_ (fun hHeld => ?_)
      exact ⟨(T7).c 0 rfl, (T7).c 1 rfl, (T7).c 2 rfl, (T7).c 3 rfl, (T7).c 4 rfl, (T7).c 5 rfl, (T7).c 6 rfl, (T7).c 7 rfl⟩
      clear hK K
      (try simp only [Act.put])
      refine wpAnyH_take (i := 3) (oi := ({ dst := some 6, op := Go.Op.assign (Go.Operand.const (Go.Value.bool false)), type := 4, pos := "resolve.go:110", after := #[{ on := 2, ground := Go.Ground.chain }, { on := 0, ground := Go.Ground.phase }, { on := 1, ground := Go.Ground.phase }, { on := 2, ground := Go.Ground.phase }], guard := none } : Oper)) (v := ?_) rfl (by kernel_rfl) (by kernel_rfl) (by kernel_rfl) (fun _ _ _ h => h) (Or.inl ⟨by rfl, ?_⟩) (by assumption) ?_
      rotate_left
      focus (intro w' hSw; (try dsimp only at hSw); go_split_ands; go_simp; try with_reducible rfl)
      (try simp only [Act.put, List.setIfInBounds_toArray, List.set_cons_zero, List.set_cons_succ])
      refine wpAnyH_done (by kernel_rfl) ?_ _
      go_wp2_with fail
      rw [jump_retL]
      refine bodyPost_ret (results_cells rfl _ _ w.heap.size 66 _ (0, 0) _ rfl R7.b Tryz.underlying66 rfl infoM) rfl ?_
      exact ⟨_, rfl, ⟨_, _, rfl, Ow.nil, Ow.nil⟩, R7.ch⟩
set_option maxHeartbeats 16000000 in
set_option maxRecDepth 100000 in
theorem fstM_any (F : ByteArray → Option Mth) (l : List ByteArray) (v : Value) (tp tn td : Nat) (w : World) (hv : Sl 1 RS w v l) (hl : ∀ x ∈ l, x.size ≤ 100000) (hf : ∀ w', Ch w w' → ∀ x ∈ l, Calls Tryz.prog 135 #[.string x, .pointer (some ⟨tp, 0, none⟩), .pointer (some ⟨tn, 0, none⟩), .pointer (some ⟨td, 0, none⟩)] w' fun e w2 => ∃ v m, e = .returned (.tuple #[v, .bool (F x).isSome]) ∧ Mw w' w2 v m ∧ (∀ m', F x = some m' → m = m') ∧ Ch w' w2) :
    Calls Tryz.prog 134 #[v, .func (.func 135) #[] #[.pointer (some ⟨tp, 0, none⟩), .pointer (some ⟨tn, 0, none⟩), .pointer (some ⟨td, 0, none⟩)]] w fun e w' => ∃ v, e = .returned (.tuple #[.string (fst1 F l).1, v, .bool (fst1 F l).2.isSome]) ∧ Mw w w' v ((fst1 F l).2.getD noM) ∧ Ch w w' := by
  have R0 := Bo.new (Ch.refl w) #[.string ⟨#[]⟩, .string ⟨#[]⟩, .bool false, .bool false, .int .i64 0, .int .i64 0, .slice none 0 0, .slice none 0 0] 66
  have T0 := Bo.new R0.ch #[.string ⟨#[]⟩, .string ⟨#[]⟩, .bool false, .bool false, .int .i64 0, .int .i64 0, .slice none 0 0, .slice none 0 0] 66
  have R0 := R0.call ((Ch.refl _).alloc (.cells #[.string ⟨#[]⟩, .string ⟨#[]⟩, .bool false, .bool false, .int .i64 0, .int .i64 0, .slice none 0 0, .slice none 0 0] 66))
  have e1 : (w.alloc (.cells #[.string ⟨#[]⟩, .string ⟨#[]⟩, .bool false, .bool false, .int .i64 0, .int .i64 0, .slice none 0 0, .slice none 0 0] 66)).heap.size = w.heap.size + 1 := by simp
  rw [e1] at T0
  clear e1
  obtain ⟨ao, cl, rfl, hx1, hx2⟩ := hv.form
  have HV : Hid (∀ w', Ch w w' → Sl 1 RS w' (.slice ao l.length cl) l) := fun w' k => hv.keepS k
  have HL : Hid (∀ x ∈ l, x.size ≤ 100000) := hl
  have HF : Hid (∀ w', Ch w w' → ∀ x ∈ l, Calls Tryz.prog 135 #[.string x, .pointer (some ⟨tp, 0, none⟩), .pointer (some ⟨tn, 0, none⟩), .pointer (some ⟨td, 0, none⟩)] w' fun e w2 => ∃ v m, e = .returned (.tuple #[v, .bool (F x).isSome]) ∧ Mw w' w2 v m ∧ (∀ m', F x = some m' → m = m') ∧ Ch w' w2) := hf
  clear hv hl hf
  obtain ⟨r, hr⟩ : ∃ r, fst1 F l = r := ⟨_, rfl⟩
  rw [hr]
  have HR : Hid (fst1 F (l.drop 0) = r) := hr
  clear hr
  refine Calls.mono (R := fun e w' => ∃ v, e = .returned (.tuple #[.string r.1, v, .bool r.2.isSome]) ∧ Hid (Mw w w' v (r.2.getD noM) ∧ Ch w w')) ?_ (fun e w' ⟨v, h1, h2⟩ => ⟨v, h1, h2.out⟩)
  go_enter Tryz.func134, Tryz.ntmps134
  go_wp2_with fail
  refine wp_scope_oneL 0 (by rfl) ?_
  go_wp2_with fail
  go_loopw [4, 6, 10] (fun o q i wr => ∃ (k : Nat) (s : ByteArray) (t : Bool) (cs : Array Value), k ≤ l.length ∧ i = .int .i64 k ∧ o = .string s ∧ q = .bool t ∧ cs.size = 8 ∧ fst1 F (l.drop k) = r ∧ Bo w w.heap.size 66 cs wr ∧ Bo w (w.heap.size + 1) 66 #[.string ⟨#[]⟩, .string ⟨#[]⟩, .bool false, .bool false, .int .i64 0, .int .i64 0, .slice none 0 0, .slice none 0 0] wr) (fun _ _ i _ => l.length - (intOf i).toNat)
  case atStart => exact ⟨0, ⟨#[]⟩, false, _, Nat.zero_le _, rfl, rfl, rfl, rfl, HR.out, R0, T0⟩
  case round =>
    obtain ⟨k, s, t, cs, hk, rfl, rfl, rfl, hcs, hno, R, T⟩ := hrel
    clear R0 T0
    by_cases hlt : k < l.length
    · obtain ⟨x, hx⟩ : ∃ x, l[k]? = some x := ⟨_, List.getElem?_eq_getElem hlt⟩
      obtain ⟨b', off, rfl, q0⟩ := (HV.out wr R.ch).atS hx
      have hfk := HF.out wr R.ch x (List.mem_of_getElem? hx)
      have hsz := HL.out x (List.mem_of_getElem? hx)
      rw [fst1_step F hx] at hno
      clear hx
      generalize F x = fx at *
      cases fx with
      | none =>
        have HN : Hid (fst1 F (l.drop (k + 1)) = r) := hno
        clear hno
        go_wp2_with (first
          | (go_at_call 135; (with_reducible refine hfk.mono ?_); clear hfk; rintro e w3 ⟨v3, m, rfl, ⟨vc, vh, rfl, oc, oh⟩, _, c3⟩; obtain ⟨ac, cc, rfl⟩ := oc.form; obtain ⟨ah, chh, rfl⟩ := oh.form; unfold mV; have R3 := R.call c3; have T3 := T.call c3)
          | (refine wpList_store_row rfl 66 (.tmp 5) (.tmp 18) rfl w.heap.size #[.string m.n, .string m.d, .bool m.st, .bool m.ab, .int .i64 m.sk, .int .i64 m.lo, .slice ac m.code.length cc, .slice ah m.hs.length chh] rfl rfl 66 _ R3.b infoM hcs (one8 _ _ _ _ _ _ _ _ _ _ _ _) ?_; have R4 := R3.setRow #[.string m.n, .string m.d, .bool m.st, .bool m.ab, .int .i64 m.sk, .int .i64 m.lo, .slice ac m.code.length cc, .slice ah m.hs.length chh]; have T4 := T3.farRow (g' := w.heap.size) #[.string m.n, .string m.d, .bool m.st, .bool m.ab, .int .i64 m.sk, .int .i64 m.lo, .slice ac m.code.length cc, .slice ah m.hs.length chh] (by omega) (Nat.le_refl _))
          | fail)
        go_roundw
        case rel => exact ⟨k + 1, x, false, _, by omega, by go_num, rfl, rfl, rfl, HN.out, R4, T4⟩
        case measure => simp [intOf]; omega
      | some m' =>
        subst hno
        go_wp2_with (first
          | (go_at_call 135; (with_reducible refine hfk.mono ?_); clear hfk; rintro e w3 ⟨v3, m, rfl, ⟨vc, vh, rfl, oc, oh⟩, hmm, c3⟩; have hmm := hmm _ rfl; subst hmm; have oc := oc.base (B' := w.heap.size) R.ch.size; have oh := oh.base (B' := w.heap.size) R.ch.size; obtain ⟨ac, cc, rfl⟩ := oc.form; obtain ⟨ah, chh, rfl⟩ := oh.form; unfold mV; have R3 := R.call c3)
          | (refine wpList_store_row rfl 66 (.tmp 5) (.tmp 18) rfl w.heap.size #[.string m.n, .string m.d, .bool m.st, .bool m.ab, .int .i64 m.sk, .int .i64 m.lo, .slice ac m.code.length cc, .slice ah m.hs.length chh] rfl rfl 66 _ R3.b infoM hcs (one8 _ _ _ _ _ _ _ _ _ _ _ _) ?_; have R4 := R3.setRow #[.string m.n, .string m.d, .bool m.st, .bool m.ab, .int .i64 m.sk, .int .i64 m.lo, .slice ac m.code.length cc, .slice ah m.hs.length chh]; have oc4 := oc.rowI #[.string m.n, .string m.d, .bool m.st, .bool m.ab, .int .i64 m.sk, .int .i64 m.lo, .slice ac m.code.length cc, .slice ah m.hs.length chh] R3.b (by decide); have oh4 := oh.rowH #[.string m.n, .string m.d, .bool m.st, .bool m.ab, .int .i64 m.sk, .int .i64 m.lo, .slice ac m.code.length cc, .slice ah m.hs.length chh] R3.b (by decide))
          | fail)
        go_step3
        refine And.intro rfl ?_
        change Code.wp Tryz.prog _ _ _ _
        go_wp2_with fail
        have R5 := R4.call (Ch.refl _).drew
        have hcl := clone_any x (w3.setRow w.heap.size #[.string m.n, .string m.d, .bool m.st, .bool m.ab, .int .i64 m.sk, .int .i64 m.lo, .slice ac m.code.length cc, .slice ah m.hs.length chh]).drew hsz
        refine wp_region_held_drew (S := fun w' => w'.cell? ⟨w.heap.size, 0, none⟩ = some (.string m.n) ∧ w'.cell? ⟨w.heap.size, 1, none⟩ = some (.string m.d) ∧ w'.cell? ⟨w.heap.size, 2, none⟩ = some (.bool m.st) ∧ w'.cell? ⟨w.heap.size, 3, none⟩ = some (.bool m.ab) ∧ w'.cell? ⟨w.heap.size, 4, none⟩ = some (.int .i64 m.sk) ∧ w'.cell? ⟨w.heap.size, 5, none⟩ = some (.int .i64 m.lo) ∧ w'.cell? ⟨w.heap.size, 6, none⟩ = some (.slice ac m.code.length cc) ∧ w'.cell? ⟨w.heap.size, 7, none⟩ = some (.slice ah m.hs.length chh)) (by kernel_rfl) (by exact ⟨(R5).c 0 rfl, (R5).c 1 rfl, (R5).c 2 rfl, (R5).c 3 rfl, (R5).c 4 rfl, (R5).c 5 rfl, (R5).c 6 rfl, (R5).c 7 rfl⟩) (fun hHeld => ?_)
        refine wpAnyH_take (i := 0) (oi := ({ dst := some 23, op := Go.Op.move (Go.Operand.tmp 4), type := 9, pos := "resolve.go:112", after := #[], guard := none } : Oper)) (v := ?_) rfl (by kernel_rfl) (by kernel_rfl) (by kernel_rfl) (fun _ _ _ h => h) (Or.inl ⟨by rfl, ?_⟩) (by assumption) ?_
        rotate_left
        focus (intro w' hSw; (try dsimp only at hSw); go_split_ands; go_simp; try with_reducible rfl)
        (try simp only [Act.put, List.setIfInBounds_toArray, List.set_cons_zero, List.set_cons_succ])
        refine wpAnyH_take (i := 2) (oi := ({ dst := some 25, op := Go.Op.load 66 (Go.Operand.tmp 5), type := 66, pos := "resolve.go:112", after := #[{ on := 3, ground := Go.Ground.gcOnly Go.Departure.lateStores }], guard := none } : Oper)) (v := ?_) rfl (by kernel_rfl) (by kernel_rfl) (by kernel_rfl) (fun _ _ _ h => h) (Or.inl ⟨by rfl, ?_⟩) (by assumption) ?_
        rotate_left
        focus (intro w' hSw; (try dsimp only at hSw); go_split_ands; go_simp; try with_reducible rfl)
        (try simp only [Act.put, List.setIfInBounds_toArray, List.set_cons_zero, List.set_cons_succ])
        refine wpAnyH_ready (rs := [1]) (by kernel_rfl) (by simp) ?_
        refine AllReadyH.cons (o := ({ dst := some 24, op := Go.Op.call { callee := Go.Callee.value (Go.Operand.func 79), args := #[Go.Operand.tmp 23], argTypes := #[9] }, type := 9, pos := "resolve.go:112", after := #[{ on := 0, ground := Go.Ground.data }], guard := none } : Oper)) rfl (fun K hK => ?_) AllReadyH.nil
        go_simp
        go_at_call 79; (with_reducible refine hcl.mono ?_); clear hcl; rintro e w6 ⟨rfl, c6⟩; have R6 := R5.call c6
        refine hK.out _ _ ?_ (fun hHeld => ?_)
        exact ⟨(R6).c 0 rfl, (R6).c 1 rfl, (R6).c 2 rfl, (R6).c 3 rfl, (R6).c 4 rfl, (R6).c 5 rfl, (R6).c 6 rfl, (R6).c 7 rfl⟩
        clear hK K
        (try simp only [Act.put, List.setIfInBounds_toArray, List.set_cons_zero, List.set_cons_succ])
        refine wpAnyH_take (i := 3) (oi := ({ dst := some 4, op := Go.Op.assign (Go.Operand.tmp 24), type := 9, pos := "resolve.go:112", after := #[{ on := 1, ground := Go.Ground.data }, { on := 1, ground := Go.Ground.chain }, { on := 0, ground := Go.Ground.phase }, { on := 1, ground := Go.Ground.phase }, { on := 2, ground := Go.Ground.textOnly Go.Departure.lateStores }], guard := none } : Oper)) (v := ?_) rfl (by kernel_rfl) (by kernel_rfl) (by kernel_rfl) (fun _ _ _ h => h) (Or.inl ⟨by rfl, ?_⟩) (by assumption) ?_
        rotate_left
        focus (intro w' hSw; (try dsimp only at hSw); go_split_ands; go_simp; try with_reducible rfl)
        (try simp only [Act.put, List.setIfInBounds_toArray, List.set_cons_zero, List.set_cons_succ])
        refine wpAnyH_ready (rs := [4]) (by kernel_rfl) (by simp) ?_
        refine AllReadyH.cons (o := ({ dst := none, op := Go.Op.store 66 (Go.Operand.tmp 5) (Go.Operand.tmp 25), type := 0, pos := "resolve.go:112", after := #[{ on := 2, ground := Go.Ground.data }, { on := 3, ground := Go.Ground.chain }, { on := 0, ground := Go.Ground.phase }, { on := 1, ground := Go.Ground.phase }, { on := 2, ground := Go.Ground.phase }, { on := 3, ground := Go.Ground.phase }], guard := none } : Oper)) rfl (fun K hK => ?_) AllReadyH.nil
        refine wp_store_row 66 (.tmp 5) (.tmp 25) rfl w.heap.size #[.string m.n, .string m.d, .bool m.st, .bool m.ab, .int .i64 m.sk, .int .i64 m.lo, .slice ac m.code.length cc, .slice ah m.hs.length chh] rfl rfl 66 _ R6.b infoM rfl (one8 _ _ _ _ _ _ _ _ _ _ _ _) ?_
        have R7 := R6.setRow #[.string m.n, .string m.d, .bool m.st, .bool m.ab, .int .i64 m.sk, .int .i64 m.lo, .slice ac m.code.length cc, .slice ah m.hs.length chh]
        refine hK.out _ _ ?_ (fun hHeld => ?_)
        exact ⟨(R7).c 0 rfl, (R7).c 1 rfl, (R7).c 2 rfl, (R7).c 3 rfl, (R7).c 4 rfl, (R7).c 5 rfl, (R7).c 6 rfl, (R7).c 7 rfl⟩
        clear hK K
        (try simp only [Act.put])
        refine wpAnyH_take (i := 5) (oi := ({ dst := some 6, op := Go.Op.assign (Go.Operand.const (Go.Value.bool true)), type := 4, pos := "resolve.go:112", after := #[{ on := 4, ground := Go.Ground.chain }, { on := 0, ground := Go.Ground.phase }, { on := 1, ground := Go.Ground.phase }, { on := 2, ground := Go.Ground.phase }, { on := 3, ground := Go.Ground.phase }, { on := 4, ground := Go.Ground.phase }], guard := none } : Oper)) (v := ?_) rfl (by kernel_rfl) (by kernel_rfl) (by kernel_rfl) (fun _ _ _ h => h) (Or.inl ⟨by rfl, ?_⟩) (by assumption) ?_
        rotate_left
        focus (intro w' hSw; (try dsimp only at hSw); go_split_ands; go_simp; try with_reducible rfl)
        (try simp only [Act.put, List.setIfInBounds_toArray, List.set_cons_zero, List.set_cons_succ])
        refine wpAnyH_done (by kernel_rfl) ?_ _
        go_wp2_with fail
        rw [Exit.noGoto_ret]
        refine bodyPost_ret (results_cells rfl _ _ w.heap.size 66 _ (0, 0) _ rfl R7.b Tryz.underlying66 rfl infoM) rfl ?_
        exact ⟨_, rfl, ⟨_, _, rfl, ((oc4.keepI (Ch.refl _).drew).keepI c6).rowI _ R6.b (by decide), ((oh4.keepH (Ch.refl _).drew).keepH c6).rowH _ R6.b (by decide)⟩, R7.ch⟩
    · obtain rfl : k = l.length := by omega
      rw [List.drop_length] at hno
      subst hno
      go_wp2_with fail
      have R5 := R.call (Ch.refl _).drew
      have T5 := T.call (Ch.refl _).drew
      refine wp_region_held_drew (S := fun w' => w'.cell? ⟨w.heap.size + 1, 0, none⟩ = some (.string ⟨#[]⟩) ∧ w'.cell? ⟨w.heap.size + 1, 1, none⟩ = some (.string ⟨#[]⟩) ∧ w'.cell? ⟨w.heap.size + 1, 2, none⟩ = some (.bool false) ∧ w'.cell? ⟨w.heap.size + 1, 3, none⟩ = some (.bool false) ∧ w'.cell? ⟨w.heap.size + 1, 4, none⟩ = some (.int .i64 0) ∧ w'.cell? ⟨w.heap.size + 1, 5, none⟩ = some (.int .i64 0) ∧ w'.cell? ⟨w.heap.size + 1, 6, none⟩ = some (.slice none 0 0) ∧ w'.cell? ⟨w.heap.size + 1, 7, none⟩ = some (.slice none 0 0)) (by kernel_rfl) (by exact ⟨(T5).c 0 rfl, (T5).c 1 rfl, (T5).c 2 rfl, (T5).c 3 rfl, (T5).c 4 rfl, (T5).c 5 rfl, (T5).c 6 rfl, (T5).c 7 rfl⟩) (fun hHeld => ?_)
      refine wpAnyH_take (i := 0) (oi := ({ dst := some 22, op := Go.Op.load 66 (Go.Operand.tmp 7), type := 66, pos := "resolve.go:110", after := #[{ on := 1, ground := Go.Ground.gcOnly Go.Departure.lateStores }], guard := none } : Oper)) (v := ?_) rfl (by kernel_rfl) (by kernel_rfl) (by kernel_rfl) (fun _ _ _ h => h) (Or.inl ⟨by rfl, ?_⟩) (by assumption) ?_
      rotate_left
      focus (intro w' hSw; (try dsimp only at hSw); go_split_ands; go_simp; try with_reducible rfl)
      (try simp only [Act.put, List.setIfInBounds_toArray, List.set_cons_zero, List.set_cons_succ])
      refine wpAnyH_take (i := 1) (oi := ({ dst := some 4, op := Go.Op.assign (Go.Operand.const (Go.Value.string { data := #[] })), type := 9, pos := "resolve.go:110", after := #[{ on := 0, ground := Go.Ground.textOnly Go.Departure.lateStores }], guard := none } : Oper)) (v := ?_) rfl (by kernel_rfl) (by kernel_rfl) (by kernel_rfl) (fun _ _ _ h => h) (Or.inl ⟨by rfl, ?_⟩) (by assumption) ?_
      rotate_left
      focus (intro w' hSw; (try dsimp only at hSw); go_split_ands; go_simp; try with_reducible rfl)
      (try simp only [Act.put, List.setIfInBounds_toArray, List.set_cons_zero, List.set_cons_succ])
      refine wpAnyH_ready (rs := [2]) (by kernel_rfl) (by simp) ?_
      refine AllReadyH.cons (o := ({ dst := none, op := Go.Op.store 66 (Go.Operand.tmp 5) (Go.Operand.tmp 22), type := 0, pos := "resolve.go:110", after := #[{ on := 0, ground := Go.Ground.data }, { on := 1, ground := Go.Ground.chain }, { on := 0, ground := Go.Ground.phase }, { on := 1, ground := Go.Ground.phase }], guard := none } : Oper)) rfl (fun K hK => ?_) AllReadyH.nil
      refine wp_store_row 66 (.tmp 5) (.tmp 22) rfl w.heap.size #[.string ⟨#[]⟩, .string ⟨#[]⟩, .bool false, .bool false, .int .i64 0, .int .i64 0, .slice none 0 0, .slice none 0 0] rfl rfl 66 _ R5.b infoM hcs (one8 _ _ _ _ _ _ _ _ _ _ _ _) ?_
      have R7 := R5.setRow #[.string ⟨#[]⟩, .string ⟨#[]⟩, .bool false, .bool false, .int .i64 0, .int .i64 0, .slice none 0 0, .slice none 0 0]
      have T7 := T5.farRow (g' := w.heap.size) #[.string ⟨#[]⟩, .string ⟨#[]⟩, .bool false, .bool false, .int .i64 0, .int .i64 0, .slice none 0 0, .slice none 0 0] (by omega) (Nat.le_refl _)
      refine hK.out _ _ ?_ (fun hHeld => ?_)
      exact ⟨(T7).c 0 rfl, (T7).c 1 rfl, (T7).c 2 rfl, (T7).c 3 rfl, (T7).c 4 rfl, (T7).c 5 rfl, (T7).c 6 rfl, (T7).c 7 rfl⟩
      clear hK K
      (try simp only [Act.put])
      refine wpAnyH_take (i := 3) (oi := ({ dst := some 6, op := Go.Op.assign (Go.Operand.const (Go.Value.bool false)), type := 4, pos := "resolve.go:110", after := #[{ on := 2, ground := Go.Ground.chain }, { on := 0, ground := Go.Ground.phase }, { on := 1, ground := Go.Ground.phase }, { on := 2, ground := Go.Ground.phase }], guard := none } : Oper)) (v := ?_) rfl (by kernel_rfl) (by kernel_rfl) (by kernel_rfl) (fun _ _ _ h => h) (Or.inl ⟨by rfl, ?_⟩) (by assumption) ?_
      rotate_left
      focus (intro w' hSw; (try dsimp only at hSw); go_split_ands; go_simp; try with_reducible rfl)
      (try simp only [Act.put, List.setIfInBounds_toArray, List.set_cons_zero, List.set_cons_succ])
      refine wpAnyH_done (by kernel_rfl) ?_ _
      go_wp2_with fail
      rw [jump_retL]
      refine bodyPost_ret (results_cells rfl _ _ w.heap.size 66 _ (0, 0) _ rfl R7.b Tryz.underlying66 rfl infoM) rfl ?_
      exact ⟨_, rfl, ⟨_, _, rfl, Ow.nil, Ow.nil⟩, R7.ch⟩
end Go.Proofs.YthmepecmeambmaaGreat
