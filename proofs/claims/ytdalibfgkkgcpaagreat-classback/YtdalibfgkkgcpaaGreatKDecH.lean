/- What the decoder answers, as functions over lists. -/
/- What is read of a pool; Encode of what was read. -/
import Derived.Test.YtdalibfgkkgcpaaGreatKDecF
import Derived.Test.YtdalibfgkkgcpaaGreatKEncZ
import Derived.Test.YtdalibfgkkgcpaaGreatKAwB
namespace Go.Proofs.YtdalibfgkkgcpaaGreat
open Go.RowKit
set_option linter.unusedVariables false

theorem fldE_rg (f : Fld) : fldE f = 0 ∨ 2 ≤ fldE f ∧ fldE f ≤ 7 := by unfold fldE; split <;> omega
theorem hdE_rg (c : Cls) : hdE c = 0 ∨ 2 ≤ hdE c ∧ hdE c ≤ 7 := by unfold hdE; (repeat' split) <;> omega
theorem firstF_rg {α : Type} (f : α → Int) (h : ∀ x, f x = 0 ∨ 2 ≤ f x ∧ f x ≤ 7) : ∀ l : List α, firstF f l = 0 ∨ 2 ≤ firstF f l ∧ firstF f l ≤ 7
  | [] => Or.inl rfl
  | x :: l => by
    have h1 := firstF_rg f h l
    have h2 := h x
    unfold firstF
    split <;> assumption
theorem insE_rg (a b : Int) (x : Ins) : insE a b x = 0 ∨ 2 ≤ insE a b x ∧ insE a b x ≤ 7 := by unfold insE chk; (repeat' split) <;> omega
theorem hndE_rg (a : Int) (x : Hnd) : hndE a x = 0 ∨ 2 ≤ hndE a x ∧ hndE a x ≤ 7 := by unfold hndE; (repeat' split) <;> omega
theorem mthE_rg (m : Mth) : mthE m = 0 ∨ 2 ≤ mthE m ∧ mthE m ≤ 7 := by
  have h1 := firstF_rg _ (insE_rg m.code.length m.lo) m.code
  have h2 := firstF_rg _ (hndE_rg m.code.length) m.hs
  have h3 : codE m = 0 ∨ 2 ≤ codE m ∧ codE m ≤ 7 := by
    unfold codE orL orL orL
    (repeat' split) <;> first | assumption | omega
  unfold mthE
  (repeat' split) <;> first | assumption | omega
theorem strOfNums_size (l : List Int) : (strOfNums l).size = l.length := by simp [strOfNums, ByteArray.size]
def opt {α : Type} (b : Bool) (r : RD α) (d : α) : RD α := fun bs s => if b then r bs s else (d, s)
/-- How many both begin with. -/
def alk : List Int → List Int → Nat
  | x :: a, y :: b => if x = y then alk a b + 1 else 0
  | _, _ => 0
theorem alk_le : ∀ a b : List Int, alk a b ≤ b.length
  | x :: a, y :: b => by
    unfold alk
    have := alk_le a b
    split <;> simp <;> omega
  | [], b => by simp [alk]
  | _ :: _, [] => by simp [alk]
def noC : Cls := ⟨⟨#[]⟩, ⟨#[]⟩, false, false, [], [], []⟩
def encA (c : Cls) : List Int := if chkE c = 0 then encB c else []
def oneR (c : Cls) : RD Cls := fun bs s => (c, if encA c = bs then s else fl s 7 (alk (encA c) bs))

/-- What holds of every state; under q the bytes have ended too early. -/
structure Iv (q : Prop) (n : Nat) (s : St) : Prop where
  a : s.a ≤ n
  ea : s.ea ≤ n
  e : s.e = 0 ∨ 2 ≤ s.e ∧ s.e ≤ 7
  q : q → s.f = true ∧ (s.e = 0 ∨ s.e = 2)
section
variable {q : Prop} {n : Nat} {s : St}
theorem Iv.sy' (h : Iv q n s) : Iv q n (sy s) := by
  have h1 := h.a
  have h2 := h.ea
  have h3 := h.e
  have h4 := h.q
  unfold sy
  split
  · next he =>
    split
    · exact ⟨h1, h1, Or.inr (by simp), fun k => ⟨(h4 k).1, Or.inr rfl⟩⟩
    · exact ⟨h1, Nat.zero_le _, h3, h4⟩
  · exact h
theorem Iv.fl' (h : Iv q n s) {e : Int} {p : Nat} (he : 2 ≤ e ∧ e ≤ 7) (hp : p ≤ n) : Iv q n (fl s e p) := by
  unfold fl
  split
  · exact h.sy'
  · next hb =>
    have h' := h.sy'
    refine ⟨h'.a, hp, Or.inr he, fun k => ?_⟩
    have h1 := h.q k
    exfalso
    apply hb
    unfold bad sy
    rcases h1.2 with h2 | h2 <;> simp [h1.1, h2]
theorem Iv.mu' (h : Iv q n s) {e : Int} {p : Nat} (he : e = 0 ∨ 2 ≤ e ∧ e ≤ 7) (hp : p ≤ n) : Iv q n (mu s e p) := by
  unfold mu
  split
  · exact h
  · exact h.fl' (by omega) hp
end
/-- A reader keeps it. -/
def Kps {α : Type} (p : Nat) (r : RD α) : Prop := ∀ (q : Prop) bs s, p ≤ bs.length → Iv q bs.length s → Iv q bs.length (r bs s).2
section
variable {α β : Type} {p : Nat}
theorem Kps.bd' {r : RD α} {t : α → RD β} (h1 : Kps p r) (h2 : ∀ x, Kps p (t x)) : Kps p (bd r t) := fun q bs s hp h => h2 _ q bs _ hp (h1 q bs s hp h)
theorem Kps.opt' {r : RD α} (b : Bool) (d : α) (h1 : Kps p r) : Kps p (opt b r d) := fun q bs s hp h => by
  unfold opt
  split
  · exact h1 q bs s hp h
  · exact h
theorem Kps.pr (x : α) : Kps p (fun _ s => (x, s)) := fun q bs s hp h => h
theorem Kps.hd' {t : Nat → RD α} (h1 : ∀ p', Kps p' (t p')) : Kps p (hdr t) := fun q bs s hp h => h1 s.a q bs s h.a h
theorem Kps.fb' {r : RD α} (A : α) (h1 : Kps p r) : Kps p (fb A r) := fun q bs s hp h => by
  unfold fb
  split
  · exact h.sy'
  · exact h1 q bs _ hp h.sy'
theorem Kps.mst' (x : α) {e : Int} (he : e = 0 ∨ 2 ≤ e ∧ e ≤ 7) : Kps p (mst x e p) := fun q bs s hp h => h.mu' he hp
theorem Kps.nR' (k : Nat) : Kps p (fun bs => nR bs k) := fun q bs s hp h => by
  unfold nR
  dsimp only
  split
  · next hc => exact ⟨hc.2, h.ea, h.e, fun k => absurd (h.q k).1 (by rw [hc.1]; decide)⟩
  · exact ⟨h.a, h.ea, h.e, fun k => ⟨rfl, (h.q k).2⟩⟩
theorem Kps.iR' : Kps p iR := fun q bs s hp h => Kps.nR' (p := p) 4 q bs s hp h
theorem Kps.cntR' (m : Int) : Kps p (fun bs => cntR bs m) := fun q bs s hp h => by
  have h1 := Kps.nR' (p := p) 2 q bs s hp h
  unfold cntR
  dsimp only
  split
  · exact h1
  · exact h1.fl' (by omega) h.a
theorem Kps.txtR' (P : List ByteArray) : Kps p (fun bs => txtR bs P) := fun q bs s hp h => by
  have h1 := Kps.nR' (p := p) 2 q bs s hp h
  unfold txtR
  dsimp only
  split
  · exact h1
  · exact h1.fl' (by omega) h.a
theorem Kps.yesR' : Kps p yesR := fun q bs s hp h => by
  have h1 := Kps.nR' (p := p) 1 q bs s hp h
  unfold yesR
  split
  · exact h1
  · exact h1.fl' (by omega) h.a
theorem Kps.rtxR' : Kps p rtxR := fun q bs s hp h => by
  unfold rtxR
  split
  · next hc => exact ⟨hc.2.2, h.ea, h.e, fun k => absurd (h.q k).1 (by rw [hc.1]; decide)⟩
  · exact ⟨h.a, h.ea, h.e, fun k => ⟨rfl, (h.q k).2⟩⟩
theorem Kps.lst' {r : RD α} (h : Kps p r) : ∀ n acc, Kps p (lst r n acc)
  | 0, acc => Kps.pr acc
  | n + 1, acc => h.bd' fun x => Kps.fb' _ (Kps.lst' h n _)
theorem Kps.listR' {r : RD α} (m : Int) (h : Kps p r) : Kps p (listR m r) := (Kps.cntR' m).bd' fun _ => h.lst' _ _
end
theorem fldR_bd (P : List ByteArray) : (fun bs => fldR bs P) = hdr fun p => bd (fun bs => txtR bs P) fun n => bd (fun bs => txtR bs P) fun d => bd yesR fun st => mst ⟨n, d, st⟩ (fldE ⟨n, d, st⟩) p := rfl
theorem hndR_bd (P : List ByteArray) : (fun bs => hndR bs P) = bd (fun bs => nR bs 2) fun a => bd (fun bs => nR bs 2) fun b => bd (fun bs => nR bs 2) fun c => bd (fun bs => txtR bs P) fun d => fun _ s => (⟨a, b, c, d⟩, s) := rfl
def insD (P : List ByteArray) (p : Nat) (op : Int) : RD Ins :=
  if kd (ix op) = 0 then fun _ s => (⟨op, 0, 0, ⟨#[]⟩, ⟨#[]⟩, ⟨#[]⟩⟩, fl s 3 p)
  else bd (opt (sA (kd (ix op))) iR 0) fun a => bd (opt (sB (kd (ix op))) iR 0) fun b => bd (opt (sC (kd (ix op))) (fun bs => txtR bs P) ⟨#[]⟩) fun c =>
    bd (opt (sN (kd (ix op))) (fun bs => txtR bs P) ⟨#[]⟩) fun n => bd (opt (sD (kd (ix op))) (fun bs => txtR bs P) ⟨#[]⟩) fun d => fun _ s => (⟨op, a, b, c, n, d⟩, s)
theorem insR_bd (P : List ByteArray) : (fun bs => insR bs P) = hdr fun p => bd (fun bs => nR bs 1) fun op => insD P p op := by
  funext bs s
  simp only [insR, hdr, bd, insD]
  split <;> rfl
theorem Kps.fldR' {p : Nat} (P : List ByteArray) : Kps p (fun bs => fldR bs P) := by
  rw [fldR_bd]
  exact Kps.hd' fun p' => (Kps.txtR' P).bd' fun n => (Kps.txtR' P).bd' fun d => Kps.yesR'.bd' fun st => Kps.mst' _ (fldE_rg _)
theorem Kps.hndR' {p : Nat} (P : List ByteArray) : Kps p (fun bs => hndR bs P) := by
  rw [hndR_bd]
  exact (Kps.nR' 2).bd' fun a => (Kps.nR' 2).bd' fun b => (Kps.nR' 2).bd' fun c => (Kps.txtR' P).bd' fun d => Kps.pr _
theorem Kps.insD' {p : Nat} (P : List ByteArray) (op : Int) : Kps p (insD P p op) := by
  unfold insD
  split
  · intro q bs s hp h
    exact h.fl' (by omega) hp
  · exact (Kps.iR'.opt' _ _).bd' fun a => (Kps.iR'.opt' _ _).bd' fun b => ((Kps.txtR' P).opt' _ _).bd' fun c => ((Kps.txtR' P).opt' _ _).bd' fun n => ((Kps.txtR' P).opt' _ _).bd' fun d => Kps.pr _
theorem Kps.insR' {p : Nat} (P : List ByteArray) : Kps p (fun bs => insR bs P) := by
  rw [insR_bd]
  exact Kps.hd' fun p' => (Kps.nR' 1).bd' fun op => Kps.insD' P op
theorem Kps.mthR' {p : Nat} (P : List ByteArray) : Kps p (mthR P) :=
  Kps.hd' fun p' => (Kps.txtR' P).bd' fun n => (Kps.txtR' P).bd' fun d => Kps.yesR'.bd' fun st => Kps.yesR'.bd' fun ab => (Kps.nR' 1).bd' fun sk => (Kps.nR' 1).bd' fun lo =>
    ((Kps.insR' P).listR' _).bd' fun co => Kps.fb' _ (((Kps.hndR' P).listR' _).bd' fun hs => Kps.mst' _ (mthE_rg _))
theorem Kps.clsR' {p : Nat} (P : List ByteArray) : Kps p (clsR P) :=
  Kps.hd' fun p' => (Kps.txtR' P).bd' fun n => (Kps.txtR' P).bd' fun su => Kps.yesR'.bd' fun it => Kps.yesR'.bd' fun ab => ((Kps.txtR' P).listR' _).bd' fun im =>
    (Kps.mst' _ (hdE_rg _)).bd' fun _ => Kps.fb' _ (((Kps.fldR' P).listR' _).bd' fun fs => Kps.fb' _ (((Kps.mthR' P).listR' _).bd' fun me => Kps.pr _))
theorem Kps.oneR' {p : Nat} (c : Cls) : Kps p (oneR c) := fun q bs s hp h => by
  unfold oneR
  dsimp only
  split
  · exact h
  · exact h.fl' (by omega) (alk_le _ _)

abbrev cl (a : Nat) : St := ⟨a, false, 0, 0⟩
theorem sy_cl (a : Nat) : sy (cl a) = cl a := by simp [sy]
theorem bad_cl (a : Nat) : bad (cl a) = false := by simp [bad, sy]
def Has (E : List Int) (a : Nat) (X : List Int) : Prop := X <+: E.drop a
theorem Has.app {E X Y : List Int} {a : Nat} (h : Has E a (X ++ Y)) : Has E a X ∧ Has E (a + X.length) Y := by
  obtain ⟨Z, h⟩ := h
  refine ⟨⟨Y ++ Z, by rw [← List.append_assoc]; exact h⟩, ⟨Z, ?_⟩⟩
  rw [← List.drop_drop, ← h, List.append_assoc, List.drop_left]
theorem Has.take {E X : List Int} {a k : Nat} (h : Has E a X) (hk : a + X.length ≤ k) : ((E.take k).drop a).take X.length = X := by
  obtain ⟨Z, h⟩ := h
  rw [List.drop_take, ← h, List.take_take, Nat.min_eq_left (by omega), List.take_left]
/-- Where these bytes stand, whole or cut short, this is read. -/
def RdB {α : Type} (p : Nat) (r : RD α) (X : List Int) (x : α) : Prop :=
  ∀ E a k, Has E a X → p ≤ k → a ≤ k → k ≤ E.length → (a + X.length ≤ k → r (E.take k) (cl a) = (x, cl (a + X.length))) ∧ (k < a + X.length → Iv True k (r (E.take k) (cl a)).2)
section
variable {α β : Type} {p : Nat}
theorem RdB.bd' {r : RD α} {t : α → RD β} {X Y : List Int} {x : α} {y : β} (h1 : RdB p r X x) (h2 : RdB p (t x) Y y) (hk : ∀ z, Kps p (t z)) : RdB p (bd r t) (X ++ Y) y := by
  intro E a k hE hp ha hl
  obtain ⟨e1, e2⟩ := hE.app
  obtain ⟨g1, g2⟩ := h1 E a k e1 hp ha hl
  have hlen : (E.take k).length = k := by simp; omega
  rw [List.length_append]
  by_cases hc : a + X.length ≤ k
  · obtain ⟨f1, f2⟩ := h2 E (a + X.length) k e2 hp hc hl
    have g := g1 hc
    unfold bd
    rw [g]
    refine ⟨fun h => ?_, fun h => f2 (by omega)⟩
    rw [f1 (by omega), Nat.add_assoc]
  · refine ⟨fun h => by omega, fun _ => ?_⟩
    have := hk (r (E.take k) (cl a)).1 True (E.take k) (r (E.take k) (cl a)).2 (by omega) (by rw [hlen]; exact g2 (by omega))
    rw [hlen] at this
    exact this
theorem RdB.of {r : RD α} {X X' : List Int} {x : α} (h : RdB p r X x) (e : X = X') : RdB p r X' x := e ▸ h
theorem RdB.pr (x : α) : RdB p (fun _ s => (x, s)) [] x := fun E a k hE hp ha hl => ⟨fun _ => rfl, fun h => by simp at h; omega⟩
theorem RdB.nil {r : RD α} {x : α} (h : ∀ bs a, r bs (cl a) = (x, cl a)) : RdB p r [] x := fun E a k hE hp ha hl => ⟨fun _ => h _ _, fun h => by simp at h; omega⟩
theorem RdB.mst' (x : α) {e : Int} (he : e = 0) (p' : Nat) : RdB p (mst x e p') [] x := RdB.nil fun bs a => by simp [mst, mu, he]
theorem RdB.hd' {t : Nat → RD α} {X : List Int} {x : α} (h : ∀ p, RdB p (t p) X x) : RdB p (hdr t) X x := fun E a k hE hp ha hl => h a E a k hE ha ha hl
theorem RdB.fb' {r : RD α} {X : List Int} {x : α} (A : α) (h : RdB p r X x) : RdB p (fb A r) X x := fun E a k hE hp ha hl => by
  unfold fb
  rw [bad_cl, sy_cl]
  exact h E a k hE hp ha hl
theorem RdB.opt' {r : RD α} {X : List Int} {x : α} (b : Bool) (d : α) (h : b = true → RdB p r X x) : RdB p (opt b r d) (if b then X else []) (if b then x else d) := by
  cases b with
  | true => exact h rfl
  | false => exact RdB.pr d
theorem iv_cl {q : Prop} {a k : Nat} (h : a ≤ k) (f : Bool) (hq : f = true) : Iv q k ⟨a, f, 0, 0⟩ := ⟨h, Nat.zero_le _, Or.inl rfl, fun _ => ⟨hq, Or.inl rfl⟩⟩
theorem RdB.nR' {n : Int} (j : Nat) (hn : num (be n j) = n) : RdB p (fun bs => nR bs j) (be n j) n := fun E a k hE hp ha hl => by
  have hlen : (E.take k).length = k := by simp; omega
  have ht := fun h => hE.take (k := k) h
  rw [be_len] at ht ⊢
  unfold nR
  dsimp only
  rw [hlen]
  refine ⟨fun h => ?_, fun h => ?_⟩
  · rw [if_pos ⟨rfl, h⟩, ht h, hn]
  · rw [if_neg (by omega)]
    exact iv_cl ha true rfl
theorem num_be1 {n : Int} (h : 0 ≤ n ∧ n ≤ 255) : num (be n 1) = n := by simp [be, num]; omega
theorem num_be2 {n : Int} (h : 0 ≤ n ∧ n ≤ 65535) : num (be n 2) = n := by simp [be, num]; omega
theorem num_be4 {n : Int} (h : 0 ≤ n ∧ n ≤ 4294967295) : num (be n 4) = n := by simp [be, num]; omega
theorem sgn_be4 {n : Int} (h : -2147483648 ≤ n ∧ n ≤ 2147483647) : sgn (num (be n 4)) = n := by
  simp [be, num, sgn]; omega
theorem RdB.iR' {n : Int} (h : -2147483648 ≤ n ∧ n ≤ 2147483647) : RdB p iR (be n 4) n := fun E a k hE hp ha hl => by
  have hlen : (E.take k).length = k := by simp; omega
  have ht := fun h => hE.take (k := k) h
  rw [be_len] at ht ⊢
  unfold iR nR
  dsimp only
  rw [hlen]
  refine ⟨fun h' => ?_, fun h => ?_⟩
  · rw [if_pos ⟨rfl, h'⟩, ht h', sgn_be4 h]
  · rw [if_neg (by omega)]
    exact iv_cl ha true rfl
theorem iv_fl {q : Prop} {k : Nat} {s : St} (h : Iv q k s) : Iv q k s := h
theorem RdB.cntR' {n most : Int} (h0 : 0 ≤ n) (h1 : n ≤ most) (h2 : n ≤ 65535) : RdB p (fun bs => cntR bs most) (be n 2) n := fun E a k hE hp ha hl => by
  obtain ⟨g1, g2⟩ := RdB.nR' (p := p) 2 (num_be2 ⟨h0, h2⟩) E a k hE hp ha hl
  unfold cntR
  dsimp only at g1 g2 ⊢
  refine ⟨fun h => ?_, fun h => ?_⟩
  · rw [g1 h, if_pos h1]
  · have := g2 h
    split
    · exact this
    · exact this.fl' (by omega) ha
theorem RdB.txtR' {L : List (List UInt8)} {t : ByteArray} (hL : L.length ≤ 65535) (ht : bl t ∈ L) : RdB p (fun bs => txtR bs (L.map ms)) (pB L (bl t)) t := fun E a k hE hp ha hl => by
  have hi : L.idxOf (bl t) < L.length := List.idxOf_lt_length_of_mem ht
  have hpl : plc L (bl t) = (L.idxOf (bl t) : Int) := by simp [plc, ht]
  obtain ⟨g1, g2⟩ := RdB.nR' (p := p) 2 (num_be2 (n := plc L (bl t)) (by rw [hpl]; omega)) E a k hE hp ha hl
  unfold txtR pB at *
  dsimp only at g1 g2 ⊢
  refine ⟨fun h => ?_, fun h => ?_⟩
  · rw [g1 h, if_pos (by rw [hpl]; simp; omega), hpl]
    simp [hi, ms_bl]
  · have := g2 h
    split
    · exact this
    · exact this.fl' (by omega) ha
theorem RdB.yesR' (b : Bool) : RdB p yesR (yB b) b := fun E a k hE hp ha hl => by
  obtain ⟨g1, g2⟩ := RdB.nR' (p := p) 1 (num_be1 (n := if b then 1 else 0) (by cases b <;> simp)) E a k hE hp ha hl
  unfold yesR yB at *
  dsimp only at g1 g2 ⊢
  refine ⟨fun h => ?_, fun h => ?_⟩
  · rw [g1 h]; cases b <;> simp
  · have := g2 h
    split
    · exact this
    · exact this.fl' (by omega) ha
theorem sbL_len (l : List UInt8) : (sbL l).length = l.length := by simp [sbL]
theorem str_sbL (l : List UInt8) : strOfNums (sbL l) = ms l := by
  have h : (l.map fun b => (b.toNat : Int)).map (fun n => UInt8.ofNat n.toNat) = l := by
    rw [List.map_map]
    refine (List.map_congr_left (g := id) (fun x _ => ?_)).trans (List.map_id l)
    simp
  unfold strOfNums sbL ms
  rw [h]
theorem RdB.rtxR' {l : List UInt8} (h : l.length ≤ 65535) : RdB p rtxR (txB l) (ms l) := fun E a k hE hp ha hl => by
  have hlen : (E.take k).length = k := by simp; omega
  obtain ⟨e1, e2⟩ := hE.app
  have t1 := fun h => e1.take (k := k) h
  have t2 := fun h => e2.take (k := k) h
  rw [be_len] at t1 t2
  have hx : (txB l).length = 2 + l.length := by simp [txB, be_len, sbL_len]
  rw [sbL_len] at t2
  have hnum : num (be (l.length : Int) 2) = l.length := num_be2 (by omega)
  rw [hx]
  unfold rtxR
  dsimp only
  rw [hlen]
  refine ⟨fun h' => ?_, fun h' => ?_⟩
  · rw [t1 (by omega), hnum, Int.toNat_natCast, if_pos ⟨rfl, by omega, by omega⟩, t2 (by omega), str_sbL, Nat.add_assoc]
  · by_cases hc : a + 2 ≤ k
    · rw [t1 hc, hnum, Int.toNat_natCast, if_neg (by omega)]
      exact iv_cl ha true rfl
    · rw [if_neg (by omega)]
      exact iv_cl ha true rfl
theorem RdB.lst' {γ : Type} {r : RD α} (B : γ → List Int) (g : γ → α) (hk : Kps p r) : ∀ (l : List γ) (acc : List α), (∀ x ∈ l, RdB p r (B x) (g x)) → RdB p (lst r l.length acc) (l.flatMap B) (acc ++ l.map g)
  | [], acc, h => by
    simp only [List.map_nil, List.append_nil, List.flatMap_nil]
    exact RdB.pr acc
  | x :: l, acc, h => by
    have h1 := RdB.lst' B g hk l (acc ++ [g x]) (fun y hy => h y (List.mem_cons_of_mem _ hy))
    rw [List.append_assoc] at h1
    exact (h x (List.mem_cons_self ..)).bd' (h1.fb' _) (fun z => Kps.fb' _ (hk.lst' _ _))
theorem RdB.listR' {γ : Type} {r : RD α} {most : Int} (B : γ → List Int) (g : γ → α) (hk : Kps p r) (l : List γ) (h : ∀ x ∈ l, RdB p r (B x) (g x)) (hm : (l.length : Int) ≤ most) (hl : l.length ≤ 65535) :
    RdB p (listR most r) (be l.length 2 ++ l.flatMap B) (l.map g) :=
  (RdB.cntR' (by omega) hm (by omega)).bd' (by have := RdB.lst' B g hk l [] h; rw [List.nil_append] at this; rw [Int.toNat_natCast]; exact this) (fun z => hk.lst' _ _)
end

theorem sy_a (s : St) : (sy s).a = s.a ∧ (sy s).f = s.f := by unfold sy; (repeat' split) <;> exact ⟨rfl, rfl⟩
theorem sy_of {s : St} (h : s.e ≠ 0) : sy s = s := by simp [sy, h]
theorem sy_bad {s : St} (h : bad s = true) : (sy s).e ≠ 0 := by simpa [bad] using h
theorem sy_ok {s : St} (h : bad s = false) : (sy s).e = 0 := by simpa [bad] using h
theorem bad_of {s : St} (h : s.e ≠ 0) : bad s = true := by simp [bad, sy, h]
theorem fl_e (s : St) {e : Int} (he : e ≠ 0) (p : Nat) : (fl s e p).e ≠ 0 := by
  unfold fl
  split
  · next h => exact sy_bad h
  · exact he
def preR : RD Cls := bd iR fun m => if m = 1396851505 then bd (listR 500 rtxR) fun P => fb noC (clsR P) else fun _ s => (noC, fl s 7 0)
def pstR (c : Cls) : RD Cls := fb noC (bd (oneR c) fun c => fb noC fun _ s => (c, s))
def decR : RD Cls := bd preR pstR
theorem Kps.preR' {p : Nat} : Kps p preR := Kps.iR'.bd' fun m => by
  split
  · exact (Kps.rtxR'.listR' _).bd' fun P => Kps.fb' _ (Kps.clsR' P)
  · intro q bs s hp h
    exact h.fl' (by omega) (Nat.zero_le _)
theorem Kps.pstR' {p : Nat} (c : Cls) : Kps p (pstR c) := Kps.fb' _ ((Kps.oneR' c).bd' fun c => Kps.fb' _ (Kps.pr _))
theorem Kps.decR' {p : Nat} : Kps p decR := Kps.preR'.bd' Kps.pstR'
theorem dec_iv (bs : List Int) : Iv False bs.length (decR bs (cl 0)).2 := Kps.decR' (p := 0) False bs (cl 0) (Nat.zero_le _) ⟨Nat.zero_le _, Nat.zero_le _, Or.inl rfl, False.elim⟩
/-- What was read without a fault is what is written of it. -/
theorem pst_ok (c : Cls) (bs : List Int) (s : St) (h : (pstR c bs s).2.e = 0) : (pstR c bs s).1 = c ∧ encA c = bs := by
  unfold pstR at h ⊢
  unfold fb at h ⊢
  split at h
  · next hb => exact absurd h (sy_bad hb)
  next hb =>
  rw [if_neg hb]
  unfold bd oneR at h ⊢
  dsimp only at h ⊢
  by_cases he : encA c = bs
  · rw [if_pos he] at h ⊢
    by_cases hb2 : bad (sy s) = true
    · rw [if_pos hb2] at h
      exact absurd h (sy_bad hb2)
    · rw [if_neg hb2]
      exact ⟨rfl, he⟩
  · rw [if_neg he, if_pos (bad_of (fl_e _ (by decide) _))] at h
    exact absurd h (sy_bad (bad_of (fl_e _ (by decide) _)))
theorem dec_ok (bs : List Int) (h : (decR bs (cl 0)).2.e = 0) : (decR bs (cl 0)).1 = (preR bs (cl 0)).1 ∧ encA (decR bs (cl 0)).1 = bs := by
  obtain ⟨h1, h2⟩ := pst_ok _ _ _ h
  refine ⟨h1, ?_⟩
  have h1' : (decR bs (cl 0)).1 = _ := h1
  rw [h1']
  exact h2
theorem pst_bad (c : Cls) (bs : List Int) (s : St) (h : (pstR c bs s).2.e ≠ 0) : (pstR c bs s).1 = noC := by
  unfold pstR fb at h ⊢
  split
  · rfl
  next hb =>
  rw [if_neg hb] at h
  unfold bd at h ⊢
  dsimp only at h ⊢
  split
  · rfl
  next hb2 =>
  rw [if_neg hb2] at h
  exact absurd (sy_ok (by simpa using hb2)) h
theorem dec_bad (bs : List Int) (h : (decR bs (cl 0)).2.e ≠ 0) : (decR bs (cl 0)).1 = noC := pst_bad _ _ _ h
theorem dec_ne (bs : List Int) (h : (decR bs (cl 0)).2.e = 0) : bs ≠ [] := by
  rintro rfl
  apply absurd h
  unfold decR bd pstR fb
  have e1 : preR [] (cl 0) = (noC, fl ⟨0, true, 0, 0⟩ 7 0) := by simp [preR, bd, iR, nR, sgn]
  rw [e1]
  dsimp only
  rw [if_pos (bad_of (fl_e _ (by decide) _))]
  exact sy_bad (bad_of (fl_e _ (by decide) _))
theorem dec_enc (bs : List Int) (h : (decR bs (cl 0)).2.e = 0) : chkE (decR bs (cl 0)).1 = 0 ∧ encB (decR bs (cl 0)).1 = bs := by
  have h1 := (dec_ok bs h).2
  have h2 := dec_ne bs h
  unfold encA at h1
  split at h1
  · next hc => exact ⟨hc, h1⟩
  · exact absurd h1.symm h2

def ownM (m : Mth) : Mth := { m with code := m.code.map own }
def ownC (c : Cls) : Cls := { c with me := c.me.map ownM }
section
variable {p : Nat} {L : List (List UInt8)}
theorem RdB.fld (hL : L.length ≤ 65535) (f : Fld) (ht : ∀ t ∈ fldX f, t ∈ L) (he : fldE f = 0) : RdB p (fun bs => fldR bs (L.map ms)) (fldB L f) f := by
  rw [fldR_bd]
  have h1 : bl f.n ∈ L := ht _ (by simp [fldX])
  have h2 : bl f.d ∈ L := ht _ (by simp [fldX])
  exact RdB.hd' fun p => RdB.of ((RdB.txtR' hL h1).bd' ((RdB.txtR' hL h2).bd' ((RdB.yesR' f.st).bd' (RdB.mst' f he p) (fun z => Kps.mst' _ (fldE_rg _))) (fun z => Kps.yesR'.bd' fun _ => Kps.mst' _ (fldE_rg _)))
    (fun z => (Kps.txtR' _).bd' fun _ => Kps.yesR'.bd' fun _ => Kps.mst' _ (fldE_rg _))) (by simp [fldB, List.append_assoc])
theorem RdB.hnd (hL : L.length ≤ 65535) (h : Hnd) (hk : HOk h) (ht : ∀ t ∈ hndX h, t ∈ L) : RdB p (fun bs => hndR bs (L.map ms)) (hndB L h) h := by
  rw [hndR_bd]
  have h1 : bl h.c ∈ L := ht _ (by simp [hndX])
  exact RdB.of ((RdB.nR' 2 (num_be2 hk.fr)).bd' ((RdB.nR' 2 (num_be2 hk.to)).bd' ((RdB.nR' 2 (num_be2 hk.pl)).bd' ((RdB.txtR' hL h1).bd' (RdB.pr h) (fun z => Kps.pr _)) (fun z => (Kps.txtR' _).bd' fun _ => Kps.pr _))
    (fun z => (Kps.nR' _).bd' fun _ => (Kps.txtR' _).bd' fun _ => Kps.pr _)) (fun z => (Kps.nR' _).bd' fun _ => (Kps.nR' _).bd' fun _ => (Kps.txtR' _).bd' fun _ => Kps.pr _)) (by simp [hndB])
theorem insX_flat (x : Ins) : (insX x).flatMap (pB L) = (if sC (kd (ix x.op)) then pB L (bl x.c) else []) ++ ((if sN (kd (ix x.op)) then pB L (bl x.n) else []) ++ ((if sD (kd (ix x.op)) then pB L (bl x.d) else []) ++ [])) := by
  unfold insX pickL
  cases sC (kd (ix x.op)) <;> cases sN (kd (ix x.op)) <;> cases sD (kd (ix x.op)) <;> simp
theorem RdB.ins (hL : L.length ≤ 65535) (x : Ins) (hx : InsOk x) (hk : kd (ix x.op) ≠ 0) (ht : ∀ t ∈ insX x, t ∈ L) : RdB p (fun bs => insR bs (L.map ms)) (insB L x) (own x) := by
  rw [insR_bd]
  have h1 : sC (kd (ix x.op)) = true → bl x.c ∈ L := fun e => ht _ (by simp [insX, pickL, e])
  have h2 : sN (kd (ix x.op)) = true → bl x.n ∈ L := fun e => ht _ (by simp [insX, pickL, e])
  have h3 : sD (kd (ix x.op)) = true → bl x.d ∈ L := fun e => ht _ (by simp [insX, pickL, e])
  refine RdB.hd' fun p => RdB.of ((RdB.nR' (n := x.op) 1 (num_be1 hx.op)).bd' (t := fun op => insD (L.map ms) p op) (y := own x) (Y := (if sA (kd (ix x.op)) then be x.a 4 else []) ++ ((if sB (kd (ix x.op)) then be x.b 4 else []) ++ (insX x).flatMap (pB L))) ?_ (fun z => Kps.insD' _ _)) rfl
  unfold insD
  rw [if_neg hk, insX_flat]
  exact (RdB.opt' _ _ fun e => RdB.iR' (hx.a e)).bd' ((RdB.opt' _ _ fun e => RdB.iR' (hx.b e)).bd' ((RdB.opt' _ _ fun e => RdB.txtR' hL (h1 e)).bd' ((RdB.opt' _ _ fun e => RdB.txtR' hL (h2 e)).bd' ((RdB.opt' _ _ fun e => RdB.txtR' hL (h3 e)).bd' (RdB.pr (own x))
    (fun z => Kps.pr _)) (fun z => ((Kps.txtR' _).opt' _ _).bd' fun _ => Kps.pr _)) (fun z => ((Kps.txtR' _).opt' _ _).bd' fun _ => ((Kps.txtR' _).opt' _ _).bd' fun _ => Kps.pr _))
    (fun z => ((Kps.txtR' _).opt' _ _).bd' fun _ => ((Kps.txtR' _).opt' _ _).bd' fun _ => ((Kps.txtR' _).opt' _ _).bd' fun _ => Kps.pr _))
    (fun z => (Kps.iR'.opt' _ _).bd' fun _ => ((Kps.txtR' _).opt' _ _).bd' fun _ => ((Kps.txtR' _).opt' _ _).bd' fun _ => ((Kps.txtR' _).opt' _ _).bd' fun _ => Kps.pr _)
theorem RdB.mth (hL : L.length ≤ 65535) (m : Mth) (hm : MOk m) (hk : ∀ x ∈ m.code, kd (ix x.op) ≠ 0) (ht : ∀ t ∈ mthX m, t ∈ L) (he : mthE (ownM m) = 0) : RdB p (mthR (L.map ms)) (mthB L m) (ownM m) := by
  have h1 : bl m.n ∈ L := ht _ (by simp [mthX])
  have h2 : bl m.d ∈ L := ht _ (by simp [mthX])
  have h3 : ∀ x ∈ m.code, ∀ t ∈ insX x, t ∈ L := fun x hx t h => ht _ (by simp only [mthX, List.mem_append, List.mem_flatMap]; exact Or.inr (Or.inl ⟨x, hx, h⟩))
  have h4 : ∀ x ∈ m.hs, ∀ t ∈ hndX x, t ∈ L := fun x hx t h => ht _ (by simp only [mthX, List.mem_append, List.mem_flatMap]; exact Or.inr (Or.inr ⟨x, hx, h⟩))
  have hc := hm.cl
  have hh := hm.hl
  have kM : ∀ (p : Nat) (x : Nat → List Hnd → Mth), ∀ z, Kps p (mst (x p z) (mthE (x p z)) p) := fun p x z => Kps.mst' _ (mthE_rg _)
  refine RdB.hd' fun p => RdB.of ((RdB.txtR' hL h1).bd' ((RdB.txtR' hL h2).bd' ((RdB.yesR' m.st).bd' ((RdB.yesR' m.ab).bd' ((RdB.nR' 1 (num_be1 hm.sk)).bd' ((RdB.nR' 1 (num_be1 hm.lo)).bd'
    ((RdB.listR' (insB L) own (Kps.insR' _) m.code (fun x hx => RdB.ins hL x (hm.code x hx) (hk x hx) (h3 x hx)) (by omega) (by omega)).bd' (RdB.fb' _
      ((RdB.listR' (hndB L) id (Kps.hndR' _) m.hs (fun x hx => RdB.hnd hL x (hm.hs x hx) (h4 x hx)) (by omega) (by omega)).bd' (y := ownM m) (Y := []) ?_ (fun z => Kps.mst' _ (mthE_rg _))))
      ?_) ?_) ?_) ?_) ?_) ?_) ?_) ?_
  · rw [List.map_id]
    exact RdB.mst' (ownM m) he p
  · exact fun z => Kps.fb' _ (((Kps.hndR' _).listR' _).bd' fun hs => Kps.mst' _ (mthE_rg _))
  · exact fun z => ((Kps.insR' _).listR' _).bd' fun co => Kps.fb' _ (((Kps.hndR' _).listR' _).bd' fun hs => Kps.mst' _ (mthE_rg _))
  · exact fun z => (Kps.nR' 1).bd' fun lo => ((Kps.insR' _).listR' _).bd' fun co => Kps.fb' _ (((Kps.hndR' _).listR' _).bd' fun hs => Kps.mst' _ (mthE_rg _))
  · exact fun z => (Kps.nR' 1).bd' fun sk => (Kps.nR' 1).bd' fun lo => ((Kps.insR' _).listR' _).bd' fun co => Kps.fb' _ (((Kps.hndR' _).listR' _).bd' fun hs => Kps.mst' _ (mthE_rg _))
  · exact fun z => Kps.yesR'.bd' fun ab => (Kps.nR' 1).bd' fun sk => (Kps.nR' 1).bd' fun lo => ((Kps.insR' _).listR' _).bd' fun co => Kps.fb' _ (((Kps.hndR' _).listR' _).bd' fun hs => Kps.mst' _ (mthE_rg _))
  · exact fun z => Kps.yesR'.bd' fun st => Kps.yesR'.bd' fun ab => (Kps.nR' 1).bd' fun sk => (Kps.nR' 1).bd' fun lo => ((Kps.insR' _).listR' _).bd' fun co => Kps.fb' _ (((Kps.hndR' _).listR' _).bd' fun hs => Kps.mst' _ (mthE_rg _))
  · exact fun z => (Kps.txtR' _).bd' fun d => Kps.yesR'.bd' fun st => Kps.yesR'.bd' fun ab => (Kps.nR' 1).bd' fun sk => (Kps.nR' 1).bd' fun lo => ((Kps.insR' _).listR' _).bd' fun co => Kps.fb' _ (((Kps.hndR' _).listR' _).bd' fun hs => Kps.mst' _ (mthE_rg _))
  · simp [mthB, List.append_assoc]
end

section
variable {p : Nat} {L : List (List UInt8)}
theorem RdB.cls (hL : L.length ≤ 65535) (c : Cls) (hc : COk c) (hf : ∀ f ∈ c.fs, fldE f = 0) (hk : ∀ m ∈ c.me, ∀ x ∈ m.code, kd (ix x.op) ≠ 0) (ht : ∀ t ∈ clsX c, t ∈ L) (hm : ∀ m ∈ c.me, mthE (ownM m) = 0)
    (he : hdE ⟨c.n, c.s, c.it, c.ab, c.im, [], []⟩ = 0) : RdB p (clsR (L.map ms)) (clsB L c) (ownC c) := by
  have h1 : bl c.n ∈ L := ht _ (by simp [clsX])
  have h2 : bl c.s ∈ L := ht _ (by simp [clsX])
  have h3 : ∀ x ∈ c.im, bl x ∈ L := fun x hx => ht _ (by simp only [clsX, List.mem_append, List.mem_map]; exact Or.inr (Or.inl ⟨x, hx, rfl⟩))
  have h4 : ∀ x ∈ c.fs, ∀ t ∈ fldX x, t ∈ L := fun x hx t h => ht _ (by simp only [clsX, List.mem_append, List.mem_flatMap]; exact Or.inr (Or.inr (Or.inl ⟨x, hx, h⟩)))
  have h5 : ∀ x ∈ c.me, ∀ t ∈ mthX x, t ∈ L := fun x hx t h => ht _ (by simp only [clsX, List.mem_append, List.mem_flatMap]; exact Or.inr (Or.inr (Or.inr ⟨x, hx, h⟩)))
  have hi := hc.il
  have hfl := hc.fl
  have hml := hc.ml
  refine RdB.hd' fun p => RdB.of ((RdB.txtR' hL h1).bd' ((RdB.txtR' hL h2).bd' ((RdB.yesR' c.it).bd' ((RdB.yesR' c.ab).bd'
    ((RdB.listR' (fun s => pB L (bl s)) id (Kps.txtR' _) c.im (fun x hx => RdB.txtR' hL (h3 x hx)) (by omega) (by omega)).bd' (y := ownC c) (Y := be c.fs.length 2 ++ (c.fs.flatMap (fldB L) ++ (be c.me.length 2 ++ c.me.flatMap (mthB L)))) ?_ ?_) ?_) ?_) ?_) ?_) ?_
  · rw [List.map_id]
    refine RdB.of ((RdB.mst' () he p).bd' (RdB.fb' _ ((RdB.listR' (fldB L) id (Kps.fldR' _) c.fs (fun x hx => RdB.fld hL x (h4 x hx) (hf x hx)) (by omega) (by omega)).bd' (RdB.fb' _
      ((RdB.listR' (mthB L) ownM (Kps.mthR' _) c.me (fun x hx => RdB.mth hL x (hc.me x hx) (hk x hx) (h5 x hx) (hm x hx)) (by omega) (by omega)).bd' (y := ownC c) (Y := []) ?_ (fun z => Kps.pr _))) ?_)) ?_) ?_
    · rw [List.map_id]
      exact RdB.pr _
    · exact fun z => Kps.fb' _ (((Kps.mthR' _).listR' _).bd' fun me => Kps.pr _)
    · exact fun z => Kps.fb' _ (((Kps.fldR' _).listR' _).bd' fun fs => Kps.fb' _ (((Kps.mthR' _).listR' _).bd' fun me => Kps.pr _))
    · simp [List.append_assoc]
  · exact fun im => (Kps.mst' _ (hdE_rg _)).bd' fun _ => Kps.fb' _ (((Kps.fldR' _).listR' _).bd' fun fs => Kps.fb' _ (((Kps.mthR' _).listR' _).bd' fun me => Kps.pr _))
  · exact fun ab => ((Kps.txtR' _).listR' _).bd' fun im => (Kps.mst' _ (hdE_rg _)).bd' fun _ => Kps.fb' _ (((Kps.fldR' _).listR' _).bd' fun fs => Kps.fb' _ (((Kps.mthR' _).listR' _).bd' fun me => Kps.pr _))
  · exact fun it => Kps.yesR'.bd' fun ab => ((Kps.txtR' _).listR' _).bd' fun im => (Kps.mst' _ (hdE_rg _)).bd' fun _ => Kps.fb' _ (((Kps.fldR' _).listR' _).bd' fun fs => Kps.fb' _ (((Kps.mthR' _).listR' _).bd' fun me => Kps.pr _))
  · exact fun su => Kps.yesR'.bd' fun it => Kps.yesR'.bd' fun ab => ((Kps.txtR' _).listR' _).bd' fun im => (Kps.mst' _ (hdE_rg _)).bd' fun _ => Kps.fb' _ (((Kps.fldR' _).listR' _).bd' fun fs => Kps.fb' _ (((Kps.mthR' _).listR' _).bd' fun me => Kps.pr _))
  · exact fun n => (Kps.txtR' _).bd' fun su => Kps.yesR'.bd' fun it => Kps.yesR'.bd' fun ab => ((Kps.txtR' _).listR' _).bd' fun im => (Kps.mst' _ (hdE_rg _)).bd' fun _ => Kps.fb' _ (((Kps.fldR' _).listR' _).bd' fun fs => Kps.fb' _ (((Kps.mthR' _).listR' _).bd' fun me => Kps.pr _))
  · simp [clsB, List.append_assoc, List.flatMap_map]
end
theorem RdB.pre {p : Nat} (c : Cls) (hc : COk c) (hf : ∀ f ∈ c.fs, fldE f = 0) (hk : ∀ m ∈ c.me, ∀ x ∈ m.code, kd (ix x.op) ≠ 0) (hm : ∀ m ∈ c.me, mthE (ownM m) = 0)
    (he : hdE ⟨c.n, c.s, c.it, c.ab, c.im, [], []⟩ = 0) (ht : ∀ t ∈ clsX c, t ∈ poolL c) (hP : (poolL c).length ≤ 500) (hs : ∀ t ∈ poolL c, t.length ≤ 65535) : RdB p preR (encB c) (ownC c) := by
  unfold preR encB headB
  rw [List.append_assoc]
  refine (RdB.iR' (by decide)).bd' ?_ ?_
  · rw [if_pos rfl]
    exact (RdB.listR' txB ms Kps.rtxR' (poolL c) (fun x hx => RdB.rtxR' (hs x hx)) (by omega) (by omega)).bd' (RdB.fb' _ (RdB.cls (by omega) c hc hf hk ht hm he)) (fun z => Kps.fb' _ (Kps.clsR' _))
  · intro m
    split
    · exact (Kps.rtxR'.listR' _).bd' fun P => Kps.fb' _ (Kps.clsR' P)
    · intro q bs s hp h
      exact h.fl' (by omega) (Nat.zero_le _)
theorem has_all (E : List Int) : Has E 0 E := ⟨[], by simp⟩
section
variable {c : Cls}
/-- What was written is read, with the fields alone that stand there. -/
theorem dec_back (hpre : RdB 0 preR (encB c) (ownC c)) (h1 : chkE (ownC c) = 0) (h2 : encB (ownC c) = encB c) : decR (encB c) (cl 0) = (ownC c, cl (encB c).length) := by
  have h := (hpre (encB c) 0 (encB c).length (has_all _) (Nat.zero_le _) (Nat.zero_le _) (Nat.le_refl _)).1 (by omega)
  rw [List.take_length, Nat.zero_add] at h
  unfold decR bd
  rw [h]
  unfold pstR fb
  dsimp only
  rw [bad_cl, sy_cl]
  unfold bd oneR
  have : encA (ownC c) = encB c := by rw [encA, if_pos h1, h2]
  simp [this, bad_cl, sy_cl]
/-- Cut short, it is too short. -/
theorem dec_cut (hpre : RdB 0 preR (encB c) (ownC c)) (k : Nat) (hk : k < (encB c).length) : (decR ((encB c).take k) (cl 0)).2.e = 2 ∧ (decR ((encB c).take k) (cl 0)).2.ea ≤ k := by
  have h := (hpre (encB c) 0 k (has_all _) (Nat.zero_le _) (Nat.zero_le _) (by omega)).2 (by omega)
  have hlen : ((encB c).take k).length = k := by simp; omega
  have h3 : Iv True k (decR ((encB c).take k) (cl 0)).2 := by
    have := Kps.pstR' (p := 0) (preR ((encB c).take k) (cl 0)).1 True ((encB c).take k) (preR ((encB c).take k) (cl 0)).2 (Nat.zero_le _) (by rw [hlen]; exact h)
    rw [hlen] at this
    exact this
  refine ⟨?_, h3.ea⟩
  have hb : bad (preR ((encB c).take k) (cl 0)).2 = true := by
    obtain ⟨g1, g2⟩ := h.q trivial
    unfold bad sy
    rcases g2 with g2 | g2 <;> simp [g1, g2]
  have e1 : (decR ((encB c).take k) (cl 0)).2 = sy (preR ((encB c).take k) (cl 0)).2 := by
    unfold decR bd pstR fb
    rw [if_pos hb]
  have e2 : (decR ((encB c).take k) (cl 0)).2.e ≠ 0 := by rw [e1]; exact sy_bad hb
  rcases (h3.q trivial).2 with g | g
  · exact absurd g e2
  · exact g
end
def wt (l : List ByteArray) : Nat := (l.map fun t => t.size + 2).sum
theorem wt_app (a b : List ByteArray) : wt (a ++ b) = wt a + wt b := by simp [wt]
theorem lst_wt (bs : List Int) : ∀ n acc s, wt (lst rtxR n acc bs s).1 + s.a ≤ wt acc + (lst rtxR n acc bs s).2.a
  | 0, acc, s => Nat.le_refl _
  | n + 1, acc, s => by
    have hr : s.a ≤ (rtxR bs s).2.a ∧ (bad (rtxR bs s).2 = false → (rtxR bs s).1.size + 2 + s.a ≤ (rtxR bs s).2.a) := by
      unfold rtxR
      split
      · refine ⟨by simp; omega, fun _ => ?_⟩
        dsimp only
        rw [strOfNums_size, List.length_take]
        omega
      · exact ⟨Nat.le_refl _, fun h => by unfold bad sy at h; simp at h; split at h <;> simp_all⟩
    unfold lst bd fb
    dsimp only
    split
    · rw [(sy_a _).1]
      have := hr.1
      simp only [wt, List.map_nil, List.sum_nil]
      omega
    · next hb =>
      have h1 := lst_wt bs n (acc ++ [(rtxR bs s).1]) (sy (rtxR bs s).2)
      have h2 := hr.2 (by simpa using hb)
      rw [wt_app, (sy_a _).1] at h1
      have h3 : wt [(rtxR bs s).1] = (rtxR bs s).1.size + 2 := by simp [wt]
      try dsimp only at h1 ⊢
      omega
theorem cntR_a (bs : List Int) (m : Int) (s : St) : s.a ≤ (cntR bs m s).2.a := by
  have h : s.a ≤ (nR bs 2 s).2.a := by unfold nR; split <;> simp
  unfold cntR
  split
  · exact h
  · rw [(fl_a _ _ _).1]; exact h
theorem pool_wt (bs : List Int) (m : Int) (s : St) (h : Iv False bs.length s) : wt (listR m rtxR bs s).1 ≤ bs.length := by
  have h1 := lst_wt bs (cntR bs m s).1.toNat [] (cntR bs m s).2
  have h2 := cntR_a bs m s
  have h3 := (Kps.rtxR'.listR' (p := 0) m False bs s (Nat.zero_le _) h).a
  unfold listR bd at h3 ⊢
  dsimp only at h1 h3 ⊢
  have : wt [] = 0 := rfl
  omega

end Go.Proofs.YtdalibfgkkgcpaaGreat
namespace Go.Proofs.YtdalibfgkkgcpaaGreat
open Go.RowKit
set_option linter.unusedVariables false

/- Bytes. -/
def Sm (l : List Int) : Prop := ∀ x ∈ l, 0 ≤ x ∧ x < 256
theorem Sm.app {a b : List Int} (h : Sm a) (k : Sm b) : Sm (a ++ b) := fun x hx => (List.mem_append.1 hx).elim (h x) (k x)
theorem Sm.nil : Sm [] := fun x hx => by simp at hx
theorem Sm.flat {α : Type} {f : α → List Int} {l : List α} (h : ∀ a ∈ l, Sm (f a)) : Sm (l.flatMap f) := fun x hx => by
  obtain ⟨a, ha, hx⟩ := List.mem_flatMap.1 hx
  exact h a ha x hx
theorem Sm.ite {b : Bool} {l : List Int} (h : Sm l) : Sm (if b then l else []) := by cases b <;> simp [h, Sm.nil]
theorem be_sm (n : Int) : ∀ k, Sm (be n k)
  | 0 => by simp [be, Sm]
  | k + 1 => by
    intro x hx
    simp only [be, List.mem_cons] at hx
    rcases hx with rfl | hx
    · omega
    · exact be_sm n k x hx
theorem sbL_sm (l : List UInt8) : Sm (sbL l) := fun x hx => by
  obtain ⟨b, _, rfl⟩ := List.mem_map.1 hx
  have := b.toNat_lt
  omega
theorem pB_sm (L : List (List UInt8)) (s : List UInt8) : Sm (pB L s) := be_sm _ _
theorem yB_sm (b : Bool) : Sm (yB b) := be_sm _ _
theorem insB_sm (L : List (List UInt8)) (x : Ins) : Sm (insB L x) := (be_sm _ _).app ((be_sm _ _).ite.app ((be_sm _ _).ite.app (Sm.flat fun t _ => pB_sm _ _)))
theorem hndB_sm (L : List (List UInt8)) (x : Hnd) : Sm (hndB L x) := (be_sm _ _).app ((be_sm _ _).app ((be_sm _ _).app (pB_sm _ _)))
theorem fldB_sm (L : List (List UInt8)) (x : Fld) : Sm (fldB L x) := ((pB_sm _ _).app (pB_sm _ _)).app (yB_sm _)
theorem mthB_sm (L : List (List UInt8)) (m : Mth) : Sm (mthB L m) :=
  ((pB_sm _ _).app (pB_sm _ _)).app ((yB_sm _).app ((yB_sm _).app ((be_sm _ _).app ((be_sm _ _).app ((be_sm _ _).app ((Sm.flat fun t _ => insB_sm _ _).app ((be_sm _ _).app (Sm.flat fun t _ => hndB_sm _ _))))))))
theorem encB_sm (c : Cls) : Sm (encB c) :=
  ((be_sm _ _).app ((be_sm _ _).app (Sm.flat fun t _ => (be_sm _ _).app (sbL_sm _)))).app
    (((pB_sm _ _).app (pB_sm _ _)).app ((yB_sm _).app ((yB_sm _).app ((be_sm _ _).app ((Sm.flat fun t _ => pB_sm _ _).app ((be_sm _ _).app ((Sm.flat fun t _ => fldB_sm _ _).app ((be_sm _ _).app (Sm.flat fun t _ => mthB_sm _ _)))))))))
theorem encA_sm (c : Cls) : Sm (encA c) := by
  unfold encA
  split
  · exact encB_sm c
  · exact Sm.nil
theorem byte_inj : ∀ {a b : List Int}, Sm a → Sm b → a.map (fun n => UInt8.ofNat n.toNat) = b.map (fun n => UInt8.ofNat n.toNat) → a = b
  | [], [], _, _, _ => rfl
  | [], _ :: _, _, _, h => by simp at h
  | _ :: _, [], _, _, h => by simp at h
  | x :: a, y :: b, ha, hb, h => by
    simp only [List.map_cons, List.cons.injEq] at h
    have h1 := ha x (List.mem_cons_self ..)
    have h2 := hb y (List.mem_cons_self ..)
    have h3 : (UInt8.ofNat x.toNat).toNat = (UInt8.ofNat y.toNat).toNat := by rw [h.1]
    simp only [UInt8.toNat_ofNat'] at h3
    have e : x = y := by omega
    rw [e, byte_inj (fun z hz => ha z (List.mem_cons_of_mem _ hz)) (fun z hz => hb z (List.mem_cons_of_mem _ hz)) h.2]
theorem str_inj {a b : List Int} (ha : Sm a) (hb : Sm b) (h : strOfNums a = strOfNums b) : a = b := by
  refine byte_inj ha hb ?_
  have := congrArg (fun s : ByteArray => s.data.toList) h
  simpa [strOfNums] using this

/- What is read of a pool. -/
structure MRd (Q : ByteArray → Prop) (m : Mth) : Prop where
  n : Q m.n
  d : Q m.d
  code : ∀ x ∈ m.code, Q x.c ∧ Q x.n ∧ Q x.d
  hs : ∀ x ∈ m.hs, Q x.c
  cl : m.code.length ≤ 200
  hl : m.hs.length ≤ 20
structure CRd (Q : ByteArray → Prop) (c : Cls) : Prop where
  n : Q c.n
  s : Q c.s
  im : ∀ x ∈ c.im, Q x
  fs : ∀ x ∈ c.fs, Q x.n ∧ Q x.d
  me : ∀ x ∈ c.me, MRd Q x
  il : c.im.length ≤ 30
  fl : c.fs.length ≤ 20
  ml : c.me.length ≤ 20
section
variable {Q : ByteArray → Prop} {P : List ByteArray}
theorem mthR_all (q0 : Q ⟨#[]⟩) (hP : ∀ t ∈ P, Q t) (bs : List Int) (s : St) : MRd Q (mthR P bs s).1 := by
  have hc := fun s => listR_all (r := fun bs => insR bs P) (bs := bs) (200 : Nat) (fun x : Ins => Q x.c ∧ Q x.n ∧ Q x.d) (fun s0 => insR_all Q q0 hP bs s0) s
  have hl := fun s => listR_len (fun bs => insR bs P) bs 200 s
  have hh := fun s => listR_all (r := fun bs => hndR bs P) (bs := bs) (20 : Nat) (fun x : Hnd => Q x.c) (fun s0 => hndR_all Q q0 hP bs s0) s
  have hk := fun s => listR_len (fun bs => hndR bs P) bs 20 s
  have ht := fun s => txtR_all Q q0 hP bs s
  unfold mthR hdr bd fb mst
  dsimp only
  split
  · exact ⟨ht _, ht _, hc _, by simp, hl _, by simp⟩
  · exact ⟨ht _, ht _, hc _, hh _, hl _, hk _⟩
theorem clsR_all (q0 : Q ⟨#[]⟩) (hP : ∀ t ∈ P, Q t) (bs : List Int) (s : St) : CRd Q (clsR P bs s).1 := by
  have hi := fun s => listR_all (r := fun bs => txtR bs P) (bs := bs) (30 : Nat) Q (fun s0 => txtR_all Q q0 hP bs s0) s
  have hil := fun s => listR_len (fun bs => txtR bs P) bs 30 s
  have hf := fun s => listR_all (r := fun bs => fldR bs P) (bs := bs) (20 : Nat) (fun x : Fld => Q x.n ∧ Q x.d) (fun s0 => ⟨txtR_all Q q0 hP bs _, txtR_all Q q0 hP bs _⟩) s
  have hfl := fun s => listR_len (fun bs => fldR bs P) bs 20 s
  have hm := fun s => listR_all (r := mthR P) (bs := bs) (20 : Nat) (MRd Q) (fun s0 => mthR_all q0 hP bs s0) s
  have hml := fun s => listR_len (mthR P) bs 20 s
  have ht := fun s => txtR_all Q q0 hP bs s
  unfold clsR hdr bd mst fb
  dsimp only
  split
  · exact ⟨ht _, ht _, hi _, by simp, by simp, hil _, by simp, by simp⟩
  · split
    · exact ⟨ht _, ht _, hi _, hf _, by simp, hil _, hfl _, by simp⟩
    · exact ⟨ht _, ht _, hi _, hf _, hm _, hil _, hfl _, hml _⟩
end
theorem CRd.mem {Q : ByteArray → Prop} {c : Cls} (h : CRd Q c) {t : List UInt8} (ht : t ∈ clsX c) : ∃ b, t = bl b ∧ Q b := by
  have hp : ∀ (b : Bool) (s : ByteArray), t ∈ pickL b s → t = bl s := fun b s hs => by cases b <;> simp [pickL] at hs; exact hs
  simp only [clsX, List.mem_append, List.mem_cons, List.not_mem_nil, or_false, List.mem_map, List.mem_flatMap] at ht
  rcases ht with (rfl | rfl) | ⟨x, hx, rfl⟩ | ⟨f, hf, ht⟩ | ⟨m, hm, ht⟩
  · exact ⟨_, rfl, h.n⟩
  · exact ⟨_, rfl, h.s⟩
  · exact ⟨_, rfl, h.im x hx⟩
  · simp only [fldX, List.mem_cons, List.not_mem_nil, or_false] at ht
    rcases ht with rfl | rfl
    · exact ⟨_, rfl, (h.fs f hf).1⟩
    · exact ⟨_, rfl, (h.fs f hf).2⟩
  · have hM := h.me m hm
    simp only [mthX, List.mem_append, List.mem_cons, List.not_mem_nil, or_false, List.mem_flatMap] at ht
    rcases ht with (rfl | rfl) | ⟨x, hx, ht⟩ | ⟨x, hx, ht⟩
    · exact ⟨_, rfl, hM.n⟩
    · exact ⟨_, rfl, hM.d⟩
    · have hI := hM.code x hx
      simp only [insX, List.mem_append] at ht
      rcases ht with ht | ht | ht
      · exact ⟨_, hp _ _ ht, hI.1⟩
      · exact ⟨_, hp _ _ ht, hI.2.1⟩
      · exact ⟨_, hp _ _ ht, hI.2.2⟩
    · simp only [hndX, List.mem_cons, List.not_mem_nil, or_false] at ht
      exact ⟨_, ht, hM.hs x hx⟩
theorem mthX_le (Q : ByteArray → Prop) (m : Mth) (h : MRd Q m) : (mthX m).length ≤ 622 := by
  have h1 := flat_le' insX 3 m.code (fun x _ => insX_le x)
  have h2 := flat_le' hndX 1 m.hs (fun x _ => by simp [hndX])
  have := h.cl
  have := h.hl
  unfold mthX
  simp only [List.length_append, List.length_cons, List.length_nil]
  omega
theorem CRd.fine {c : Cls} (h : CRd (fun t => t.size ≤ 65535) c) : Fine c := by
  refine ⟨Nat.le_trans h.n (by omega), Nat.le_trans h.s (by omega), fun x hx => Nat.le_trans (h.im x hx) (by omega), fun x hx => by have := h.fs x hx; omega, fun m hm => ?_, ?_⟩
  · have hM := h.me m hm
    exact ⟨Nat.le_trans hM.n (by omega), Nat.le_trans hM.d (by omega), fun x hx => by have := hM.code x hx; omega, fun x hx => Nat.le_trans (hM.hs x hx) (by omega)⟩
  · have h1 := flat_le' mthX 622 c.me (fun m hm => mthX_le _ m (h.me m hm))
    have h2 := flat_le' fldX 2 c.fs (fun x _ => by simp [fldX])
    have := h.il
    have := h.fl
    have := h.ml
    unfold clsX
    simp only [List.length_append, List.length_cons, List.length_nil, List.length_map]
    omega
theorem sub_sum : ∀ (L M : List (List UInt8)), L.Nodup → (∀ x ∈ L, x ∈ M ∨ x = []) → (L.map List.length).sum ≤ (M.map List.length).sum
  | [], M, _, _ => by simp
  | x :: L, M, hn, hs => by
    have hn2 := (List.nodup_cons.1 hn)
    rcases hs x (List.mem_cons_self ..) with hx | rfl
    · obtain ⟨A, B, rfl⟩ := List.append_of_mem hx
      have ih := sub_sum L (A ++ B) hn2.2 (fun y hy => by
        rcases hs y (List.mem_cons_of_mem _ hy) with h | h
        · rcases List.mem_append.1 h with h | h
          · exact Or.inl (List.mem_append_left _ h)
          · rcases List.mem_cons.1 h with rfl | h
            · exact absurd hy hn2.1
            · exact Or.inl (List.mem_append_right _ h)
        · exact Or.inr h)
      simp only [List.map_append, List.sum_append, List.map_cons, List.sum_cons] at ih ⊢
      omega
    · have ih := sub_sum L M hn2.2 (fun y hy => hs y (List.mem_cons_of_mem _ hy))
      simpa using ih
/-- What Encode asks of a class, however it came. -/
structure EncF (c : Cls) : Prop where
  fine : Fine c
  txt : ∀ s ∈ poolL c, s.length ≤ 65535
  tot : ((poolL c).map List.length).sum ≤ 95000
theorem encF_small {c : Cls} (h : clsT c ≤ 12000) : EncF c := by
  have hs := poolL_sum c
  exact ⟨fine_of c h, fun s hs' => by have := sum_mem List.length (poolL c) s hs'; omega, by omega⟩
theorem bl_size (t : ByteArray) : (bl t).length = t.size := bl_len t
theorem encF_read {P : List ByteArray} (bs : List Int) (s : St) (hP : ∀ t ∈ P, t.size ≤ 65535) (hw : (P.map fun t => t.size + 2).sum ≤ 90000) : EncF (clsR P bs s).1 := by
  have h1 := clsR_all (Q := fun t => t.size ≤ 65535) (Nat.zero_le _) hP bs s
  have h2 := clsR_all (Q := fun t => t ∈ P ∨ t = ⟨#[]⟩) (Or.inr rfl) (fun t ht => Or.inl ht) bs s
  refine ⟨h1.fine, fun t ht => ?_, ?_⟩
  · obtain ⟨b, rfl, hb⟩ := h1.mem ((poolL_mem _ _).1 ht)
    rw [bl_size]; exact hb
  · refine Nat.le_trans (sub_sum _ (P.map bl) (poolL_nodup _) (fun t ht => ?_)) ?_
    · obtain ⟨b, rfl, hb⟩ := h2.mem ((poolL_mem _ _).1 ht)
      rcases hb with hb | rfl
      · exact Or.inl (List.mem_map_of_mem hb)
      · exact Or.inr rfl
    · have : ∀ P : List ByteArray, ((P.map bl).map List.length).sum ≤ (P.map fun t => t.size + 2).sum := fun P => by
        induction P with
        | nil => simp
        | cons t P ih => simp only [List.map_cons, List.sum_cons, bl_size]; omega
      have := this P
      omega

/-- Bytes as they lie. -/
def Rb (w : World) (v : Value) (bs : List Int) : Prop :=
  (v = .slice none 0 0 ∧ bs = []) ∨ ∃ a cap, v = .slice (some a) bs.length cap ∧ bs.length ≤ cap ∧ cap ≤ 9223372036854775807 ∧ (0 < bs.length → ∃ g off, a = ⟨g, off, none⟩ ∧ ∀ k x, bs[k]? = some x → w.cell? ⟨g, off + k, none⟩ = some (.int .u8 x))
theorem Rb.row {w : World} {v : Value} {bs : List Int} (h : Rb w v bs) : Row w v bs := by
  rcases h with h | ⟨a, cap, hv, _, _, hc⟩
  · exact Or.inl h
  · refine Or.inr ⟨a, cap, hv, fun j u hj => ?_⟩
    rw [List.getElem?_map] at hj
    cases hx : bs[j]? with
    | none => rw [hx] at hj; cases hj
    | some x =>
      obtain ⟨g, off, rfl, hc'⟩ := hc (by have := (List.getElem?_eq_some_iff.1 hx).1; omega)
      rw [hx] at hj
      have hj : Value.int .u8 x = u := by simpa using hj
      rw [← hj]
      have e1 : (⟨g, off, none⟩ : Addr).add j = ⟨g, off + j, none⟩ := by unfold Addr.add; split <;> simp_all
      rw [e1]
      exact hc' j x hx
theorem Rb.keep {w w' : World} {v : Value} {bs : List Int} (h : Rb w v bs) (c : Ch w w') : Rb w' v bs := by
  rcases h with h | ⟨a, cap, hv, h1, h2, hc⟩
  · exact Or.inl h
  · refine Or.inr ⟨a, cap, hv, h1, h2, fun hp => ?_⟩
    obtain ⟨g, off, ha, hc⟩ := hc hp
    exact ⟨g, off, ha, fun k x hx => cell_keep c (hc k x hx)⟩
theorem rb_own {w : World} {base : Nat} {v : Value} {bs : List Int} (h : w.ownsRow base 5 1 v bs.length (bs.map (Value.int .u8))) : Rb w v bs := by
  rcases h.2 with ⟨hv, h0⟩ | ⟨g, cap, cur, hv, hb, hg, hc1, hc2, hc3, ht⟩
  · exact Or.inl ⟨hv, List.eq_nil_of_length_eq_zero h0⟩
  · refine Or.inr ⟨⟨g, 0, none⟩, cap, hv, hc1, by unfold maxLen at hc2; omega, fun _ => ⟨g, 0, rfl, fun k x hx => ?_⟩⟩
    have hk : k < bs.length := (List.getElem?_eq_some_iff.1 hx).1
    have e1 : (cur.toList.take (bs.length * 1))[k]? = some (.int .u8 x) := by rw [ht, List.getElem?_map, hx]; rfl
    rw [List.getElem?_take_of_lt (by omega)] at e1
    simp only [World.cell?, hg, Nat.zero_add]
    simpa using e1
theorem encode_gen (c : Cls) (vi vf vm : Value) (w : World) (h : ClsAt w c vi vf vm) (hE : EncF c) :
    Calls Tryz.prog 9 #[.agg #[.string c.n, .string c.s, .bool c.it, .bool c.ab, vi, vf, vm]] w fun e w' => ∃ v, e = .returned (.tuple #[v, .int .i64 (chkE c)]) ∧ w'.ownsRow w.heap.size 5 1 v (encA c).length ((encA c).map (Value.int .u8)) ∧ Ch w w' := by
  unfold encA
  by_cases hok : chkE c = 0
  · obtain ⟨hC, hP⟩ := cOk_of hok
    rw [if_pos hok, hok]
    refine encode_with c vi vf vm w h hE.fine hok hP hE.txt ?_ (clsB (poolL c) c) (Nat.le_trans (clsB_len _ c hC) (by omega)) ?_
    · rw [txB_sum]; have := hE.tot; omega
    · intro B r M w0 w1 bs hE' hw hB hl
      exact (hE'.cls w hw hB c vi vf vm h hC hE.fine (by omega)).mono fun e w' ⟨h1, h2, _⟩ => ⟨h1, h2⟩
  · rw [if_neg hok]
    refine (encode_no c vi vf vm w h hE.fine _ rfl hok).mono ?_
    rintro e w' ⟨rfl, hc⟩
    exact ⟨_, rfl, World.ownsRow_nil _ _ _ _, hc⟩
end Go.Proofs.YtdalibfgkkgcpaaGreat
