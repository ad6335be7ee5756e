/- A pool of texts, each once: what is added. -/
/- The texts of an instruction. -/
import Derived.Test.YthmepecmeambmaaGreatKKp
import Derived.Deep.RegionHeld
import Derived.Deep.AppendLies
import Derived.Deep.DrawnRows
namespace Go.Proofs.YthmepecmeambmaaGreat
open Go.RowKit
set_option linter.unusedVariables false

/-- The pool at block p: its texts, and the map of their places. -/
structure Po (B : Nat) (w : World) (p M : Nat) (vt : Value) (ts : List (List UInt8)) : Prop where
  blk : w.heap[p]? = some (.cells #[vt, .map (some M)] 281)
  own : w.ownsRow B 9 1 vt ts.length (ts.map strV)
  mp : Mp w M ts
  bp : B ≤ p
  bm : B ≤ M
variable {B p M : Nat} {vt : Value} {ts : List (List UInt8)} {w : World}
theorem Po.c0 (h : Po B w p M vt ts) : w.cell? ⟨p, 0, none⟩ = some vt := by simp [World.cell?, h.blk]
theorem Po.c1 (h : Po B w p M vt ts) : w.cell? ⟨p, 1, none⟩ = some (.map (some M)) := by simp [World.cell?, h.blk]
theorem Po.fz (h : Po B w p M vt ts) (o : Nat) : w.frozen? ⟨p, o, none⟩ = false := by simp [World.frozen?, h.blk]
theorem Po.lt (h : Po B w p M vt ts) : p < w.heap.size := (Array.getElem?_eq_some_iff.1 h.blk).1
theorem Po.keep {w' : World} (h : Po B w p M vt ts) (c : Ch w w') : Po B w' p M vt ts :=
  ⟨kept_at c h.blk, ownsRow_keep h.own c, h.mp.keep (c.block M h.mp.lt), h.bp, h.bm⟩
theorem Po.pm (h : Po B w p M vt ts) : p ≠ M := by
  rintro rfl
  obtain ⟨es, c, he⟩ := h.mp.obj
  rw [h.blk] at he
  simp at he
theorem Po.vp (h : Po B w p M vt ts) : vt.ownBlock ≠ some p := fun e => by
  obtain ⟨_, cur, hc⟩ := own_obj h.own e
  rw [h.blk] at hc
  simp at hc
theorem Po.vm (h : Po B w p M vt ts) : vt.ownBlock ≠ some M := fun e => by
  obtain ⟨_, cur, hc⟩ := own_obj h.own e
  obtain ⟨es, c, he⟩ := h.mp.obj
  rw [he] at hc
  simp at hc
/-- Where a text lies nothing of the pool but its own texts may lie. -/
theorem Po.apart (h : Po B w p M vt ts) {b i : Nat} {x : ByteArray} (hc : w.cell? ⟨b, i, none⟩ = some (.string x)) : b ≠ p ∧ b ≠ M := by
  refine ⟨?_, ?_⟩
  · rintro rfl
    obtain ⟨ao, c, rfl⟩ := own_form h.own
    simp only [World.cell?, h.blk] at hc
    match i, hc with
    | 0, hc => simp at hc
    | 1, hc => simp at hc
    | i + 2, hc => simp at hc
  · rintro rfl
    obtain ⟨es, c, he⟩ := h.mp.obj
    simp [World.cell?, he] at hc

/-- Behind one that is new. -/
theorem Po.push (h : Po B w p M vt ts) {w3 w5 : World} {o : Obj} {v' : Value} {x : List UInt8} (hm : Mp w3 M (ts ++ [x])) (hg3 : w.drew.grownBy w3 (some M))
    (ho5 : w5.ownsRow B 9 1 v' (ts ++ [x]).length ((ts ++ [x]).map strV)) (hg5 : (w3.alloc o).grownBy w5 vt.ownBlock) :
    Po B (w5.setCell ⟨p, 0, none⟩ v') p M v' (ts ++ [x]) ∧ Kp B [9, 281] w (w5.setCell ⟨p, 0, none⟩ v') := by
  have hp3 : w3.heap[p]? = some (.cells #[vt, .map (some M)] 281) := (hg3.block p h.lt (by simpa using h.pm)).trans h.blk
  have hl3 : p < w3.heap.size := (Array.getElem?_eq_some_iff.1 hp3).1
  have hp4 : (w3.alloc o).heap[p]? = some (.cells #[vt, .map (some M)] 281) := (Below.heap_alloc _ _ _ hl3).trans hp3
  have hp5 : w5.heap[p]? = some (.cells #[vt, .map (some M)] 281) := (hg5.block p (by simp; omega) (Ne.symm h.vp)).trans hp4
  have hM3 : w5.heap[M]? = w3.heap[M]? := (hg5.block M (by have := hm.lt; simp; omega) (Ne.symm h.vm)).trans (Below.heap_alloc _ _ _ hm.lt)
  have hne : v'.ownBlock ≠ some p := fun e => by
    obtain ⟨_, cur, hc⟩ := own_obj ho5 e
    rw [hp5] at hc
    simp at hc
  refine ⟨⟨?_, ?_, ?_, h.bp, h.bm⟩, ?_⟩
  · simp [World.setCell, Array.getElem?_modify, hp5]
  · exact ownsRow_same ho5 (fun g hg => Below.heap_setCell _ _ _ _ (fun e => hne (by rw [hg, e])))
  · refine hm.keep ((Below.heap_setCell _ _ _ _ (fun e => h.pm (Eq.symm e))).trans hM3)
  · obtain ⟨es, c, he⟩ := h.mp.obj
    have k1 : Kp B [9, 281] w w3 := (Kp.refl B [9, 281] w).drew.turn h.bm he (fun cs t fr e => by cases e) hg3
    have ho3 : (w3.alloc o).ownsRow B 9 1 vt ts.length (ts.map strV) := by
      refine ownsRow_keep (ownsRow_same h.own (fun g hg => ?_)) ((Ch.refl w3).alloc o)
      exact hg3.block g (h.own.lt g hg).2 (fun e => h.vm (by rw [hg]; exact e))
    exact ((k1.alloc o).grown ho3 (by decide) hg5).turn h.bp hp5 (fun cs t fr e => by simp at e; rw [← e.2.1]; decide) (grown_setCell _ _ _ _)

/-- Texts, each once. -/
def addL : List (List UInt8) → List (List UInt8) → List (List UInt8)
  | ts, [] => ts
  | ts, s :: r => addL (if isIn ts s then ts else ts ++ [s]) r
theorem addL_app : ∀ (a b ts : List (List UInt8)), addL ts (a ++ b) = addL (addL ts a) b
  | [], b, ts => rfl
  | s :: a, b, ts => by rw [List.cons_append, addL, addL, addL_app a b]
theorem addL_len : ∀ (l ts : List (List UInt8)), (addL ts l).length ≤ ts.length + l.length
  | [], ts => by simp [addL]
  | s :: l, ts => by
    rw [addL]
    refine Nat.le_trans (addL_len l _) ?_
    split <;> simp <;> omega
theorem addL_step {ts : List (List UInt8)} {xs : List (List UInt8)} {k : Nat} {s : List UInt8} (h : xs[k]? = some s) : addL ts (xs.drop k) = addL (if isIn ts s then ts else ts ++ [s]) (xs.drop (k + 1)) := by
  obtain ⟨h1, e1⟩ := List.getElem?_eq_some_iff.1 h
  rw [List.drop_eq_getElem_cons h1, e1, addL]
theorem addL_end {ts : List (List UInt8)} {xs : List (List UInt8)} {k : Nat} (h : xs.length ≤ k) : addL ts (xs.drop k) = ts := by
  rw [List.drop_eq_nil_of_le h, addL]

theorem wpList_append_textA {w : World} {ops : Array Oper} {rest : List Oper} {o : Oper} {a : Act} {Q : Exit → Act → World → Prop} (hgd : o.guard = none) (s x : Operand)
    (ho : o.op = .call { callee := .builtin .append, args := #[s, x], argTypes := #[32, 32] }) (base : Nat)
    (v : Value) (ps : List (List UInt8)) (t : ByteArray) (hs : a.eval s = v) (hown : w.ownsRow base 9 1 v ps.length (ps.map strV)) (ad : Addr) (cap : Nat) (hx : a.eval x = .slice (some ad) 1 cap) (hcell : w.cell? ad = some (.string t))
    (hbytes : ps.length ≤ 100000) (hbase : base ≤ w.heap.size)
    (h : ∀ v' w', w'.ownsRow base 9 1 v' (ps ++ [bl t]).length ((ps ++ [bl t]).map strV) → w.grownBy w' v.ownBlock → (v'.ownBlock = v.ownBlock ∨ v'.ownBlock = some w.heap.size) → wpList Tryz.prog ops Q rest (a.put o.dst v') w') :
    wpList Tryz.prog ops Q (o :: rest) a w := by
  obtain ⟨i0, hi, hz0, hz1, hz2⟩ := info_parts Tryz.info9
  refine wpList_append_own_at _ hgd s x 32 ho base 9 i0 (.string ⟨#[]⟩) 1 16 Tryz.underlying32 hi hz0 hz1 hz2 rfl (by omega) v ps.length _ hs hown ad 1 cap [.string t] hx (by simp) ?_ (fun u hu => by simp at hu; subst hu; rfl) (by unfold maxLen; omega) (by omega) hbase ?_
  · intro j u hj
    cases j with
    | zero =>
      have hj : Value.string t = u := by simpa using hj
      have : ad.add 0 = ad := by unfold Addr.add; simp
      rw [this, hcell, hj]
    | succ j => simp at hj
  · intro v' w' h1 h2 _ h4
    refine h v' w' ?_ h2 h4
    have e : ((ps ++ [bl t]).map strV) = ps.map strV ++ [.string t] := by simp [strV, ms_bl]
    rw [e, List.length_append]
    exact h1

theorem Sl.same {α : Type} {k : Nat} {R : World → List Value → α → Prop} {w w' : World} {b off n c : Nat} {xs : List α} (h : Sl k R w (.slice (some ⟨b, off, none⟩) n c) xs) (hR : ∀ cs a, R w cs a → R w' cs a) (hb : w'.heap[b]? = w.heap[b]?) : Sl k R w' (.slice (some ⟨b, off, none⟩) n c) xs := by
  obtain ⟨ao, cap, hv, h1, h2, h3⟩ := h
  refine ⟨ao, cap, hv, h1, h2, fun hp => ?_⟩
  obtain ⟨b', off', ha, hc⟩ := h3 hp
  obtain ⟨hv1, _⟩ : some (⟨b, off, none⟩ : Addr) = ao ∧ _ := by simpa using hv
  rw [ha] at hv1
  obtain ⟨rfl, rfl⟩ : b = b' ∧ off = off' := by simpa using hv1
  refine ⟨b, off, ha, fun i a hi => ?_⟩
  obtain ⟨cs, hr, hcell⟩ := hc i a hi
  exact ⟨cs, hR cs a hr, fun j u hj => by rw [World.cell?_of_block (w := w) hb]; exact hcell j u hj⟩

theorem Po.round {wr w2 w3 w5 : World} {o : Obj} {v' : Value} {x : List UInt8} {b : Nat} (hP : Po B wr p M vt ts) (hc2 : Ch wr w2) (hm : Mp w3 M (ts ++ [x])) (hg3 : w2.drew.grownBy w3 (some M))
    (ho5 : w5.ownsRow B 9 1 v' (ts ++ [x]).length ((ts ++ [x]).map strV)) (hg5 : (w3.alloc o).grownBy w5 vt.ownBlock) (hat : v'.ownBlock = vt.ownBlock ∨ v'.ownBlock = some (w3.alloc o).heap.size)
    (hb : b < wr.heap.size) (hbp : b ≠ p) (hbm : b ≠ M) (hbv : vt.ownBlock ≠ some b) :
    Po B (w5.setCell ⟨p, 0, none⟩ v') p M v' (ts ++ [x]) ∧ Kp B [9, 281] wr (w5.setCell ⟨p, 0, none⟩ v') ∧ (w5.setCell ⟨p, 0, none⟩ v').heap[b]? = wr.heap[b]? ∧ v'.ownBlock ≠ some b ∧ (∀ g, v'.ownBlock = some g → vt.ownBlock = some g ∨ wr.heap.size ≤ g) := by
  obtain ⟨h1, h2⟩ := (hP.keep hc2).push hm hg3 ho5 hg5
  have s1 := hc2.size
  have s2 := hg3.size
  have s2' : w2.heap.size ≤ w3.heap.size := s2
  have s3 : (w3.alloc o).heap.size = w3.heap.size + 1 := by simp
  refine ⟨h1, (Kp.of_ch hc2).trans h2, ?_, ?_, ?_⟩
  · rw [Below.heap_setCell _ _ _ _ (fun e => hbp e), hg5.block b (by omega) (fun e => hbv e.symm), Below.heap_alloc _ _ _ (by omega), hg3.block b (show b < w2.heap.size by omega) (by simpa using hbm)]
    exact hc2.block b hb
  · rcases hat with e | e
    · rw [e]; exact hbv
    · rw [e, s3]; intro e'; have : w3.heap.size + 1 = b := by simpa using e'
      omega
  · intro g hg
    rcases hat with e | e
    · exact Or.inl (by rw [← e]; exact hg)
    · rw [e, s3] at hg
      have : w3.heap.size + 1 = g := by simpa using hg
      exact Or.inr (by omega)
theorem ap_of {vt : Value} {b off : Nat} (h : vt.ownBlock ≠ some b) : ∀ b' off', some (⟨b, off, none⟩ : Addr) = some ⟨b', off', none⟩ → vt.ownBlock ≠ some b' := by
  intro b' off' e
  obtain ⟨rfl, rfl⟩ : b = b' ∧ off = off' := by simpa using e
  exact h

set_option maxRecDepth 100000 in
set_option maxHeartbeats 4000000 in
theorem add_any (B p M : Nat) (vt : Value) (ts : List (List UInt8)) (xs : List ByteArray) (v : Value) (w : World) (hP : Po B w p M vt ts) (hv : Sl 1 RS w v xs)
    (hne : ∀ b off n c, v = .slice (some ⟨b, off, none⟩) n c → vt.ownBlock ≠ some b) (hsz : ∀ s ∈ xs, s.size ≤ 100000) (hlen : ts.length + xs.length ≤ 100000) (hBw : B ≤ w.heap.size) :
    Calls Tryz.prog 320 #[.pointer (some ⟨p, 0, none⟩), v] w fun e w' => e = .returned (.tuple #[]) ∧ ∃ vt', Po B w' p M vt' (addL ts (xs.map bl)) ∧ Kp B [9, 281] w w' ∧ (∀ g, vt'.ownBlock = some g → vt.ownBlock = some g ∨ w.heap.size ≤ g) := by
  obtain ⟨ao, cv, rfl, hv1, hv2⟩ := hv.form
  obtain ⟨goal, hgoal⟩ : ∃ l, addL ts (xs.map bl) = l := ⟨_, rfl⟩
  rw [hgoal]
  go_enter Tryz.func320, Tryz.ntmps320
  go_wp2
  go_loopw [5, 6, 7, 10, 11] (fun _ _ _ i _ wr => ∃ (k : Nat) (vt' : Value) (ts' : List (List UInt8)), k ≤ xs.length ∧ i = .int .i64 k ∧ Po B wr p M vt' ts' ∧ Sl 1 RS wr (.slice ao xs.length cv) xs ∧ (∀ b off, ao = some ⟨b, off, none⟩ → vt'.ownBlock ≠ some b) ∧ addL ts' ((xs.map bl).drop k) = goal ∧ ts'.length ≤ ts.length + k ∧ Kp B [9, 281] w wr ∧ (∀ g, vt'.ownBlock = some g → vt.ownBlock = some g ∨ w.heap.size ≤ g)) (fun _ _ _ i _ _ => xs.length - (intOf i).toNat)
  case atStart => exact ⟨0, vt, ts, Nat.zero_le _, rfl, hP, hv, fun b off e => hne b off _ _ (by rw [e]), by simpa using hgoal, by omega, Kp.refl _ _ _, fun g hg => Or.inl hg⟩
  case round =>
    clear hP hv hgoal
    obtain ⟨k, vt', ts', hk, rfl, hP, hv, hap, hd, hl, hkp, hor⟩ := hrel
    by_cases hlt : k < xs.length
    · obtain ⟨x, hx⟩ : ∃ a, xs[k]? = some a := ⟨_, List.getElem?_eq_getElem hlt⟩
      have hxs := hsz x (List.mem_of_getElem? hx)
      have hxm : (xs.map bl)[k]? = some (bl x) := by rw [List.getElem?_map, hx]; rfl
      rw [addL_step hxm] at hd
      obtain ⟨b, off, hao, d0⟩ := hv.atS hx
      clear hx hxm
      subst hao
      obtain ⟨hbp, hbm⟩ := hP.apart d0
      have hbv := hap b off rfl
      have c0 := hP.c0
      have c1 := hP.c1
      obtain ⟨lk, _⟩ := hP.mp.look x hxs
      have HD : Hid (addL (if isIn ts' (bl x) then ts' else ts' ++ [bl x]) ((xs.map bl).drop (k + 1)) = goal) := hd
      have HO : Hid (∀ g, vt'.ownBlock = some g → vt.ownBlock = some g ∨ w.heap.size ≤ g) := hor
      have HS : Hid (Sl 1 RS wr (.slice (some ⟨b, off, none⟩) xs.length cv) xs) := hv
      clear hd hor hap hne hv
      obtain ⟨q, hq⟩ : ∃ q, isIn ts' (bl x) = q := ⟨_, rfl⟩
      rw [hq] at lk
      have HQ : Hid (isIn ts' (bl x) = q) := hq
      clear hq
      cases q
      · have hno : bl x ∉ ts' := by have := HQ.out; unfold isIn at this; simpa using this
        have hcl := clone_any x
        have hlenV := own_len hP.own
        go_wp2_with (first
          | (go_at_call 79; (with_reducible refine (hcl _ hxs).mono ?_); rintro e w2 ⟨rfl, hc2⟩))
        have hP2 := hP.keep hc2
        have k0 : w2.drew.cell? ⟨p, 0, none⟩ = some vt' := hP2.c0
        have k1 : w2.drew.cell? ⟨p, 1, none⟩ = some (.map (some M)) := hP2.c1
        obtain ⟨w3, hup, hm3, hg3⟩ := Mp.store (w := w2.drew) (hP2.mp.keep rfl) x hxs hno (by omega)
        have hp3 : w3.heap[p]? = some (.cells #[vt', .map (some M)] 281) := (hg3.block p hP2.lt (by simpa using hP2.pm)).trans hP2.blk
        have m0 : w3.cell? ⟨p, 0, none⟩ = some vt' := by simp [World.cell?, hp3]
        have hl3 : p < w3.heap.size := (Array.getElem?_eq_some_iff.1 hp3).1
        have hB3 : B ≤ w3.heap.size := Nat.le_trans (Nat.le_trans hBw hkp.size) (Nat.le_trans hc2.size hg3.size)
        have ho3 : w3.ownsRow B 9 1 vt' ts'.length (ts'.map strV) := ownsRow_same hP2.own (fun g hg => hg3.block g (hP2.own.lt g hg).2 (fun e => hP2.vm (by rw [hg]; exact e)))
        have hbl : b < wr.heap.size := World.block_lt_of_cell? _ _ d0
        have HP : Hid (Po B wr p M vt' ts') := hP
        have HM3 : Hid (Mp w3 M (ts' ++ [bl x])) := hm3
        have HG3 : Hid (w2.drew.grownBy w3 (some M)) := hg3
        have HO3 : Hid (w3.ownsRow B 9 1 vt' ts'.length (ts'.map strV)) := ho3
        have HNE : Hid (vt'.ownBlock ≠ some p) := hP2.vp
        clear c0 c1 lk d0 hP hm3 hg3 ho3
        go_region
        clear hP2 k0 k1 hup
        go_wp2_with (first
          | (at_builtin; (refine wpList_append_textA rfl (.tmp 40) (.tmp 42) rfl B vt' ts' x rfl (ownsRow_keep HO3.out ((Ch.refl _).alloc _)) ⟨w3.heap.size, 0, none⟩ _ rfl (cell_new _ _ _) (by omega) (by simp; omega) ?_); intro v' w5 ho5 hg5 hat5; obtain ⟨ao5, c5, rfl⟩ := own_form ho5; have HAT : Hid (_ ∨ _) := hat5; clear hat5; (have hfz : w5.frozen? ⟨p, 0, none⟩ = false := (hg5.frozen_far _ (by simp; omega) (Ne.symm HNE.out)).trans ((World.frozen?_alloc_old _ _ _ (Nat.ne_of_lt hl3)).trans (by simp [World.frozen?, hp3]))); (have hcc : w5.cell? ⟨p, 0, none⟩ = some vt' := (hg5.cell_far _ (by simp; omega) (Ne.symm HNE.out)).trans ((World.cell?_alloc_old _ _ _ (Nat.ne_of_lt hl3)).trans m0))))
        obtain ⟨r1, r2, r3, r4, r5⟩ := HP.out.round hc2 HM3.out HG3.out ho5 hg5 HAT.out hbl hbp hbm hbv
        have hla : (ts' ++ [bl x]).length = ts'.length + 1 := by simp
        rw [hla] at r1 r2 r3 r4 r5
        go_roundw
        case rel => exact ⟨k + 1, _, ts' ++ [bl x], by omega, by go_num, r1, HS.out.same (fun _ _ h => h) r3, ap_of r4, by have e := HD.out; rw [HQ.out] at e; exact e, by simp; omega, hkp.trans r2, fun g hg => by
          rcases r5 g hg with e | e
          · exact HO.out g e
          · exact Or.inr (Nat.le_trans hkp.size e)⟩
        case measure => simp [intOf]; omega
      · go_wp2
        go_roundw
        case rel => exact ⟨k + 1, vt', ts', by omega, by go_num, hP, HS.out, ap_of hbv, by have e := HD.out; rw [HQ.out] at e; exact e, by omega, hkp, HO.out⟩
        case measure => simp [intOf]; omega
    · obtain rfl : k = xs.length := by omega
      rw [addL_end (by simp)] at hd
      subst hd
      go_wp2
      go_end0
      exact ⟨rfl, vt', hP, hkp, hor⟩
end Go.Proofs.YthmepecmeambmaaGreat
namespace Go.Proofs.YthmepecmeambmaaGreat
open Go.RowKit
set_option linter.unusedVariables false

def pickL (b : Bool) (s : ByteArray) : List (List UInt8) := if b then [bl s] else []
/-- Those that it has by its Op. -/
def insX (x : Ins) : List (List UInt8) := pickL (sC (kd (ix x.op))) x.c ++ (pickL (sN (kd (ix x.op))) x.n ++ pickL (sD (kd (ix x.op))) x.d)
theorem pat3 {k : Int} (h : 0 ≤ k ∧ k ≤ 10) : (sC k = false ∧ sN k = false ∧ sD k = false) ∨ (sC k = true ∧ sN k = false ∧ sD k = false) ∨ (sC k = false ∧ sN k = false ∧ sD k = true) ∨ (sC k = true ∧ sN k = true ∧ sD k = true) := by
  have : k = 0 ∨ k = 1 ∨ k = 2 ∨ k = 3 ∨ k = 4 ∨ k = 5 ∨ k = 6 ∨ k = 7 ∨ k = 8 ∨ k = 9 ∨ k = 10 := by omega
  rcases this with rfl | rfl | rfl | rfl | rfl | rfl | rfl | rfl | rfl | rfl | rfl <;> decide

theorem Ch.own {a b c : World} {v : Value} {n : Nat} {xs : List Value} {base : Nat} (h : Ch a b) (ho : b.ownsRow base 9 1 v n xs) (hb : a.heap.size ≤ base) (hg : b.grownBy c v.ownBlock) : Ch a c :=
  h.grown hg (fun k hk => Nat.le_trans hb (own_obj ho hk).1)

theorem shC_at {w : World} {g : Nat} {a b c d e : Bool} {t : TypeId} (h : w.heap[g]? = some (.cells #[.bool a, .bool b, .bool c, .bool d, .bool e] t)) :
    w.cell? ⟨g, 0, none⟩ = some (.bool a) ∧ w.cell? ⟨g, 1, none⟩ = some (.bool b) ∧ w.cell? ⟨g, 2, none⟩ = some (.bool c) ∧ w.cell? ⟨g, 3, none⟩ = some (.bool d) ∧ w.cell? ⟨g, 4, none⟩ = some (.bool e) := by
  refine ⟨?_, ?_, ?_, ?_, ?_⟩ <;> simp [World.cell?, h]
theorem cell_at (w : World) (v : Value) (e : TypeId) (B : Nat) (h : B = w.heap.size) : (w.alloc (.cells #[v] e)).cell? ⟨B, 0, none⟩ = some v := by subst h; exact cell_new _ _ _

set_option maxRecDepth 100000 in
set_option maxHeartbeats 4000000 in
theorem ownX_any (x : Ins) (w : World) : Calls Tryz.prog 321 #[x.v] w fun e w' => ∃ v, e = .returned v ∧ w'.ownsRow w.heap.size 9 1 v (insX x).length ((insX x).map strV) ∧ Ch w w' := by
  have hof := fun w0 => of_any x.op w0
  simp only [sh] at hof
  have hp := pat3 (kd_range (ix x.op))
  unfold insX
  generalize kd (ix x.op) = k at *
  generalize sA k = s1 at *
  generalize sB k = s2 at *
  generalize sC k = s3 at *
  generalize sN k = s4 at *
  generalize sD k = s5 at *
  unfold Ins.v
  have hbox : Ch w (w.alloc (.cells (insC x.op x.a x.b x.c x.n x.d) 62)) := (Ch.refl w).alloc _
  have HB : Hid ((w.alloc (.cells (insC x.op x.a x.b x.c x.n x.d) 62)).heap[w.heap.size]? = some (.cells (insC x.op x.a x.b x.c x.n x.d) 62)) := heap_alloc_new _ _
  have hx : w.heap.size + 1 = (w.alloc (.cells (insC x.op x.a x.b x.c x.n x.d) 62)).heap.size := by simp
  rcases hp with ⟨rfl, rfl, rfl⟩ | ⟨rfl, rfl, rfl⟩ | ⟨rfl, rfl, rfl⟩ | ⟨rfl, rfl, rfl⟩
  · go_enter Tryz.func321, Tryz.ntmps321
    go_wp2_with (first
      | (go_at_call 328; (with_reducible refine (hof _).mono ?_); rintro e w3 ⟨rfl, hc3⟩))
    go_ret
    exact ⟨_, rfl, World.ownsRow_nil _ _ _ _, (hbox.trans hc3).alloc _⟩
  · go_enter Tryz.func321, Tryz.ntmps321
    go_wp2_with (first
      | (go_at_call 328; (with_reducible refine (hof _).mono ?_); rintro e w3 ⟨rfl, hc3⟩; obtain ⟨_, _, _, q3, q4, q5⟩ := insC_at (kept_at hc3 HB.out); have hsz := hc3.size; have hsz2 : w.heap.size < w3.heap.size := (by simp at hsz; omega))
      | (at_builtin; refine wpList_append_textA rfl (.tmp 14) (.tmp 17) rfl w.heap.size (.slice none 0 0) [] x.c rfl (World.ownsRow_nil _ _ _ _) ⟨w3.heap.size + 1, 0, none⟩ _ rfl (cell_at _ _ _ _ (by simp)) (by simp) (by simp; omega) ?_; intro v1 w4 ho4 hg4 hat4; clear hat4; have hc4 : Ch w w4 := (((hbox.trans hc3).alloc _).alloc _).own (World.ownsRow_nil _ w.heap.size 9 1) (Nat.le_refl _) hg4; have HD : Hid (∀ t, t ≠ 9 → ∀ g cs, g < w3.heap.size + 1 → ((w3.alloc (.cells #[.bool s1, .bool s2, .bool true, .bool false, .bool false] 319)).heap[g]? = some (.cells cs t)) → w4.heap[g]? = some (.cells cs t)) := (fun t _ g cs hg h => (hg4.block g (by simp; omega) (by simp [Value.ownBlock])).trans ((Below.heap_alloc _ _ _ (by simp; omega)).trans h)); have g4 := HD.out 319 (by decide) w3.heap.size _ (by omega) (heap_alloc_new _ _); obtain ⟨_, _, _, z3, z4⟩ := shC_at g4; obtain ⟨a4, c4, rfl⟩ := own_form ho4))
    go_ret
    exact ⟨_, rfl, by simpa [pickL] using ho4, hc4⟩
  · go_enter Tryz.func321, Tryz.ntmps321
    go_wp2_with (first
      | (go_at_call 328; (with_reducible refine (hof _).mono ?_); rintro e w3 ⟨rfl, hc3⟩; obtain ⟨_, _, _, q3, q4, q5⟩ := insC_at (kept_at hc3 HB.out); have hsz := hc3.size; have hsz2 : w.heap.size < w3.heap.size := (by simp at hsz; omega))
      | (at_builtin; refine wpList_append_textA rfl (.tmp 28) (.tmp 31) rfl w.heap.size (.slice none 0 0) [] x.d rfl (World.ownsRow_nil _ _ _ _) ⟨w3.heap.size + 1, 0, none⟩ _ rfl (cell_at _ _ _ _ (by simp)) (by simp) (by simp; omega) ?_; intro v1 w4 ho4 hg4 hat4; clear hat4; have hc4 : Ch w w4 := (((hbox.trans hc3).alloc _).alloc _).own (World.ownsRow_nil _ w.heap.size 9 1) (Nat.le_refl _) hg4; obtain ⟨a4, c4, rfl⟩ := own_form ho4))
    go_ret
    exact ⟨_, rfl, by simpa [pickL] using ho4, hc4⟩
  · go_enter Tryz.func321, Tryz.ntmps321
    go_wp2_with (first
      | (go_at_call 328; (with_reducible refine (hof _).mono ?_); rintro e w3 ⟨rfl, hc3⟩; obtain ⟨_, _, _, q3, q4, q5⟩ := insC_at (kept_at hc3 HB.out); have hsz := hc3.size; have hsz2 : w.heap.size < w3.heap.size := (by simp at hsz; omega); have KC : Hid (∀ w', Ch (w3.alloc (.cells #[.bool s1, .bool s2, .bool true, .bool true, .bool true] 319)) w' → _) := (fun w' h => And.intro (insC_at (kept_at h (kept_at ((Ch.refl w3).alloc _) (kept_at hc3 HB.out)))) (shC_at (kept_at h (heap_alloc_new _ _)))))
      | (at_builtin; refine wpList_append_textA rfl (.tmp 14) (.tmp 17) rfl (w3.heap.size + 1) (.slice none 0 0) [] x.c rfl (World.ownsRow_nil _ _ _ _) ⟨w3.heap.size + 1, 0, none⟩ _ rfl (cell_at _ _ _ _ (by simp)) (by simp) (by simp) ?_; intro v1 w4 ho4 hg4 hat4; clear hat4; have hc4 : Ch (w3.alloc (.cells #[.bool s1, .bool s2, .bool true, .bool true, .bool true] 319)) w4 := ((Ch.refl _).alloc _).own (World.ownsRow_nil _ (w3.heap.size + 1) 9 1) (by simp) hg4; obtain ⟨⟨_, _, _, r3, r4, r5⟩, ⟨_, _, _, y3, y4⟩⟩ := KC.out _ hc4; have hs4 : w3.heap.size + 1 ≤ w4.heap.size := (by have := hc4.size; simp at this; omega))
      | (at_builtin; refine wpList_append_textA rfl (.tmp 21) (.tmp 24) rfl (w3.heap.size + 1) v1 ([] ++ [bl x.c]) x.n rfl (ownsRow_keep ho4 ((Ch.refl _).alloc _)) ⟨w4.heap.size, 0, none⟩ _ rfl (cell_new _ _ _) (by simp) (by simp; omega) ?_; intro v2 w5 ho5 hg5 hat5; clear hat5; have hc5 : Ch (w3.alloc (.cells #[.bool s1, .bool s2, .bool true, .bool true, .bool true] 319)) w5 := (hc4.alloc _).own (ownsRow_keep ho4 ((Ch.refl _).alloc _)) (by simp) hg5; obtain ⟨⟨_, _, _, t3, t4, t5⟩, ⟨_, _, _, x3, x4⟩⟩ := KC.out _ hc5; have hs5 : w3.heap.size + 1 ≤ w5.heap.size := (by have := hc5.size; simp at this; omega))
      | (at_builtin; refine wpList_append_textA rfl (.tmp 28) (.tmp 31) rfl (w3.heap.size + 1) v2 (([] ++ [bl x.c]) ++ [bl x.n]) x.d rfl (ownsRow_keep ho5 ((Ch.refl _).alloc _)) ⟨w5.heap.size, 0, none⟩ _ rfl (cell_new _ _ _) (by simp) (by simp; omega) ?_; intro v3 w6 ho6 hg6 hat6; clear hat6; have hc6 : Ch (w3.alloc (.cells #[.bool s1, .bool s2, .bool true, .bool true, .bool true] 319)) w6 := (hc5.alloc _).own (ownsRow_keep ho5 ((Ch.refl _).alloc _)) (by simp) hg6))
    go_ret
    exact ⟨_, rfl, by simpa [pickL] using ownsRow_base ho6 (by omega), ((hbox.trans hc3).alloc _).trans hc6⟩
end Go.Proofs.YthmepecmeambmaaGreat
