/- Decode. -/
import Derived.Test.YtdalibfgkkgcpaaGreatKDecG
import Derived.Test.YtdalibfgkkgcpaaGreatKDecI
namespace Go.Proofs.YtdalibfgkkgcpaaGreat
open Go.RowKit
set_option linter.unusedVariables false

theorem results_cell_two {P : Program} {fn : Func} {p u v : Tmp} {ty : TypeId} (h : fn.results = #[.cell p ty, .tmp u, .tmp v]) (tmps : Array Value) (w : World) (g : Nat) (t : TypeId) (cs : Array Value) (fr : Nat × Nat) (d : TypeDesc)
    (hp : tmps.getD p undef = .pointer (some ⟨g, 0, none⟩)) (hg : w.heap[g]? = some (.cells cs t fr))
    (hu : P.underlying ty = some d) (hd : (match d with | .struct _ | .array _ _ => true | _ => false) = true) (hi : (P.info? ty).map (·.size) = some cs.size) :
    (results fn tmps).run P w = .ok (.tuple #[.agg cs, tmps.getD u undef, tmps.getD v undef]) w := by
  have hp' : tmps[p]?.getD undef = .pointer (some ⟨g, 0, none⟩) := by simpa using hp
  simp [results, h, hp', asAddr, run_loadVar_row w g t ty cs fr d hg hu hd hi]
def z26 : Array Value := #[.string ⟨#[]⟩, .string ⟨#[]⟩, .bool false, .bool false, .slice none 0 0, .slice none 0 0, .slice none 0 0]
/-- All that stands while Decode goes: the decoder, the result's struct, the class's. -/
structure Dx (w : World) (D r b2 b5 : Nat) (v pv : Value) (bs : List Int) (P : List ByteArray) (c2 c5 : Array Value) (w1 : World) (s : St) : Prop where
  ch : Ch w w1
  rd : Rd w1 r v bs s.a s.f
  blk : w1.heap[D]? = some (.cells #[.pointer (some ⟨r, 0, none⟩), pv, .int .i64 s.e, .int .i64 s.ea] 87)
  own : w1.ownsRow w.heap.size 9 1 pv P.length (P.flatMap strCl)
  g2 : w1.heap[b2]? = some (.cells c2 26)
  g5 : w1.heap[b5]? = some (.cells c5 26)
  lD : w.heap.size ≤ D
  lr : w.heap.size ≤ r
  l2 : w.heap.size ≤ b2
  l5 : w.heap.size ≤ b5
  ne : b2 ≠ b5
section
variable {w w1 w2 : World} {D r b2 b5 : Nat} {v pv : Value} {bs : List Int} {P : List ByteArray} {c2 c5 : Array Value} {s s2 : St}
theorem Dx.nr (h : Dx w D r b2 b5 v pv bs P c2 c5 w1 s) : D ≠ r := by
  rintro rfl
  have := h.blk; rw [h.rd.blk] at this; simp at this
theorem Dx.nD (h : Dx w D r b2 b5 v pv bs P c2 c5 w1 s) {b : Nat} {cs : Array Value} (hb : w1.heap[b]? = some (.cells cs 26)) : b ≠ D ∧ b ≠ r := by
  refine ⟨?_, ?_⟩
  · rintro rfl
    have := h.blk; rw [hb] at this; simp at this
  · rintro rfl
    have := h.rd.blk; rw [hb] at this; simp at this
theorem Dx.nv (h : Dx w D r b2 b5 v pv bs P c2 c5 w1 s) {g : Nat} (hg : v.ownBlock = some g) {b : Nat} {o : Obj} (hb : w1.heap[b]? = some o) (ho : ∀ cs fr, o ≠ .cells cs 5 fr) : g ≠ b := by
  rintro rfl
  obtain ⟨_, cur, hc⟩ := own_obj h.rd.own hg
  rw [hb] at hc
  exact ho _ _ (by simpa using hc)
theorem Dx.np (h : Dx w D r b2 b5 v pv bs P c2 c5 w1 s) {g : Nat} (hg : pv.ownBlock = some g) {b : Nat} {o : Obj} (hb : w1.heap[b]? = some o) (ho : ∀ cs fr, o ≠ .cells cs 9 fr) : g ≠ b := by
  rintro rfl
  obtain ⟨_, cur, hc⟩ := own_obj h.own hg
  rw [hb] at hc
  exact ho _ _ (by simpa using hc)
theorem Dx.dc (h : Dx w D r b2 b5 v pv bs P c2 c5 w1 s) : Dc w1 D r v pv bs P s :=
  ⟨h.rd, h.blk, fun w' k => sl_str (ownsRow_same h.own (fun g hg => k.block g (h.own.lt g hg).2 (fun e => e.elim (h.np hg h.blk (by intro cs fr e; cases e)) (h.np hg h.rd.blk (by intro cs fr e; cases e)))))⟩
theorem Dx.call (h : Dx w D r b2 b5 v pv bs P c2 c5 w1 s) (hd : Dc w2 D r v pv bs P s2) (hk : Dk D r w1 w2) : Dx w D r b2 b5 v pv bs P c2 c5 w2 s2 := by
  have hlD := h.lD
  have hlr := h.lr
  have q : Dk D r w w2 := (Cs.of_ch h.ch).trans hk
  obtain ⟨n2, m2⟩ := h.nD h.g2
  obtain ⟨n5, m5⟩ := h.nD h.g5
  exact ⟨⟨q.os, q.tape, q.output, q.size, fun k hk => q.block k hk (by omega)⟩, hd.rd, hd.blk,
    ownsRow_same h.own (fun g hg => hk.block g (h.own.lt g hg).2 (fun e => e.elim (h.np hg h.blk (by intro cs fr e; cases e)) (h.np hg h.rd.blk (by intro cs fr e; cases e)))),
    (hk.block b2 (Array.getElem?_eq_some_iff.1 h.g2).1 (by omega)).trans h.g2, (hk.block b5 (Array.getElem?_eq_some_iff.1 h.g5).1 (by omega)).trans h.g5, h.lD, h.lr, h.l2, h.l5, h.ne⟩
theorem Dx.dr (h : Dx w D r b2 b5 v pv bs P c2 c5 w1 s) : Dx w D r b2 b5 v pv bs P c2 c5 w1.drew s := h.call (h.dc.keep (Ch.refl _).drew) (Cs.of_ch (Ch.refl _).drew)
theorem ch_set {w w1 : World} (h : Ch w w1) {b : Nat} (hb : w.heap.size ≤ b) (i : Nat) (u : Value) : Ch w (w1.setCell ⟨b, i, none⟩ u) :=
  (Cs.setCell (S := fun _ => False) (Cs.of_ch h) (Or.inr hb) u).ch
theorem Dx.set (h : Dx w D r b2 b5 v pv bs P c2 c5 w1 s) {b : Nat} {cs : Array Value} (hb : w1.heap[b]? = some (.cells cs 26)) (hl : w.heap.size ≤ b) (i : Nat) (u : Value) {c2' c5' : Array Value}
    (h2 : (w1.setCell ⟨b, i, none⟩ u).heap[b2]? = some (.cells c2' 26)) (h5 : (w1.setCell ⟨b, i, none⟩ u).heap[b5]? = some (.cells c5' 26)) : Dx w D r b2 b5 v pv bs P c2' c5' (w1.setCell ⟨b, i, none⟩ u) s := by
  obtain ⟨nD, nr⟩ := h.nD hb
  refine ⟨ch_set h.ch hl i u, ⟨(Below.heap_setCell _ _ _ _ (fun e => nr e.symm)).trans h.rd.blk, ownsRow_same h.rd.own (fun g hg => Below.heap_setCell _ _ _ _ (fun e => h.nv hg hb (by intro cs fr e; cases e) e)), h.rd.small, h.rd.le, h.rd.len⟩,
    (Below.heap_setCell _ _ _ _ (fun e => nD e.symm)).trans h.blk, ownsRow_same h.own (fun g hg => Below.heap_setCell _ _ _ _ (fun e => h.np hg hb (by intro cs fr e; cases e) e)), h2, h5, h.lD, h.lr, h.l2, h.l5, h.ne⟩
theorem Dx.set2 (h : Dx w D r b2 b5 v pv bs P c2 c5 w1 s) (i : Nat) (u : Value) : Dx w D r b2 b5 v pv bs P (c2.setIfInBounds i u) c5 (w1.setCell ⟨b2, i, none⟩ u) s :=
  h.set h.g2 h.l2 i u (by simp [World.setCell, Array.getElem?_modify, h.g2]) ((Below.heap_setCell _ _ _ _ (fun e => h.ne e.symm)).trans h.g5)
theorem Dx.set5 (h : Dx w D r b2 b5 v pv bs P c2 c5 w1 s) (i : Nat) (u : Value) : Dx w D r b2 b5 v pv bs P c2 (c5.setIfInBounds i u) (w1.setCell ⟨b5, i, none⟩ u) s :=
  h.set h.g5 h.l5 i u ((Below.heap_setCell _ _ _ _ (fun e => h.ne e)).trans h.g2) (by simp [World.setCell, Array.getElem?_modify, h.g5])
theorem Dx.row2 (h : Dx w D r b2 b5 v pv bs P c2 c5 w1 s) (cells : Array Value) : Dx w D r b2 b5 v pv bs P cells c5 (w1.setRow b2 cells) s := by
  obtain ⟨nD, nr⟩ := h.nD h.g2
  refine ⟨h.ch.setRow b2 cells h.l2, ⟨(setRow_other _ _ _ _ (fun e => nr e.symm)).trans h.rd.blk, ownsRow_same h.rd.own (fun g hg => setRow_other _ _ _ _ (fun e => h.nv hg h.g2 (by intro cs fr e; cases e) e)), h.rd.small, h.rd.le, h.rd.len⟩,
    (setRow_other _ _ _ _ (fun e => nD e.symm)).trans h.blk, ownsRow_same h.own (fun g hg => setRow_other _ _ _ _ (fun e => h.np hg h.g2 (by intro cs fr e; cases e) e)), setRow_heap _ _ _ _ _ _ h.g2, (setRow_other _ _ _ _ (fun e => h.ne e.symm)).trans h.g5, h.lD, h.lr, h.l2, h.l5, h.ne⟩
theorem store_stp {ops : Array Oper} {o : Oper} {a : Act} {w : World} {K : Act → World → Prop} {Q : Exit → Act → World → Prop} {E : Prop} (hgd : o.guard = none) (ty : TypeId) (x y : Operand) (ho : o.op = .store ty x y)
    (g : Nat) (cells : Array Value) (hx : a.eval x = .pointer (some ⟨g, 0, none⟩)) (hy : a.eval y = .agg cells)
    (t : TypeId) (old : Array Value) (hg : w.heap[g]? = some (.cells old t (0, 0))) (hi : (Tryz.prog.info? ty).map (·.size) = some cells.size)
    (hold : old.size = cells.size) (h1 : cells.all (·.oneCell') = true)
    (h : K (a.put o.dst undef) (w.setRow g cells)) : if Region.wanted o (yielded ops a.tmps) = true then Oper.wp Tryz.prog o a w K Q else E := by
  have hw : Region.wanted o (yielded ops a.tmps) = true := by simp [Region.wanted, hgd]
  rw [if_pos hw]
  exact wp_store_row ty x y ho g cells hx hy t old hg hi hold h1 h
theorem one7z : (z26.all (·.oneCell')) = true := by kernel_rfl
theorem Dx.pool (h : Dx w D r b2 b5 v pv bs P c2 c5 w1 s) {pv' : Value} {P' : List ByteArray} {B : Nat} (ho : w1.ownsRow B 9 1 pv' P'.length (P'.flatMap strCl)) (hB : w.heap.size ≤ B) : Dx w D r b2 b5 v pv' bs P' c2 c5 (w1.setCell ⟨D, 1, none⟩ pv') s := by
  obtain ⟨n2, m2⟩ := h.nD h.g2
  obtain ⟨n5, m5⟩ := h.nD h.g5
  refine ⟨ch_set h.ch h.lD 1 pv', ⟨(Below.heap_setCell _ _ _ _ (fun e => h.nr e.symm)).trans h.rd.blk, ownsRow_same h.rd.own (fun g hg => Below.heap_setCell _ _ _ _ (fun e => h.nv hg h.blk (by intro cs fr e; cases e) e)), h.rd.small, h.rd.le, h.rd.len⟩,
    by simp [World.setCell, Array.getElem?_modify, h.blk], ownsRow_base (ownsRow_same ho (fun g hg => Below.heap_setCell _ _ _ _ (fun e => ?_))) hB, (Below.heap_setCell _ _ _ _ (fun e => n2 e)).trans h.g2, (Below.heap_setCell _ _ _ _ (fun e => n5 e)).trans h.g5, h.lD, h.lr, h.l2, h.l5, h.ne⟩
  have e : g = D := e
  obtain ⟨_, cur, hc⟩ := own_obj ho hg
  rw [e, h.blk] at hc
  simp at hc
theorem Dx.d0 (h : Dx w D r b2 b5 v pv bs P c2 c5 w1 s) : w1.cell? ⟨D, 0, none⟩ = some (.pointer (some ⟨r, 0, none⟩)) := h.dc.c0
theorem Dx.d2 (h : Dx w D r b2 b5 v pv bs P c2 c5 w1 s) : w1.cell? ⟨D, 2, none⟩ = some (.int .i64 s.e) := h.dc.c2
theorem Dx.d3 (h : Dx w D r b2 b5 v pv bs P c2 c5 w1 s) : w1.cell? ⟨D, 3, none⟩ = some (.int .i64 s.ea) := h.dc.c3
theorem Dx.fD (h : Dx w D r b2 b5 v pv bs P c2 c5 w1 s) (i : Nat) : w1.frozen? ⟨D, i, none⟩ = false := h.dc.fz i
theorem Dx.e2 (h : Dx w D r b2 b5 v pv bs P c2 c5 w1 s) (i : Nat) {u : Value} (hu : c2[i]? = some u) : w1.cell? ⟨b2, i, none⟩ = some u := by simp [World.cell?, h.g2, hu]
theorem Dx.e5 (h : Dx w D r b2 b5 v pv bs P c2 c5 w1 s) (i : Nat) {u : Value} (hu : c5[i]? = some u) : w1.cell? ⟨b5, i, none⟩ = some u := by simp [World.cell?, h.g5, hu]
theorem Dx.f2 (h : Dx w D r b2 b5 v pv bs P c2 c5 w1 s) (i : Nat) : w1.frozen? ⟨b2, i, none⟩ = false := by simp [World.frozen?, h.g2]
theorem Dx.f5 (h : Dx w D r b2 b5 v pv bs P c2 c5 w1 s) (i : Nat) : w1.frozen? ⟨b5, i, none⟩ = false := by simp [World.frozen?, h.g5]
def w3z (w : World) : World := ((w.alloc (.cells z26 26)).alloc (.cells z26 26)).alloc (.cells #[.pointer none, .slice none 0 0, .int .i64 0, .int .i64 0] 87)
theorem w3z_a (w : World) : (w3z w).heap[w.heap.size]? = some (.cells z26 26) := by
  unfold w3z
  rw [heap_alloc_old _ _ (by simp; omega), heap_alloc_old _ _ (by simp), heap_alloc_new]
theorem w3z_b (w : World) : (w3z w).heap[w.heap.size + 1]? = some (.cells z26 26) := by
  have e : w.heap.size + 1 = (w.alloc (.cells z26 26)).heap.size := by simp
  unfold w3z
  rw [heap_alloc_old _ _ (by simp), e, heap_alloc_new]
theorem w3z_c (w : World) : (w3z w).heap[w.heap.size + 2]? = some (.cells #[.pointer none, .slice none 0 0, .int .i64 0, .int .i64 0] 87) := by
  have e : w.heap.size + 2 = ((w.alloc (.cells z26 26)).alloc (.cells z26 26)).heap.size := by simp
  unfold w3z
  rw [e, heap_alloc_new]
theorem Dx.start (hch : Ch (w3z w) w1) (hr : Rd w1 r v bs 0 false) (hrr : (w3z w).heap.size ≤ r) :
    Dx w (w.heap.size + 2) r w.heap.size (w.heap.size + 1) v (.slice none 0 0) bs [] z26 z26 (w1.setCell ⟨w.heap.size + 2, 0, none⟩ (.pointer (some ⟨r, 0, none⟩))) (cl 0) := by
  have hs : (w3z w).heap.size = w.heap.size + 3 := by simp [w3z]
  have h0 : w1.heap[w.heap.size]? = some (.cells z26 26) := kept_at hch (w3z_a w)
  have h1 : w1.heap[w.heap.size + 1]? = some (.cells z26 26) := kept_at hch (w3z_b w)
  have h2 : w1.heap[w.heap.size + 2]? = some (.cells #[.pointer none, .slice none 0 0, .int .i64 0, .int .i64 0] 87) := kept_at hch (w3z_c w)
  have hw : Ch w w1 := ((((Ch.refl w).alloc _).alloc _).alloc _).trans hch
  refine ⟨ch_set hw (by omega) _ _, ⟨(Below.heap_setCell _ _ _ _ (show r ≠ w.heap.size + 2 by omega)).trans hr.blk, ownsRow_same hr.own (fun g hg => Below.heap_setCell _ _ _ _ (fun e => ?_)), hr.small, hr.le, hr.len⟩,
    by simp [World.setCell, Array.getElem?_modify, h2], World.ownsRow_nil _ _ _ _, (Below.heap_setCell _ _ _ _ (by simp)).trans h0, (Below.heap_setCell _ _ _ _ (by simp)).trans h1, by omega, by omega, Nat.le_refl _, by omega, by omega⟩
  have e : g = w.heap.size + 2 := e
  obtain ⟨_, cur, hc⟩ := own_obj hr.own hg
  rw [e, h2] at hc
  simp at hc
end
theorem rtxR_size (bs : List Int) (hs : Sm bs) (s : St) : (rtxR bs s).1.size ≤ 65535 := by
  unfold rtxR
  split
  · next hc =>
    have h1 := num_take_bd bs s.a 2 hs hc.2.1
    have hp : pw 2 = 65536 := by decide
    dsimp only
    rw [strOfNums_size, List.length_take]
    omega
  · exact Nat.zero_le _
theorem mark_ne : (1396851505 : Int) ≠ 0 := by decide

set_option maxRecDepth 100000 in
set_option maxHeartbeats 16000000 in
theorem decode_A (u : Value) (bs : List Int) (w : World) (hu : Rb w u bs) (hs : Sm bs) (hl : bs.length ≤ 90000)
    (m : Int) (s1 : St) (e1 : iR bs (cl 0) = (m, s1)) (hm : m ≠ 1396851505) :
    Calls Tryz.prog 16 #[u] w fun e w' => ∃ vi vf vm, e = .returned (.tuple #[.agg #[.string noC.n, .string noC.s, .bool noC.it, .bool noC.ab, vi, vf, vm], .int .i64 (fl s1 7 0).e, .int .i64 (fl s1 7 0).ea]) ∧ ClsAt w' noC vi vf vm ∧ Ch w w' := by
  have t0 : decide (262144 < (bs.length : Int)) = false := by simp; omega
  have hNR := fun w' (k : Ch w w') => newReader_any u bs w' (hu.keep k).row hs (by omega)
  have H1 : Hid (∀ D r v w', Dc w' D r v (.slice none 0 0) bs [] (cl 0) → Calls Tryz.prog 47 #[.pointer (some ⟨r, 0, none⟩)] w' fun e w'' => e = .returned (.int .i64 m) ∧ Dc w'' D r v (.slice none 0 0) bs [] s1 ∧ Dk D r w' w'') := fun D r v w' h' => by
    have := i4_any D r v (.slice none 0 0) bs [] (cl 0) w' h'; rw [e1] at this; exact this
  have t1 : (m == 1396851505) = false := by simpa using hm
  have t2 : (m != 1396851505) = true := by simpa using hm
  have HX : Hid (∀ D r v w', Dc w' D r v (.slice none 0 0) bs [] s1 → Calls Tryz.prog 45 #[.pointer (some ⟨D, 0, none⟩), .int .i64 7, .int .i64 0] w' fun e w'' => e = .returned (.tuple #[]) ∧ Dc w'' D r v (.slice none 0 0) bs [] (fl s1 7 0) ∧ Dk D r w' w'') := fun D r v w' h' => fail_any D r v (.slice none 0 0) bs [] s1 7 0 w' h'
  clear hm
  generalize fl s1 7 0 = s1' at *
  obtain ⟨au, cu, rfl, hu1, hu2⟩ := hu.form
  clear e1 hs hl hu
  have hcz : Ch w (w3z w) := (((Ch.refl w).alloc _).alloc _).alloc _
  have hNR := hNR _ hcz
  have HST : Hid (∀ r v w1, Ch (w3z w) w1 → Rd w1 r v bs 0 false → (w3z w).heap.size ≤ r → _) := fun r v w1 a b c => Dx.start a b c
  have HQC : Hid (_ = _) := w3z_c w
  unfold w3z z26 at *
  go_enter Tryz.func16, Tryz.ntmps16
  go_wp2
  refine wp_scope_once 0 (by rfl) ?_
  go_wp2_with (first
    | (go_at_call 46; (with_reducible refine hNR.mono ?_); rintro e w1 ⟨r, v, rfl, hrd, k1, hr1⟩; have X1 := HST.out r v w1 k1 hrd hr1; have q0 : w1.cell? ⟨w.heap.size + 2, 0, none⟩ = some (.pointer none) := (by have := kept_at k1 HQC.out; simp [World.cell?, this]); have q1 : w1.frozen? ⟨w.heap.size + 2, 0, none⟩ = false := (by have := kept_at k1 HQC.out; simp [World.frozen?, this]); have X1d := X1.d0)
    | (go_at_call 47; (with_reducible refine (H1.out _ _ _ _ X1.dc).mono ?_); rintro e w2 ⟨rfl, h2, k2⟩; have X2 := X1.call h2 k2; have X2d := X2.d0; have X2e := X2.dc.c1; have X2f := X2.fD 1)
    | (go_at_call 45; (with_reducible refine (HX.out _ _ _ _ X2.dc).mono ?_); rintro e w3 ⟨rfl, h3, k3⟩; have XE := X2.call h3 k3)
    | fail)
  go_step3
  refine And.intro rfl ?_
  change Code.wp Tryz.prog _ _ _ _
  go_wp2
  have XD := XE.dr
  have Xa0 := XE.f2 0; have Xb0 := XE.e2 0 rfl; have Xa1 := XE.f2 1; have Xb1 := XE.e2 1 rfl; have Xa2 := XE.f2 2; have Xb2 := XE.e2 2 rfl; have Xa3 := XE.f2 3; have Xb3 := XE.e2 3 rfl; have Xa4 := XE.f2 4; have Xb4 := XE.e2 4 rfl; have Xa5 := XE.f2 5; have Xb5 := XE.e2 5 rfl; have Xa6 := XE.f2 6; have Xb6 := XE.e2 6 rfl; skip
  have HS : Hid (∀ pv0 P0 c2' c5' w' s', Dx w (w.heap.size + 2) r w.heap.size (w.heap.size + 1) v pv0 bs P0 c2' c5' w' s' → w'.cell? ⟨w.heap.size + 2, 2, none⟩ = some (.int .i64 s'.e) ∧ w'.cell? ⟨w.heap.size + 2, 3, none⟩ = some (.int .i64 s'.ea)) := fun pv0 P0 c2' c5' w' s' B => ⟨B.d2, B.d3⟩
  have hSd := HS.out _ _ _ _ _ _ XD
  go_region_held3 (fun w' => w'.cell? ⟨w.heap.size + 2, 2, none⟩ = some (.int .i64 s1'.e) ∧ w'.cell? ⟨w.heap.size + 2, 3, none⟩ = some (.int .i64 s1'.ea)) (first | (with_reducible exact hSd) | (with_reducible exact ⟨((((((((XE.set2 0 (.string ⟨#[]⟩)).set2 1 (.string ⟨#[]⟩)).set2 2 (.bool false)).set2 3 (.bool false)).set2 4 (.slice none 0 0)).set2 5 (.slice none 0 0)).set2 6 (.slice none 0 0))).dr.d2, ((((((((XE.set2 0 (.string ⟨#[]⟩)).set2 1 (.string ⟨#[]⟩)).set2 2 (.bool false)).set2 3 (.bool false)).set2 4 (.slice none 0 0)).set2 5 (.slice none 0 0)).set2 6 (.slice none 0 0))).dr.d3⟩) | (with_reducible exact ((((((((XE.set2 0 (.string ⟨#[]⟩)).set2 1 (.string ⟨#[]⟩)).set2 2 (.bool false)).set2 3 (.bool false)).set2 4 (.slice none 0 0)).set2 5 (.slice none 0 0)).set2 6 (.slice none 0 0))).dr.d2) | (with_reducible exact ((((((((XE.set2 0 (.string ⟨#[]⟩)).set2 1 (.string ⟨#[]⟩)).set2 2 (.bool false)).set2 3 (.bool false)).set2 4 (.slice none 0 0)).set2 5 (.slice none 0 0)).set2 6 (.slice none 0 0))).dr.d3) | fail) (first | fail | fail)
  have BZ : Dx _ _ _ _ _ _ _ _ _ z26 _ _ _ := (((((((XE.set2 0 (.string ⟨#[]⟩)).set2 1 (.string ⟨#[]⟩)).set2 2 (.bool false)).set2 3 (.bool false)).set2 4 (.slice none 0 0)).set2 5 (.slice none 0 0)).set2 6 (.slice none 0 0)).dr
  go_wp2
  try rw [Exit.noGoto_ret]
  refine bodyPost_ret (results_cell_two rfl _ _ w.heap.size 26 _ (0, 0) _ rfl BZ.g2 Tryz.underlying26 rfl info26') rfl ?_
  exact ⟨_, _, _, rfl, ⟨Sl.nil _ _ _, Sl.nil _ _ _, Sl.nil _ _ _⟩, BZ.ch⟩

set_option maxRecDepth 100000 in
set_option maxHeartbeats 16000000 in
theorem decode_B (u : Value) (bs : List Int) (w : World) (hu : Rb w u bs) (hs : Sm bs) (hl : bs.length ≤ 90000)
    (m : Int) (s1 : St) (e1 : iR bs (cl 0) = (m, s1)) (hm : m = 1396851505) (P : List ByteArray) (s2 : St) (e2 : listR 500 rtxR bs s1 = (P, s2)) (hb2 : bad s2 = true) :
    Calls Tryz.prog 16 #[u] w fun e w' => ∃ vi vf vm, e = .returned (.tuple #[.agg #[.string noC.n, .string noC.s, .bool noC.it, .bool noC.ab, vi, vf, vm], .int .i64 (sy s2).e, .int .i64 (sy s2).ea]) ∧ ClsAt w' noC vi vf vm ∧ Ch w w' := by
  have t0 : decide (262144 < (bs.length : Int)) = false := by simp; omega
  have hNR := fun w' (k : Ch w w') => newReader_any u bs w' (hu.keep k).row hs (by omega)
  have H1 : Hid (∀ D r v w', Dc w' D r v (.slice none 0 0) bs [] (cl 0) → Calls Tryz.prog 47 #[.pointer (some ⟨r, 0, none⟩)] w' fun e w'' => e = .returned (.int .i64 m) ∧ Dc w'' D r v (.slice none 0 0) bs [] s1 ∧ Dk D r w' w'') := fun D r v w' h' => by
    have := i4_any D r v (.slice none 0 0) bs [] (cl 0) w' h'; rw [e1] at this; exact this
  subst hm
  have H2 : Hid (∀ D r v w', Dc w' D r v (.slice none 0 0) bs [] s1 → Calls Tryz.prog 48 #[.pointer (some ⟨D, 0, none⟩), .int .i64 500, .func (.func 49) #[.pointer (some ⟨r, 0, none⟩)] #[]] w' fun e w'' => ∃ l, e = .returned l ∧ Lx w' 9 1 l P.length (P.flatMap strCl) D r v (.slice none 0 0) bs [] w'' s2) := fun D r v w' h' => by
    have := listP_any D r v (.slice none 0 0) bs [] s1 rtxR 500 (by decide) w' h' (fun w0 s0 h0 => rtext_any D r v (.slice none 0 0) bs [] s0 w0 h0); rw [e2] at this; exact this
  have HB2 : Hid (∀ D r v pv w', Dc w' D r v pv bs P s2 → Calls Tryz.prog 50 #[.pointer (some ⟨D, 0, none⟩)] w' fun e w'' => e = .returned (.bool true) ∧ Dc w'' D r v pv bs P (sy s2) ∧ Dk D r w' w'') := fun D r v pv w' h' => by
    have := failed_any D r v pv bs P s2 w' h'; rw [hb2] at this; exact this
  generalize sy s2 = s2' at *
  obtain ⟨au, cu, rfl, hu1, hu2⟩ := hu.form
  clear e1 e2 hb2 hs hl hu
  have hcz : Ch w (w3z w) := (((Ch.refl w).alloc _).alloc _).alloc _
  have hNR := hNR _ hcz
  have HST : Hid (∀ r v w1, Ch (w3z w) w1 → Rd w1 r v bs 0 false → (w3z w).heap.size ≤ r → _) := fun r v w1 a b c => Dx.start a b c
  have HQC : Hid (_ = _) := w3z_c w
  unfold w3z z26 at *
  go_enter Tryz.func16, Tryz.ntmps16
  go_wp2
  refine wp_scope_once 0 (by rfl) ?_
  go_wp2_with (first
    | (go_at_call 46; (with_reducible refine hNR.mono ?_); rintro e w1 ⟨r, v, rfl, hrd, k1, hr1⟩; have X1 := HST.out r v w1 k1 hrd hr1; have q0 : w1.cell? ⟨w.heap.size + 2, 0, none⟩ = some (.pointer none) := (by have := kept_at k1 HQC.out; simp [World.cell?, this]); have q1 : w1.frozen? ⟨w.heap.size + 2, 0, none⟩ = false := (by have := kept_at k1 HQC.out; simp [World.frozen?, this]); have X1d := X1.d0)
    | (go_at_call 47; (with_reducible refine (H1.out _ _ _ _ X1.dc).mono ?_); rintro e w2 ⟨rfl, h2, k2⟩; have X2 := X1.call h2 k2; have X2d := X2.d0; have X2e := X2.dc.c1; have X2f := X2.fD 1)
    | (go_at_call 48; (with_reducible refine (H2.out _ _ _ _ X2.dc).mono ?_); rintro e w3 ⟨l3, rfl, hL3⟩; have X3 := X2.call hL3.dc hL3.dk; obtain ⟨a3, c3, rfl⟩ := own_form hL3.own; have Y3 := X3.pool hL3.own X2.ch.size; have X3e := X3.dc.c1; have X3f := X3.fD 1)
    | (go_at_call 50; (with_reducible refine (HB2.out _ _ _ _ _ Y3.dc).mono ?_); rintro e w4 ⟨rfl, h4, k4⟩; have XE := Y3.call h4 k4)
    | fail)
  go_step3
  refine And.intro rfl ?_
  change Code.wp Tryz.prog _ _ _ _
  go_wp2
  have XD := XE.dr
  have Xa0 := XE.f2 0; have Xb0 := XE.e2 0 rfl; have Xa1 := XE.f2 1; have Xb1 := XE.e2 1 rfl; have Xa2 := XE.f2 2; have Xb2 := XE.e2 2 rfl; have Xa3 := XE.f2 3; have Xb3 := XE.e2 3 rfl; have Xa4 := XE.f2 4; have Xb4 := XE.e2 4 rfl; have Xa5 := XE.f2 5; have Xb5 := XE.e2 5 rfl; have Xa6 := XE.f2 6; have Xb6 := XE.e2 6 rfl; skip
  have HS : Hid (∀ pv0 P0 c2' c5' w' s', Dx w (w.heap.size + 2) r w.heap.size (w.heap.size + 1) v pv0 bs P0 c2' c5' w' s' → w'.cell? ⟨w.heap.size + 2, 2, none⟩ = some (.int .i64 s'.e) ∧ w'.cell? ⟨w.heap.size + 2, 3, none⟩ = some (.int .i64 s'.ea)) := fun pv0 P0 c2' c5' w' s' B => ⟨B.d2, B.d3⟩
  have hSd := HS.out _ _ _ _ _ _ XD
  go_region_held3 (fun w' => w'.cell? ⟨w.heap.size + 2, 2, none⟩ = some (.int .i64 s2'.e) ∧ w'.cell? ⟨w.heap.size + 2, 3, none⟩ = some (.int .i64 s2'.ea)) (first | (with_reducible exact hSd) | (with_reducible exact ⟨((((((((XE.set2 0 (.string ⟨#[]⟩)).set2 1 (.string ⟨#[]⟩)).set2 2 (.bool false)).set2 3 (.bool false)).set2 4 (.slice none 0 0)).set2 5 (.slice none 0 0)).set2 6 (.slice none 0 0))).dr.d2, ((((((((XE.set2 0 (.string ⟨#[]⟩)).set2 1 (.string ⟨#[]⟩)).set2 2 (.bool false)).set2 3 (.bool false)).set2 4 (.slice none 0 0)).set2 5 (.slice none 0 0)).set2 6 (.slice none 0 0))).dr.d3⟩) | (with_reducible exact ((((((((XE.set2 0 (.string ⟨#[]⟩)).set2 1 (.string ⟨#[]⟩)).set2 2 (.bool false)).set2 3 (.bool false)).set2 4 (.slice none 0 0)).set2 5 (.slice none 0 0)).set2 6 (.slice none 0 0))).dr.d2) | (with_reducible exact ((((((((XE.set2 0 (.string ⟨#[]⟩)).set2 1 (.string ⟨#[]⟩)).set2 2 (.bool false)).set2 3 (.bool false)).set2 4 (.slice none 0 0)).set2 5 (.slice none 0 0)).set2 6 (.slice none 0 0))).dr.d3) | fail) (first | fail | fail)
  have BZ : Dx _ _ _ _ _ _ _ _ _ z26 _ _ _ := (((((((XE.set2 0 (.string ⟨#[]⟩)).set2 1 (.string ⟨#[]⟩)).set2 2 (.bool false)).set2 3 (.bool false)).set2 4 (.slice none 0 0)).set2 5 (.slice none 0 0)).set2 6 (.slice none 0 0)).dr
  go_wp2
  try rw [Exit.noGoto_ret]
  refine bodyPost_ret (results_cell_two rfl _ _ w.heap.size 26 _ (0, 0) _ rfl BZ.g2 Tryz.underlying26 rfl info26') rfl ?_
  exact ⟨_, _, _, rfl, ⟨Sl.nil _ _ _, Sl.nil _ _ _, Sl.nil _ _ _⟩, BZ.ch⟩

set_option maxRecDepth 100000 in
set_option maxHeartbeats 16000000 in
theorem decode_C (u : Value) (bs : List Int) (w : World) (hu : Rb w u bs) (hs : Sm bs) (hl : bs.length ≤ 90000)
    (m : Int) (s1 : St) (e1 : iR bs (cl 0) = (m, s1)) (hm : m = 1396851505) (P : List ByteArray) (s2 : St) (e2 : listR 500 rtxR bs s1 = (P, s2)) (hb2 : bad s2 = false)
    (c : Cls) (s3 : St) (e3 : clsR P bs (sy s2) = (c, s3)) (hb3 : bad s3 = true) :
    Calls Tryz.prog 16 #[u] w fun e w' => ∃ vi vf vm, e = .returned (.tuple #[.agg #[.string noC.n, .string noC.s, .bool noC.it, .bool noC.ab, vi, vf, vm], .int .i64 (sy s3).e, .int .i64 (sy s3).ea]) ∧ ClsAt w' noC vi vf vm ∧ Ch w w' := by
  have t0 : decide (262144 < (bs.length : Int)) = false := by simp; omega
  have hNR := fun w' (k : Ch w w') => newReader_any u bs w' (hu.keep k).row hs (by omega)
  have H1 : Hid (∀ D r v w', Dc w' D r v (.slice none 0 0) bs [] (cl 0) → Calls Tryz.prog 47 #[.pointer (some ⟨r, 0, none⟩)] w' fun e w'' => e = .returned (.int .i64 m) ∧ Dc w'' D r v (.slice none 0 0) bs [] s1 ∧ Dk D r w' w'') := fun D r v w' h' => by
    have := i4_any D r v (.slice none 0 0) bs [] (cl 0) w' h'; rw [e1] at this; exact this
  subst hm
  have H2 : Hid (∀ D r v w', Dc w' D r v (.slice none 0 0) bs [] s1 → Calls Tryz.prog 48 #[.pointer (some ⟨D, 0, none⟩), .int .i64 500, .func (.func 49) #[.pointer (some ⟨r, 0, none⟩)] #[]] w' fun e w'' => ∃ l, e = .returned l ∧ Lx w' 9 1 l P.length (P.flatMap strCl) D r v (.slice none 0 0) bs [] w'' s2) := fun D r v w' h' => by
    have := listP_any D r v (.slice none 0 0) bs [] s1 rtxR 500 (by decide) w' h' (fun w0 s0 h0 => rtext_any D r v (.slice none 0 0) bs [] s0 w0 h0); rw [e2] at this; exact this
  have HB2 : Hid (∀ D r v pv w', Dc w' D r v pv bs P s2 → Calls Tryz.prog 50 #[.pointer (some ⟨D, 0, none⟩)] w' fun e w'' => e = .returned (.bool false) ∧ Dc w'' D r v pv bs P (sy s2) ∧ Dk D r w' w'') := fun D r v pv w' h' => by
    have := failed_any D r v pv bs P s2 w' h'; rw [hb2] at this; exact this
  have hP : ∀ t ∈ P, t.size ≤ 65535 := by
    have := listR_all (r := rtxR) (bs := bs) 500 (fun t : ByteArray => t.size ≤ 65535) (fun s0 => rtxR_size bs hs s0) s1
    rw [e2] at this
    exact this
  have H3 : Hid (∀ D r v pv w', Dc w' D r v pv bs P (sy s2) → Calls Tryz.prog 51 #[.pointer (some ⟨D, 0, none⟩)] w' fun e w'' => ∃ vi vf vm, e = .returned (.agg #[.string c.n, .string c.s, .bool c.it, .bool c.ab, vi, vf, vm]) ∧ (∀ w3, Cs (fun g => g < w'.heap.size) w'' w3 → ClsAt w3 c vi vf vm) ∧ Dc w'' D r v pv bs P s3 ∧ Dk D r w' w'') := fun D r v pv w' h' => by
    have := class_any D r v pv bs P (sy s2) hP w' h'; rw [e3] at this; exact this
  have HB3 : Hid (∀ D r v pv w', Dc w' D r v pv bs P s3 → Calls Tryz.prog 50 #[.pointer (some ⟨D, 0, none⟩)] w' fun e w'' => e = .returned (.bool true) ∧ Dc w'' D r v pv bs P (sy s3) ∧ Dk D r w' w'') := fun D r v pv w' h' => by
    have := failed_any D r v pv bs P s3 w' h'; rw [hb3] at this; exact this
  generalize sy s2 = s2' at *
  generalize sy s3 = s3' at *
  obtain ⟨au, cu, rfl, hu1, hu2⟩ := hu.form
  clear e1 e2 hb2 e3 hb3 hP hs hl hu
  have hcz : Ch w (w3z w) := (((Ch.refl w).alloc _).alloc _).alloc _
  have hNR := hNR _ hcz
  have HST : Hid (∀ r v w1, Ch (w3z w) w1 → Rd w1 r v bs 0 false → (w3z w).heap.size ≤ r → _) := fun r v w1 a b c => Dx.start a b c
  have HQC : Hid (_ = _) := w3z_c w
  unfold w3z z26 at *
  go_enter Tryz.func16, Tryz.ntmps16
  go_wp2
  refine wp_scope_once 0 (by rfl) ?_
  go_wp2_with (first
    | (go_at_call 46; (with_reducible refine hNR.mono ?_); rintro e w1 ⟨r, v, rfl, hrd, k1, hr1⟩; have X1 := HST.out r v w1 k1 hrd hr1; have q0 : w1.cell? ⟨w.heap.size + 2, 0, none⟩ = some (.pointer none) := (by have := kept_at k1 HQC.out; simp [World.cell?, this]); have q1 : w1.frozen? ⟨w.heap.size + 2, 0, none⟩ = false := (by have := kept_at k1 HQC.out; simp [World.frozen?, this]); have X1d := X1.d0)
    | (go_at_call 47; (with_reducible refine (H1.out _ _ _ _ X1.dc).mono ?_); rintro e w2 ⟨rfl, h2, k2⟩; have X2 := X1.call h2 k2; have X2d := X2.d0; have X2e := X2.dc.c1; have X2f := X2.fD 1)
    | (go_at_call 48; (with_reducible refine (H2.out _ _ _ _ X2.dc).mono ?_); rintro e w3 ⟨l3, rfl, hL3⟩; have X3 := X2.call hL3.dc hL3.dk; obtain ⟨a3, c3, rfl⟩ := own_form hL3.own; have Y3 := X3.pool hL3.own X2.ch.size; have X3e := X3.dc.c1; have X3f := X3.fD 1)
    | (go_at_call 50; (with_reducible refine (HB2.out _ _ _ _ _ Y3.dc).mono ?_); rintro e w4 ⟨rfl, h4, k4⟩; have X4 := Y3.call h4 k4)
    | (go_at_call 51; (with_reducible refine (H3.out _ _ _ _ _ X4.dc).mono ?_); rintro e w5 ⟨vi, vf, vm, rfl, hA5, h5, k5⟩; have X5 := X4.call h5 k5; have hA50 := hA5 w5 (Cs.refl _ _); obtain ⟨ai, ci, rfl, _, _⟩ := hA50.1.form; obtain ⟨af, cf, rfl, _, _⟩ := hA50.2.1.form; obtain ⟨am, cm, rfl, _, _⟩ := hA50.2.2.form; clear hA50; have hb5 : w.heap.size + 1 < w4.heap.size := (Array.getElem?_eq_some_iff.1 X4.g5).1; have hb2 : w.heap.size < w4.heap.size := (Array.getElem?_eq_some_iff.1 X4.g2).1; have hbD : w.heap.size + 2 < w4.heap.size := X4.dc.lt; have hbr := X4.rd.lt; have Y5 : Dx _ _ _ _ _ _ _ _ _ _ #[.string c.n, .string c.s, .bool c.it, .bool c.ab, .slice ai c.im.length ci, .slice af c.fs.length cf, .slice am c.me.length cm] _ _ := (((((((X5.set5 0 (.string c.n)).set5 1 (.string c.s)).set5 2 (.bool c.it)).set5 3 (.bool c.ab)).set5 4 (.slice ai c.im.length ci)).set5 5 (.slice af c.fs.length cf)).set5 6 (.slice am c.me.length cm)); have G5 : Cs (fun g => g < w4.heap.size) w5 _ := (Cs.setCell (p := ⟨w.heap.size + 1, 6, none⟩) (Cs.setCell (p := ⟨w.heap.size + 1, 5, none⟩) (Cs.setCell (p := ⟨w.heap.size + 1, 4, none⟩) (Cs.setCell (p := ⟨w.heap.size + 1, 3, none⟩) (Cs.setCell (p := ⟨w.heap.size + 1, 2, none⟩) (Cs.setCell (p := ⟨w.heap.size + 1, 1, none⟩) (Cs.setCell (p := ⟨w.heap.size + 1, 0, none⟩) (Cs.refl _ w5) (Or.inl hb5) (.string c.n)) (Or.inl hb5) (.string c.s)) (Or.inl hb5) (.bool c.it)) (Or.inl hb5) (.bool c.ab)) (Or.inl hb5) (.slice ai c.im.length ci)) (Or.inl hb5) (.slice af c.fs.length cf)) (Or.inl hb5) (.slice am c.me.length cm)); have X5c0 := X5.f5 0; have X5e0 := X5.e5 0 rfl; have X5c1 := X5.f5 1; have X5e1 := X5.e5 1 rfl; have X5c2 := X5.f5 2; have X5e2 := X5.e5 2 rfl; have X5c3 := X5.f5 3; have X5e3 := X5.e5 3 rfl; have X5c4 := X5.f5 4; have X5e4 := X5.e5 4 rfl; have X5c5 := X5.f5 5; have X5e5 := X5.e5 5 rfl; have X5c6 := X5.f5 6; have X5e6 := X5.e5 6 rfl; skip)
    | (go_at_call 50; (with_reducible refine (HB3.out _ _ _ _ _ Y5.dc).mono ?_); rintro e w6 ⟨rfl, h6, k6⟩; have XE := Y5.call h6 k6; skip)
    | fail)
  go_step3
  refine And.intro rfl ?_
  change Code.wp Tryz.prog _ _ _ _
  go_wp2
  have XD := XE.dr
  have Xa0 := XE.f2 0; have Xb0 := XE.e2 0 rfl; have Xa1 := XE.f2 1; have Xb1 := XE.e2 1 rfl; have Xa2 := XE.f2 2; have Xb2 := XE.e2 2 rfl; have Xa3 := XE.f2 3; have Xb3 := XE.e2 3 rfl; have Xa4 := XE.f2 4; have Xb4 := XE.e2 4 rfl; have Xa5 := XE.f2 5; have Xb5 := XE.e2 5 rfl; have Xa6 := XE.f2 6; have Xb6 := XE.e2 6 rfl; skip
  have HS : Hid (∀ pv0 P0 c2' c5' w' s', Dx w (w.heap.size + 2) r w.heap.size (w.heap.size + 1) v pv0 bs P0 c2' c5' w' s' → w'.cell? ⟨w.heap.size + 2, 2, none⟩ = some (.int .i64 s'.e) ∧ w'.cell? ⟨w.heap.size + 2, 3, none⟩ = some (.int .i64 s'.ea)) := fun pv0 P0 c2' c5' w' s' B => ⟨B.d2, B.d3⟩
  have hSd := HS.out _ _ _ _ _ _ XD
  go_region_held3 (fun w' => w'.cell? ⟨w.heap.size + 2, 2, none⟩ = some (.int .i64 s3'.e) ∧ w'.cell? ⟨w.heap.size + 2, 3, none⟩ = some (.int .i64 s3'.ea)) (first | (with_reducible exact hSd) | (with_reducible exact ⟨((((((((XE.set2 0 (.string ⟨#[]⟩)).set2 1 (.string ⟨#[]⟩)).set2 2 (.bool false)).set2 3 (.bool false)).set2 4 (.slice none 0 0)).set2 5 (.slice none 0 0)).set2 6 (.slice none 0 0))).dr.d2, ((((((((XE.set2 0 (.string ⟨#[]⟩)).set2 1 (.string ⟨#[]⟩)).set2 2 (.bool false)).set2 3 (.bool false)).set2 4 (.slice none 0 0)).set2 5 (.slice none 0 0)).set2 6 (.slice none 0 0))).dr.d3⟩) | (with_reducible exact ((((((((XE.set2 0 (.string ⟨#[]⟩)).set2 1 (.string ⟨#[]⟩)).set2 2 (.bool false)).set2 3 (.bool false)).set2 4 (.slice none 0 0)).set2 5 (.slice none 0 0)).set2 6 (.slice none 0 0))).dr.d2) | (with_reducible exact ((((((((XE.set2 0 (.string ⟨#[]⟩)).set2 1 (.string ⟨#[]⟩)).set2 2 (.bool false)).set2 3 (.bool false)).set2 4 (.slice none 0 0)).set2 5 (.slice none 0 0)).set2 6 (.slice none 0 0))).dr.d3) | fail) (first | fail | fail)
  have BZ : Dx _ _ _ _ _ _ _ _ _ z26 _ _ _ := (((((((XE.set2 0 (.string ⟨#[]⟩)).set2 1 (.string ⟨#[]⟩)).set2 2 (.bool false)).set2 3 (.bool false)).set2 4 (.slice none 0 0)).set2 5 (.slice none 0 0)).set2 6 (.slice none 0 0)).dr
  go_wp2
  try rw [Exit.noGoto_ret]
  refine bodyPost_ret (results_cell_two rfl _ _ w.heap.size 26 _ (0, 0) _ rfl BZ.g2 Tryz.underlying26 rfl info26') rfl ?_
  exact ⟨_, _, _, rfl, ⟨Sl.nil _ _ _, Sl.nil _ _ _, Sl.nil _ _ _⟩, BZ.ch⟩

set_option maxRecDepth 100000 in
set_option maxHeartbeats 16000000 in
theorem decode_D (u : Value) (bs : List Int) (w : World) (hu : Rb w u bs) (hs : Sm bs) (hl : bs.length ≤ 90000)
    (m : Int) (s1 : St) (e1 : iR bs (cl 0) = (m, s1)) (hm : m = 1396851505) (P : List ByteArray) (s2 : St) (e2 : listR 500 rtxR bs s1 = (P, s2)) (hb2 : bad s2 = false)
    (c : Cls) (s3 : St) (e3 : clsR P bs (sy s2) = (c, s3)) (hb3 : bad s3 = false) (s4 : St) (e4 : (oneR c bs (sy s3)).2 = s4) (hb4 : bad s4 = true) :
    Calls Tryz.prog 16 #[u] w fun e w' => ∃ vi vf vm, e = .returned (.tuple #[.agg #[.string noC.n, .string noC.s, .bool noC.it, .bool noC.ab, vi, vf, vm], .int .i64 (sy s4).e, .int .i64 (sy s4).ea]) ∧ ClsAt w' noC vi vf vm ∧ Ch w w' := by
  have t0 : decide (262144 < (bs.length : Int)) = false := by simp; omega
  have hNR := fun w' (k : Ch w w') => newReader_any u bs w' (hu.keep k).row hs (by omega)
  have H1 : Hid (∀ D r v w', Dc w' D r v (.slice none 0 0) bs [] (cl 0) → Calls Tryz.prog 47 #[.pointer (some ⟨r, 0, none⟩)] w' fun e w'' => e = .returned (.int .i64 m) ∧ Dc w'' D r v (.slice none 0 0) bs [] s1 ∧ Dk D r w' w'') := fun D r v w' h' => by
    have := i4_any D r v (.slice none 0 0) bs [] (cl 0) w' h'; rw [e1] at this; exact this
  subst hm
  have H2 : Hid (∀ D r v w', Dc w' D r v (.slice none 0 0) bs [] s1 → Calls Tryz.prog 48 #[.pointer (some ⟨D, 0, none⟩), .int .i64 500, .func (.func 49) #[.pointer (some ⟨r, 0, none⟩)] #[]] w' fun e w'' => ∃ l, e = .returned l ∧ Lx w' 9 1 l P.length (P.flatMap strCl) D r v (.slice none 0 0) bs [] w'' s2) := fun D r v w' h' => by
    have := listP_any D r v (.slice none 0 0) bs [] s1 rtxR 500 (by decide) w' h' (fun w0 s0 h0 => rtext_any D r v (.slice none 0 0) bs [] s0 w0 h0); rw [e2] at this; exact this
  have HB2 : Hid (∀ D r v pv w', Dc w' D r v pv bs P s2 → Calls Tryz.prog 50 #[.pointer (some ⟨D, 0, none⟩)] w' fun e w'' => e = .returned (.bool false) ∧ Dc w'' D r v pv bs P (sy s2) ∧ Dk D r w' w'') := fun D r v pv w' h' => by
    have := failed_any D r v pv bs P s2 w' h'; rw [hb2] at this; exact this
  have hP : ∀ t ∈ P, t.size ≤ 65535 := by
    have := listR_all (r := rtxR) (bs := bs) 500 (fun t : ByteArray => t.size ≤ 65535) (fun s0 => rtxR_size bs hs s0) s1
    rw [e2] at this
    exact this
  have H3 : Hid (∀ D r v pv w', Dc w' D r v pv bs P (sy s2) → Calls Tryz.prog 51 #[.pointer (some ⟨D, 0, none⟩)] w' fun e w'' => ∃ vi vf vm, e = .returned (.agg #[.string c.n, .string c.s, .bool c.it, .bool c.ab, vi, vf, vm]) ∧ (∀ w3, Cs (fun g => g < w'.heap.size) w'' w3 → ClsAt w3 c vi vf vm) ∧ Dc w'' D r v pv bs P s3 ∧ Dk D r w' w'') := fun D r v pv w' h' => by
    have := class_any D r v pv bs P (sy s2) hP w' h'; rw [e3] at this; exact this
  have HB3 : Hid (∀ D r v pv w', Dc w' D r v pv bs P s3 → Calls Tryz.prog 50 #[.pointer (some ⟨D, 0, none⟩)] w' fun e w'' => e = .returned (.bool false) ∧ Dc w'' D r v pv bs P (sy s3) ∧ Dk D r w' w'') := fun D r v pv w' h' => by
    have := failed_any D r v pv bs P s3 w' h'; rw [hb3] at this; exact this
  have hE : EncF c := by
    have hiv : Iv False bs.length s1 := by
      have := Kps.iR' (p := 0) False bs (cl 0) (Nat.zero_le _) ⟨Nat.zero_le _, Nat.zero_le _, Or.inl rfl, False.elim⟩
      rw [e1] at this; exact this
    have hw := pool_wt bs 500 s1 hiv
    rw [e2] at hw
    have := encF_read (P := P) bs (sy s2) hP (Nat.le_trans hw hl)
    rw [e3] at this; exact this
  have HU : Hid (∀ w', Ch w w' → Rb w' u bs) := fun w' k => hu.keep k
  have H4 : Hid (∀ D r v pv vi vf vm w', Dc w' D r v pv bs P (sy s3) → ClsAt w' c vi vf vm → Rb w' u bs → Calls Tryz.prog 52 #[.pointer (some ⟨D, 0, none⟩), .agg #[.string c.n, .string c.s, .bool c.it, .bool c.ab, vi, vf, vm], u] w' fun e w'' => e = .returned (.tuple #[]) ∧ Dc w'' D r v pv bs P s4 ∧ Dk D r w' w'') := fun D r v pv vi vf vm w' h' hc hu' => by
    have := oneForm_any D r v pv bs P (sy s3) c vi vf vm u w' h' hc hu' hE; rw [e4] at this; exact this
  have HB4 : Hid (∀ D r v pv w', Dc w' D r v pv bs P s4 → Calls Tryz.prog 50 #[.pointer (some ⟨D, 0, none⟩)] w' fun e w'' => e = .returned (.bool true) ∧ Dc w'' D r v pv bs P (sy s4) ∧ Dk D r w' w'') := fun D r v pv w' h' => by
    have := failed_any D r v pv bs P s4 w' h'; rw [hb4] at this; exact this
  generalize sy s2 = s2' at *
  generalize sy s3 = s3' at *
  generalize sy s4 = s4' at *
  obtain ⟨au, cu, rfl, hu1, hu2⟩ := hu.form
  clear e1 e2 hb2 e3 hb3 hP e4 hb4 hE hs hl hu
  have hcz : Ch w (w3z w) := (((Ch.refl w).alloc _).alloc _).alloc _
  have hNR := hNR _ hcz
  have HST : Hid (∀ r v w1, Ch (w3z w) w1 → Rd w1 r v bs 0 false → (w3z w).heap.size ≤ r → _) := fun r v w1 a b c => Dx.start a b c
  have HQC : Hid (_ = _) := w3z_c w
  unfold w3z z26 at *
  go_enter Tryz.func16, Tryz.ntmps16
  go_wp2
  refine wp_scope_once 0 (by rfl) ?_
  go_wp2_with (first
    | (go_at_call 46; (with_reducible refine hNR.mono ?_); rintro e w1 ⟨r, v, rfl, hrd, k1, hr1⟩; have X1 := HST.out r v w1 k1 hrd hr1; have q0 : w1.cell? ⟨w.heap.size + 2, 0, none⟩ = some (.pointer none) := (by have := kept_at k1 HQC.out; simp [World.cell?, this]); have q1 : w1.frozen? ⟨w.heap.size + 2, 0, none⟩ = false := (by have := kept_at k1 HQC.out; simp [World.frozen?, this]); have X1d := X1.d0)
    | (go_at_call 47; (with_reducible refine (H1.out _ _ _ _ X1.dc).mono ?_); rintro e w2 ⟨rfl, h2, k2⟩; have X2 := X1.call h2 k2; have X2d := X2.d0; have X2e := X2.dc.c1; have X2f := X2.fD 1)
    | (go_at_call 48; (with_reducible refine (H2.out _ _ _ _ X2.dc).mono ?_); rintro e w3 ⟨l3, rfl, hL3⟩; have X3 := X2.call hL3.dc hL3.dk; obtain ⟨a3, c3, rfl⟩ := own_form hL3.own; have Y3 := X3.pool hL3.own X2.ch.size; have X3e := X3.dc.c1; have X3f := X3.fD 1)
    | (go_at_call 50; (with_reducible refine (HB2.out _ _ _ _ _ Y3.dc).mono ?_); rintro e w4 ⟨rfl, h4, k4⟩; have X4 := Y3.call h4 k4)
    | (go_at_call 51; (with_reducible refine (H3.out _ _ _ _ _ X4.dc).mono ?_); rintro e w5 ⟨vi, vf, vm, rfl, hA5, h5, k5⟩; have X5 := X4.call h5 k5; have hA50 := hA5 w5 (Cs.refl _ _); obtain ⟨ai, ci, rfl, _, _⟩ := hA50.1.form; obtain ⟨af, cf, rfl, _, _⟩ := hA50.2.1.form; obtain ⟨am, cm, rfl, _, _⟩ := hA50.2.2.form; clear hA50; have hb5 : w.heap.size + 1 < w4.heap.size := (Array.getElem?_eq_some_iff.1 X4.g5).1; have hb2 : w.heap.size < w4.heap.size := (Array.getElem?_eq_some_iff.1 X4.g2).1; have hbD : w.heap.size + 2 < w4.heap.size := X4.dc.lt; have hbr := X4.rd.lt; have Y5 : Dx _ _ _ _ _ _ _ _ _ _ #[.string c.n, .string c.s, .bool c.it, .bool c.ab, .slice ai c.im.length ci, .slice af c.fs.length cf, .slice am c.me.length cm] _ _ := (((((((X5.set5 0 (.string c.n)).set5 1 (.string c.s)).set5 2 (.bool c.it)).set5 3 (.bool c.ab)).set5 4 (.slice ai c.im.length ci)).set5 5 (.slice af c.fs.length cf)).set5 6 (.slice am c.me.length cm)); have G5 : Cs (fun g => g < w4.heap.size) w5 _ := (Cs.setCell (p := ⟨w.heap.size + 1, 6, none⟩) (Cs.setCell (p := ⟨w.heap.size + 1, 5, none⟩) (Cs.setCell (p := ⟨w.heap.size + 1, 4, none⟩) (Cs.setCell (p := ⟨w.heap.size + 1, 3, none⟩) (Cs.setCell (p := ⟨w.heap.size + 1, 2, none⟩) (Cs.setCell (p := ⟨w.heap.size + 1, 1, none⟩) (Cs.setCell (p := ⟨w.heap.size + 1, 0, none⟩) (Cs.refl _ w5) (Or.inl hb5) (.string c.n)) (Or.inl hb5) (.string c.s)) (Or.inl hb5) (.bool c.it)) (Or.inl hb5) (.bool c.ab)) (Or.inl hb5) (.slice ai c.im.length ci)) (Or.inl hb5) (.slice af c.fs.length cf)) (Or.inl hb5) (.slice am c.me.length cm)); have X5c0 := X5.f5 0; have X5e0 := X5.e5 0 rfl; have X5c1 := X5.f5 1; have X5e1 := X5.e5 1 rfl; have X5c2 := X5.f5 2; have X5e2 := X5.e5 2 rfl; have X5c3 := X5.f5 3; have X5e3 := X5.e5 3 rfl; have X5c4 := X5.f5 4; have X5e4 := X5.e5 4 rfl; have X5c5 := X5.f5 5; have X5e5 := X5.e5 5 rfl; have X5c6 := X5.f5 6; have X5e6 := X5.e5 6 rfl; skip)
    | (go_at_call 50; (with_reducible refine (HB3.out _ _ _ _ _ Y5.dc).mono ?_); rintro e w6 ⟨rfl, h6, k6⟩; have X6 := Y5.call h6 k6; have G6 := G5.trans (k6.mono (T := fun g => g < w4.heap.size) (fun g _ hg => hg.elim (fun e => by rw [e]; exact hbD) (fun e => by rw [e]; exact hbr))); have X6c0 := X6.f5 0; have X6e0 := X6.e5 0 rfl; have X6c1 := X6.f5 1; have X6e1 := X6.e5 1 rfl; have X6c2 := X6.f5 2; have X6e2 := X6.e5 2 rfl; have X6c3 := X6.f5 3; have X6e3 := X6.e5 3 rfl; have X6c4 := X6.f5 4; have X6e4 := X6.e5 4 rfl; have X6c5 := X6.f5 5; have X6e5 := X6.e5 5 rfl; have X6c6 := X6.f5 6; have X6e6 := X6.e5 6 rfl; skip)
    | (go_at_call 52; (with_reducible refine (H4.out _ _ _ _ _ _ _ _ X6.dc (hA5 _ G6) (HU.out _ X6.ch)).mono ?_); rintro e w7 ⟨rfl, h7, k7⟩; have X7 := X6.call h7 k7; have G7 := G6.trans (k7.mono (T := fun g => g < w4.heap.size) (fun g _ hg => hg.elim (fun e => by rw [e]; exact hbD) (fun e => by rw [e]; exact hbr))))
    | (go_at_call 50; (with_reducible refine (HB4.out _ _ _ _ _ X7.dc).mono ?_); rintro e w8 ⟨rfl, h8, k8⟩; have XE := X7.call h8 k8; skip)
    | fail)
  go_step3
  refine And.intro rfl ?_
  change Code.wp Tryz.prog _ _ _ _
  go_wp2
  have XD := XE.dr
  have Xa0 := XE.f2 0; have Xb0 := XE.e2 0 rfl; have Xa1 := XE.f2 1; have Xb1 := XE.e2 1 rfl; have Xa2 := XE.f2 2; have Xb2 := XE.e2 2 rfl; have Xa3 := XE.f2 3; have Xb3 := XE.e2 3 rfl; have Xa4 := XE.f2 4; have Xb4 := XE.e2 4 rfl; have Xa5 := XE.f2 5; have Xb5 := XE.e2 5 rfl; have Xa6 := XE.f2 6; have Xb6 := XE.e2 6 rfl; skip
  have HS : Hid (∀ pv0 P0 c2' c5' w' s', Dx w (w.heap.size + 2) r w.heap.size (w.heap.size + 1) v pv0 bs P0 c2' c5' w' s' → w'.cell? ⟨w.heap.size + 2, 2, none⟩ = some (.int .i64 s'.e) ∧ w'.cell? ⟨w.heap.size + 2, 3, none⟩ = some (.int .i64 s'.ea)) := fun pv0 P0 c2' c5' w' s' B => ⟨B.d2, B.d3⟩
  have hSd := HS.out _ _ _ _ _ _ XD
  go_region_held3 (fun w' => w'.cell? ⟨w.heap.size + 2, 2, none⟩ = some (.int .i64 s4'.e) ∧ w'.cell? ⟨w.heap.size + 2, 3, none⟩ = some (.int .i64 s4'.ea)) (first | (with_reducible exact hSd) | (with_reducible exact ⟨((((((((XE.set2 0 (.string ⟨#[]⟩)).set2 1 (.string ⟨#[]⟩)).set2 2 (.bool false)).set2 3 (.bool false)).set2 4 (.slice none 0 0)).set2 5 (.slice none 0 0)).set2 6 (.slice none 0 0))).dr.d2, ((((((((XE.set2 0 (.string ⟨#[]⟩)).set2 1 (.string ⟨#[]⟩)).set2 2 (.bool false)).set2 3 (.bool false)).set2 4 (.slice none 0 0)).set2 5 (.slice none 0 0)).set2 6 (.slice none 0 0))).dr.d3⟩) | (with_reducible exact ((((((((XE.set2 0 (.string ⟨#[]⟩)).set2 1 (.string ⟨#[]⟩)).set2 2 (.bool false)).set2 3 (.bool false)).set2 4 (.slice none 0 0)).set2 5 (.slice none 0 0)).set2 6 (.slice none 0 0))).dr.d2) | (with_reducible exact ((((((((XE.set2 0 (.string ⟨#[]⟩)).set2 1 (.string ⟨#[]⟩)).set2 2 (.bool false)).set2 3 (.bool false)).set2 4 (.slice none 0 0)).set2 5 (.slice none 0 0)).set2 6 (.slice none 0 0))).dr.d3) | fail) (first | fail | fail)
  have BZ : Dx _ _ _ _ _ _ _ _ _ z26 _ _ _ := (((((((XE.set2 0 (.string ⟨#[]⟩)).set2 1 (.string ⟨#[]⟩)).set2 2 (.bool false)).set2 3 (.bool false)).set2 4 (.slice none 0 0)).set2 5 (.slice none 0 0)).set2 6 (.slice none 0 0)).dr
  go_wp2
  try rw [Exit.noGoto_ret]
  refine bodyPost_ret (results_cell_two rfl _ _ w.heap.size 26 _ (0, 0) _ rfl BZ.g2 Tryz.underlying26 rfl info26') rfl ?_
  exact ⟨_, _, _, rfl, ⟨Sl.nil _ _ _, Sl.nil _ _ _, Sl.nil _ _ _⟩, BZ.ch⟩

set_option maxRecDepth 100000 in
set_option maxHeartbeats 16000000 in
theorem decode_E (u : Value) (bs : List Int) (w : World) (hu : Rb w u bs) (hs : Sm bs) (hl : bs.length ≤ 90000)
    (m : Int) (s1 : St) (e1 : iR bs (cl 0) = (m, s1)) (hm : m = 1396851505) (P : List ByteArray) (s2 : St) (e2 : listR 500 rtxR bs s1 = (P, s2)) (hb2 : bad s2 = false)
    (c : Cls) (s3 : St) (e3 : clsR P bs (sy s2) = (c, s3)) (hb3 : bad s3 = false) (s4 : St) (e4 : (oneR c bs (sy s3)).2 = s4) (hb4 : bad s4 = false) :
    Calls Tryz.prog 16 #[u] w fun e w' => ∃ vi vf vm, e = .returned (.tuple #[.agg #[.string c.n, .string c.s, .bool c.it, .bool c.ab, vi, vf, vm], .int .i64 (sy s4).e, .int .i64 (sy s4).ea]) ∧ ClsAt w' c vi vf vm ∧ Ch w w' := by
  have t0 : decide (262144 < (bs.length : Int)) = false := by simp; omega
  have hNR := fun w' (k : Ch w w') => newReader_any u bs w' (hu.keep k).row hs (by omega)
  have H1 : Hid (∀ D r v w', Dc w' D r v (.slice none 0 0) bs [] (cl 0) → Calls Tryz.prog 47 #[.pointer (some ⟨r, 0, none⟩)] w' fun e w'' => e = .returned (.int .i64 m) ∧ Dc w'' D r v (.slice none 0 0) bs [] s1 ∧ Dk D r w' w'') := fun D r v w' h' => by
    have := i4_any D r v (.slice none 0 0) bs [] (cl 0) w' h'; rw [e1] at this; exact this
  subst hm
  have H2 : Hid (∀ D r v w', Dc w' D r v (.slice none 0 0) bs [] s1 → Calls Tryz.prog 48 #[.pointer (some ⟨D, 0, none⟩), .int .i64 500, .func (.func 49) #[.pointer (some ⟨r, 0, none⟩)] #[]] w' fun e w'' => ∃ l, e = .returned l ∧ Lx w' 9 1 l P.length (P.flatMap strCl) D r v (.slice none 0 0) bs [] w'' s2) := fun D r v w' h' => by
    have := listP_any D r v (.slice none 0 0) bs [] s1 rtxR 500 (by decide) w' h' (fun w0 s0 h0 => rtext_any D r v (.slice none 0 0) bs [] s0 w0 h0); rw [e2] at this; exact this
  have HB2 : Hid (∀ D r v pv w', Dc w' D r v pv bs P s2 → Calls Tryz.prog 50 #[.pointer (some ⟨D, 0, none⟩)] w' fun e w'' => e = .returned (.bool false) ∧ Dc w'' D r v pv bs P (sy s2) ∧ Dk D r w' w'') := fun D r v pv w' h' => by
    have := failed_any D r v pv bs P s2 w' h'; rw [hb2] at this; exact this
  have hP : ∀ t ∈ P, t.size ≤ 65535 := by
    have := listR_all (r := rtxR) (bs := bs) 500 (fun t : ByteArray => t.size ≤ 65535) (fun s0 => rtxR_size bs hs s0) s1
    rw [e2] at this
    exact this
  have H3 : Hid (∀ D r v pv w', Dc w' D r v pv bs P (sy s2) → Calls Tryz.prog 51 #[.pointer (some ⟨D, 0, none⟩)] w' fun e w'' => ∃ vi vf vm, e = .returned (.agg #[.string c.n, .string c.s, .bool c.it, .bool c.ab, vi, vf, vm]) ∧ (∀ w3, Cs (fun g => g < w'.heap.size) w'' w3 → ClsAt w3 c vi vf vm) ∧ Dc w'' D r v pv bs P s3 ∧ Dk D r w' w'') := fun D r v pv w' h' => by
    have := class_any D r v pv bs P (sy s2) hP w' h'; rw [e3] at this; exact this
  have HB3 : Hid (∀ D r v pv w', Dc w' D r v pv bs P s3 → Calls Tryz.prog 50 #[.pointer (some ⟨D, 0, none⟩)] w' fun e w'' => e = .returned (.bool false) ∧ Dc w'' D r v pv bs P (sy s3) ∧ Dk D r w' w'') := fun D r v pv w' h' => by
    have := failed_any D r v pv bs P s3 w' h'; rw [hb3] at this; exact this
  have hE : EncF c := by
    have hiv : Iv False bs.length s1 := by
      have := Kps.iR' (p := 0) False bs (cl 0) (Nat.zero_le _) ⟨Nat.zero_le _, Nat.zero_le _, Or.inl rfl, False.elim⟩
      rw [e1] at this; exact this
    have hw := pool_wt bs 500 s1 hiv
    rw [e2] at hw
    have := encF_read (P := P) bs (sy s2) hP (Nat.le_trans hw hl)
    rw [e3] at this; exact this
  have HU : Hid (∀ w', Ch w w' → Rb w' u bs) := fun w' k => hu.keep k
  have H4 : Hid (∀ D r v pv vi vf vm w', Dc w' D r v pv bs P (sy s3) → ClsAt w' c vi vf vm → Rb w' u bs → Calls Tryz.prog 52 #[.pointer (some ⟨D, 0, none⟩), .agg #[.string c.n, .string c.s, .bool c.it, .bool c.ab, vi, vf, vm], u] w' fun e w'' => e = .returned (.tuple #[]) ∧ Dc w'' D r v pv bs P s4 ∧ Dk D r w' w'') := fun D r v pv vi vf vm w' h' hc hu' => by
    have := oneForm_any D r v pv bs P (sy s3) c vi vf vm u w' h' hc hu' hE; rw [e4] at this; exact this
  have HB4 : Hid (∀ D r v pv w', Dc w' D r v pv bs P s4 → Calls Tryz.prog 50 #[.pointer (some ⟨D, 0, none⟩)] w' fun e w'' => e = .returned (.bool false) ∧ Dc w'' D r v pv bs P (sy s4) ∧ Dk D r w' w'') := fun D r v pv w' h' => by
    have := failed_any D r v pv bs P s4 w' h'; rw [hb4] at this; exact this
  have HZ : Hid ((sy s4).e = 0 ∧ (sy s4).ea = 0) := by
    have h1 : (sy s4).e = 0 := by simpa [bad] using hb4
    refine ⟨h1, ?_⟩
    unfold sy at h1 ⊢
    split
    · next h => 
      rw [if_pos h] at h1
      split
      · next h2 => rw [if_pos h2] at h1; simp at h1
      · rfl
    · next h => rw [if_neg h] at h1; exact absurd h1 h
  generalize sy s2 = s2' at *
  generalize sy s3 = s3' at *
  generalize sy s4 = s4' at *
  obtain ⟨au, cu, rfl, hu1, hu2⟩ := hu.form
  clear e1 e2 hb2 e3 hb3 hP e4 hb4 hE hs hl hu
  have hcz : Ch w (w3z w) := (((Ch.refl w).alloc _).alloc _).alloc _
  have hNR := hNR _ hcz
  have HST : Hid (∀ r v w1, Ch (w3z w) w1 → Rd w1 r v bs 0 false → (w3z w).heap.size ≤ r → _) := fun r v w1 a b c => Dx.start a b c
  have HQC : Hid (_ = _) := w3z_c w
  unfold w3z z26 at *
  go_enter Tryz.func16, Tryz.ntmps16
  go_wp2
  go_step3
  go_wp2_with (first
    | (go_at_call 46; (with_reducible refine hNR.mono ?_); rintro e w1 ⟨r, v, rfl, hrd, k1, hr1⟩; have X1 := HST.out r v w1 k1 hrd hr1; have q0 : w1.cell? ⟨w.heap.size + 2, 0, none⟩ = some (.pointer none) := (by have := kept_at k1 HQC.out; simp [World.cell?, this]); have q1 : w1.frozen? ⟨w.heap.size + 2, 0, none⟩ = false := (by have := kept_at k1 HQC.out; simp [World.frozen?, this]); have X1d := X1.d0)
    | (go_at_call 47; (with_reducible refine (H1.out _ _ _ _ X1.dc).mono ?_); rintro e w2 ⟨rfl, h2, k2⟩; have X2 := X1.call h2 k2; have X2d := X2.d0; have X2e := X2.dc.c1; have X2f := X2.fD 1)
    | (go_at_call 48; (with_reducible refine (H2.out _ _ _ _ X2.dc).mono ?_); rintro e w3 ⟨l3, rfl, hL3⟩; have X3 := X2.call hL3.dc hL3.dk; obtain ⟨a3, c3, rfl⟩ := own_form hL3.own; have Y3 := X3.pool hL3.own X2.ch.size; have X3e := X3.dc.c1; have X3f := X3.fD 1)
    | (go_at_call 50; (with_reducible refine (HB2.out _ _ _ _ _ Y3.dc).mono ?_); rintro e w4 ⟨rfl, h4, k4⟩; have X4 := Y3.call h4 k4)
    | (go_at_call 51; (with_reducible refine (H3.out _ _ _ _ _ X4.dc).mono ?_); rintro e w5 ⟨vi, vf, vm, rfl, hA5, h5, k5⟩; have X5 := X4.call h5 k5; have hA50 := hA5 w5 (Cs.refl _ _); obtain ⟨ai, ci, rfl, _, _⟩ := hA50.1.form; obtain ⟨af, cf, rfl, _, _⟩ := hA50.2.1.form; obtain ⟨am, cm, rfl, _, _⟩ := hA50.2.2.form; clear hA50; have hb5 : w.heap.size + 1 < w4.heap.size := (Array.getElem?_eq_some_iff.1 X4.g5).1; have hb2 : w.heap.size < w4.heap.size := (Array.getElem?_eq_some_iff.1 X4.g2).1; have hbD : w.heap.size + 2 < w4.heap.size := X4.dc.lt; have hbr := X4.rd.lt; have Y5 : Dx _ _ _ _ _ _ _ _ _ _ #[.string c.n, .string c.s, .bool c.it, .bool c.ab, .slice ai c.im.length ci, .slice af c.fs.length cf, .slice am c.me.length cm] _ _ := (((((((X5.set5 0 (.string c.n)).set5 1 (.string c.s)).set5 2 (.bool c.it)).set5 3 (.bool c.ab)).set5 4 (.slice ai c.im.length ci)).set5 5 (.slice af c.fs.length cf)).set5 6 (.slice am c.me.length cm)); have G5 : Cs (fun g => g < w4.heap.size) w5 _ := (Cs.setCell (p := ⟨w.heap.size + 1, 6, none⟩) (Cs.setCell (p := ⟨w.heap.size + 1, 5, none⟩) (Cs.setCell (p := ⟨w.heap.size + 1, 4, none⟩) (Cs.setCell (p := ⟨w.heap.size + 1, 3, none⟩) (Cs.setCell (p := ⟨w.heap.size + 1, 2, none⟩) (Cs.setCell (p := ⟨w.heap.size + 1, 1, none⟩) (Cs.setCell (p := ⟨w.heap.size + 1, 0, none⟩) (Cs.refl _ w5) (Or.inl hb5) (.string c.n)) (Or.inl hb5) (.string c.s)) (Or.inl hb5) (.bool c.it)) (Or.inl hb5) (.bool c.ab)) (Or.inl hb5) (.slice ai c.im.length ci)) (Or.inl hb5) (.slice af c.fs.length cf)) (Or.inl hb5) (.slice am c.me.length cm)); have X5c0 := X5.f5 0; have X5e0 := X5.e5 0 rfl; have X5c1 := X5.f5 1; have X5e1 := X5.e5 1 rfl; have X5c2 := X5.f5 2; have X5e2 := X5.e5 2 rfl; have X5c3 := X5.f5 3; have X5e3 := X5.e5 3 rfl; have X5c4 := X5.f5 4; have X5e4 := X5.e5 4 rfl; have X5c5 := X5.f5 5; have X5e5 := X5.e5 5 rfl; have X5c6 := X5.f5 6; have X5e6 := X5.e5 6 rfl; skip)
    | (go_at_call 50; (with_reducible refine (HB3.out _ _ _ _ _ Y5.dc).mono ?_); rintro e w6 ⟨rfl, h6, k6⟩; have X6 := Y5.call h6 k6; have G6 := G5.trans (k6.mono (T := fun g => g < w4.heap.size) (fun g _ hg => hg.elim (fun e => by rw [e]; exact hbD) (fun e => by rw [e]; exact hbr))); have X6c0 := X6.f5 0; have X6e0 := X6.e5 0 rfl; have X6c1 := X6.f5 1; have X6e1 := X6.e5 1 rfl; have X6c2 := X6.f5 2; have X6e2 := X6.e5 2 rfl; have X6c3 := X6.f5 3; have X6e3 := X6.e5 3 rfl; have X6c4 := X6.f5 4; have X6e4 := X6.e5 4 rfl; have X6c5 := X6.f5 5; have X6e5 := X6.e5 5 rfl; have X6c6 := X6.f5 6; have X6e6 := X6.e5 6 rfl; skip)
    | (go_at_call 52; (with_reducible refine (H4.out _ _ _ _ _ _ _ _ X6.dc (hA5 _ G6) (HU.out _ X6.ch)).mono ?_); rintro e w7 ⟨rfl, h7, k7⟩; have X7 := X6.call h7 k7; have G7 := G6.trans (k7.mono (T := fun g => g < w4.heap.size) (fun g _ hg => hg.elim (fun e => by rw [e]; exact hbD) (fun e => by rw [e]; exact hbr))))
    | (go_at_call 50; (with_reducible refine (HB4.out _ _ _ _ _ X7.dc).mono ?_); rintro e w8 ⟨rfl, h8, k8⟩; have X8 := X7.call h8 k8; have G8 := G7.trans (k8.mono (T := fun g => g < w4.heap.size) (fun g _ hg => hg.elim (fun e => by rw [e]; exact hbD) (fun e => by rw [e]; exact hbr))); have X8c0 := X8.f5 0; have X8e0 := X8.e5 0 rfl; have X8c1 := X8.f5 1; have X8e1 := X8.e5 1 rfl; have X8c2 := X8.f5 2; have X8e2 := X8.e5 2 rfl; have X8c3 := X8.f5 3; have X8e3 := X8.e5 3 rfl; have X8c4 := X8.f5 4; have X8e4 := X8.e5 4 rfl; have X8c5 := X8.f5 5; have X8e5 := X8.e5 5 rfl; have X8c6 := X8.f5 6; have X8e6 := X8.e5 6 rfl; have X8a0 := X8.f2 0; have X8b0 := X8.e2 0 rfl; have X8a1 := X8.f2 1; have X8b1 := X8.e2 1 rfl; have X8a2 := X8.f2 2; have X8b2 := X8.e2 2 rfl; have X8a3 := X8.f2 3; have X8b3 := X8.e2 3 rfl; have X8a4 := X8.f2 4; have X8b4 := X8.e2 4 rfl; have X8a5 := X8.f2 5; have X8b5 := X8.e2 5 rfl; have X8a6 := X8.f2 6; have X8b6 := X8.e2 6 rfl; skip)
    | fail)
  have BZ : Dx _ _ _ _ _ _ _ _ _ #[.string c.n, .string c.s, .bool c.it, .bool c.ab, .slice ai c.im.length ci, .slice af c.fs.length cf, .slice am c.me.length cm] _ _ _ := (((((((X8.set2 0 (.string c.n)).set2 1 (.string c.s)).set2 2 (.bool c.it)).set2 3 (.bool c.ab)).set2 4 (.slice ai c.im.length ci)).set2 5 (.slice af c.fs.length cf)).set2 6 (.slice am c.me.length cm))
  have GZ := (Cs.setCell (p := ⟨w.heap.size, 6, none⟩) (Cs.setCell (p := ⟨w.heap.size, 5, none⟩) (Cs.setCell (p := ⟨w.heap.size, 4, none⟩) (Cs.setCell (p := ⟨w.heap.size, 3, none⟩) (Cs.setCell (p := ⟨w.heap.size, 2, none⟩) (Cs.setCell (p := ⟨w.heap.size, 1, none⟩) (Cs.setCell (p := ⟨w.heap.size, 0, none⟩) G8 (Or.inl hb2) (.string c.n)) (Or.inl hb2) (.string c.s)) (Or.inl hb2) (.bool c.it)) (Or.inl hb2) (.bool c.ab)) (Or.inl hb2) (.slice ai c.im.length ci)) (Or.inl hb2) (.slice af c.fs.length cf)) (Or.inl hb2) (.slice am c.me.length cm))
  try rw [Exit.noGoto_ret]
  refine bodyPost_ret (results_cell_two rfl _ _ w.heap.size 26 _ (0, 0) _ rfl BZ.g2 Tryz.underlying26 rfl info26') rfl ?_
  obtain ⟨z1, z2⟩ := HZ.out
  exact ⟨_, _, _, by rw [z1, z2]; rfl, hA5 _ GZ, BZ.ch⟩

theorem decode_any (u : Value) (bs : List Int) (w : World) (hu : Rb w u bs) (hs : Sm bs) (hl : bs.length ≤ 90000) :
    Calls Tryz.prog 16 #[u] w fun e w' => ∃ vi vf vm, e = .returned (.tuple #[.agg #[.string (decR bs (cl 0)).1.n, .string (decR bs (cl 0)).1.s, .bool (decR bs (cl 0)).1.it, .bool (decR bs (cl 0)).1.ab, vi, vf, vm], .int .i64 (decR bs (cl 0)).2.e, .int .i64 (decR bs (cl 0)).2.ea]) ∧ ClsAt w' (decR bs (cl 0)).1 vi vf vm ∧ Ch w w' := by
  obtain ⟨⟨m, s1⟩, e1⟩ : ∃ q, iR bs (cl 0) = q := ⟨_, rfl⟩
  obtain ⟨⟨P, s2⟩, e2⟩ : ∃ q, listR 500 rtxR bs s1 = q := ⟨_, rfl⟩
  obtain ⟨⟨c, s3⟩, e3⟩ : ∃ q, clsR P bs (sy s2) = q := ⟨_, rfl⟩
  obtain ⟨s4, e4⟩ : ∃ q, (oneR c bs (sy s3)).2 = q := ⟨_, rfl⟩
  have e5 : (oneR c bs (sy s3)).1 = c := rfl
  by_cases hm : m = 1396851505
  · have hp : preR bs (cl 0) = fb noC (clsR P) bs s2 := by unfold preR bd; rw [e1]; dsimp only; rw [if_pos hm, e2]
    cases hb2 : bad s2 with
    | true =>
      have hq : decR bs (cl 0) = (noC, sy s2) := by
        have : preR bs (cl 0) = (noC, sy s2) := by rw [hp]; simp only [fb, hb2, if_true]
        show pstR (preR bs (cl 0)).1 bs (preR bs (cl 0)).2 = _
        rw [this]
        have hb : bad (sy s2) = true := bad_of (sy_bad hb2)
        unfold pstR fb
        dsimp only
        rw [if_pos hb, sy_of (sy_bad hb2)]
      rw [hq]
      exact decode_B u bs w hu hs hl m s1 e1 hm P s2 e2 hb2
    | false =>
      have hp2 : preR bs (cl 0) = (c, s3) := by rw [hp]; simp only [fb, hb2, Bool.false_eq_true, if_false, e3]
      have hq0 : decR bs (cl 0) = pstR c bs s3 := by show pstR (preR bs (cl 0)).1 bs (preR bs (cl 0)).2 = _; rw [hp2]
      cases hb3 : bad s3 with
      | true =>
        have hq : decR bs (cl 0) = (noC, sy s3) := by rw [hq0]; unfold pstR fb; rw [if_pos hb3]
        rw [hq]
        exact decode_C u bs w hu hs hl m s1 e1 hm P s2 e2 hb2 c s3 e3 hb3
      | false =>
        cases hb4 : bad s4 with
        | true =>
          have hq : decR bs (cl 0) = (noC, sy s4) := by
            rw [hq0]; unfold pstR fb bd; dsimp only; rw [hb3, e4, hb4]; simp
          rw [hq]
          exact decode_D u bs w hu hs hl m s1 e1 hm P s2 e2 hb2 c s3 e3 hb3 s4 e4 hb4
        | false =>
          have hq : decR bs (cl 0) = (c, sy s4) := by
            rw [hq0]; unfold pstR fb bd; dsimp only; rw [hb3, e4, hb4, e5]; simp
          rw [hq]
          exact decode_E u bs w hu hs hl m s1 e1 hm P s2 e2 hb2 c s3 e3 hb3 s4 e4 hb4
  · have hq : decR bs (cl 0) = (noC, fl s1 7 0) := by
      have hp : preR bs (cl 0) = (noC, fl s1 7 0) := by unfold preR bd; rw [e1]; dsimp only; rw [if_neg hm]
      have hn := fl_e s1 (e := 7) (by decide) 0
      show pstR (preR bs (cl 0)).1 bs (preR bs (cl 0)).2 = _
      rw [hp]
      unfold pstR fb
      dsimp only
      rw [if_pos (bad_of hn), sy_of hn]
    rw [hq]
    exact decode_A u bs w hu hs hl m s1 e1 hm
end Go.Proofs.YtdalibfgkkgcpaaGreat
