/- A class's own field of a name; the first of a row of classes that has a field. -/
import Derived.Test.YthmepecmeambmaaGreatKLyC
namespace Go.Proofs.YthmepecmeambmaaGreat
open Go.RowKit
set_option linter.unusedVariables false

theorem one3 (a b : ByteArray) (c : Bool) : (#[Value.string a, .string b, .bool c].all (·.oneCell')) = true := by kernel_rfl
set_option maxHeartbeats 4000000 in
theorem ixF199 (d : Nat) (pd : Fld → Bool) (xs : List Fld) (v : Value) (w : World) (hv : Sl 3 RF w v xs) (hf : ∀ w', Ch w w' → ∀ x ∈ xs, Calls Tryz.prog 199 #[.agg #[.string x.n, .string x.d, .bool x.st], .pointer (some ⟨d, 0, none⟩)] w' fun e w2 => e = .returned (.bool (pd x)) ∧ Ch w' w2) :
    Calls Tryz.prog 198 #[v, .func (.func 199) #[] #[.pointer (some ⟨d, 0, none⟩)]] w fun e w' => e = .returned (.int .i64 (idI pd xs)) ∧ Ch w w' := by
  obtain ⟨ao, c, rfl, hc1, hc2⟩ := hv.form
  have HS : Hid (Sl 3 RF w (.slice ao xs.length c) xs) := hv
  have HF : Hid (∀ w', Ch w w' → ∀ x ∈ xs, Calls Tryz.prog 199 #[.agg #[.string x.n, .string x.d, .bool x.st], .pointer (some ⟨d, 0, none⟩)] w' fun e w2 => e = .returned (.bool (pd x)) ∧ Ch w' w2) := hf
  clear hv hf
  obtain ⟨ans, hans⟩ : ∃ q, idI pd xs = q := ⟨_, rfl⟩
  rw [hans]
  have HA : Hid (idJ pd 0 (xs.drop 0) = ans) := hans
  clear hans
  go_enter Tryz.func198, Tryz.ntmps198
  go_wp2_with fail
  go_loopw [8] (fun i wr => ∃ k : Nat, k ≤ xs.length ∧ i = .int .i64 k ∧ idJ pd k (xs.drop k) = ans ∧ Ch w wr) (fun i _ => xs.length - (intOf i).toNat)
  case atStart => exact ⟨0, Nat.zero_le _, rfl, HA.out, Ch.refl _⟩
  case round =>
    obtain ⟨k, hk, rfl, hno, hcr⟩ := hrel
    by_cases hlt : k < xs.length
    · obtain ⟨x, hx⟩ : ∃ x, xs[k]? = some x := ⟨_, List.getElem?_eq_getElem hlt⟩
      obtain ⟨b, off, rfl, q0, q1, q2⟩ := (HS.out.keepF hcr).atF hx
      have hfk := HF.out wr hcr x (List.mem_of_getElem? hx)
      rw [idJ_step pd hx] at hno
      have HN : Hid ((if pd x then (k : Int) else idJ pd (k + 1) (xs.drop (k + 1))) = ans) := hno
      clear hno hx
      obtain ⟨bq, hbq⟩ : ∃ q, pd x = q := ⟨_, rfl⟩
      rw [hbq] at hfk HN
      clear hbq
      cases bq with
      | true =>
        go_wp2_with (first
          | (go_at_call 199; (with_reducible refine hfk.mono ?_); rintro e w3 ⟨rfl, c3⟩)
          | fail)
        go_ret
        exact ⟨by rw [← HN.out]; rfl, hcr.trans c3⟩
      | false =>
        go_wp2_with (first
          | (go_at_call 199; (with_reducible refine hfk.mono ?_); rintro e w3 ⟨rfl, c3⟩)
          | fail)
        go_roundw
        case rel => exact ⟨k + 1, by omega, by go_num, by rw [← HN.out]; rfl, hcr.trans c3⟩
        case measure => simp [intOf]; omega
    · obtain rfl : k = xs.length := by omega
      rw [List.drop_length] at hno
      subst hno
      go_wp2_with fail
      go_ret
      exact ⟨rfl, hcr⟩


def fsOf (L : ByteArray → Option Cls) (n : ByteArray) : List Fld := match L n with | some c => c.fs | none => []
/-- A class's own field. -/
def fldQ (P : List Cls) (c n : ByteArray) : Option Fld := (fsOf (lk P) c).find? fun f => nq f.n n
def noF : Fld := ⟨⟨#[]⟩, ⟨#[]⟩, false⟩
def fV (f : Fld) : Value := .agg #[.string f.n, .string f.d, .bool f.st]
theorem idJf_none {α : Type} (pd : α → Bool) (xs : List α) (h : xs.find? pd = none) : idI pd xs = -1 := idJ_none pd xs 0 h

set_option maxHeartbeats 4000000 in
theorem fIs_any (n : ByteArray) (o : Fld) (e : Nat) (w : World) (h0 : w.cell? ⟨e, 0, none⟩ = some (.string n)) :
    Calls Tryz.prog 199 #[.agg #[.string o.n, .string o.d, .bool o.st], .pointer (some ⟨e, 0, none⟩)] w fun e w' => e = .returned (.bool (nq o.n n)) ∧ Ch w w' := by
  obtain ⟨xn, xd, xst⟩ := o
  dsimp only
  have hq : (xn.toList == n.toList) = nq xn n := toList_nq _ _
  generalize nq xn n = r at *
  have g0 := cell_keep ((Ch.refl w).alloc (.cells #[.string xn, .string xd, .bool xst] 103)) h0
  cases r <;>
  · go_enter Tryz.func199, Tryz.ntmps199
    go_wp2
    go_ret
    exact ⟨rfl, (Ch.refl w).alloc _⟩

set_option maxHeartbeats 16000000 in
set_option maxRecDepth 100000 in
theorem lkField_any (c n : ByteArray) (P : List Cls) (g b : Nat) (w : World) (h : Pm w g b P) (hT : okCs P) :
    Calls Tryz.prog 133 #[.pointer (some ⟨g, 0, none⟩), .string c, .string n] w fun e w' => e = .returned (.tuple #[fV ((fldQ P c n).getD noF), .bool (fldQ P c n).isSome]) ∧ Ch w w' := by
  have B1 := Bo.new (Ch.refl w) #[.string n] 9
  have R0 := Bo.new B1.ch #[.string ⟨#[]⟩, .string ⟨#[]⟩, .bool false] 103
  have B1 := B1.call ((Ch.refl _).alloc (.cells #[.string ⟨#[]⟩, .string ⟨#[]⟩, .bool false] 103))
  have e1 : (w.alloc (.cells #[.string n] 9)).heap.size = w.heap.size + 1 := by simp
  rw [e1] at R0
  clear e1
  have hf := find_any c P g b _ (h.keep R0.ch)
  unfold fldQ fsOf
  cases hx : ixN P c with
  | none =>
    rw [pn_no hx] at hf
    rw [ix_none.1 hx]
    clear hx h
    go_enter Tryz.func133, Tryz.ntmps133
    go_wp2_with (first
      | (go_at_call 92; (with_reducible refine hf.mono ?_); clear hf; rintro e w2 ⟨rfl, c2⟩; have R := R0.call c2)
      | (refine wpList_store_row rfl 103 (.tmp 6) (.tmp 15) rfl (w.heap.size + 1) #[.string ⟨#[]⟩, .string ⟨#[]⟩, .bool false] rfl rfl 103 _ R.b infoF rfl (one3 _ _ _) ?_)
      | fail)
    have R6 := R.setRow #[.string ⟨#[]⟩, .string ⟨#[]⟩, .bool false]
    refine bodyPost_ret (results_cell_one rfl _ _ (w.heap.size + 1) 103 _ (0, 0) _ rfl R6.b Tryz.underlying103 rfl infoF) rfl ?_
    exact ⟨rfl, R6.ch⟩
  | some i =>
    obtain ⟨x, hxi, hxl, _⟩ := ix_some hx
    rw [pn_is hx] at hf
    unfold ptr at hf
    rw [hxl]
    dsimp only
    obtain ⟨vi, vf, vm, hat, p0, p1, p2, p3, p4, p5, p6⟩ := h.at hxi
    have hxT : clsT x ≤ 12000 := hT x (List.mem_of_getElem? hxi)
    have HM : Hid (∀ w', Ch w w' → w'.cell? ⟨w.heap.size, 0, none⟩ = some (.string n) → Calls Tryz.prog 198 #[vf, .func (.func 199) #[] #[.pointer (some ⟨w.heap.size, 0, none⟩)]] w' fun e w2 => e = .returned (.int .i64 (idI (fun f => nq f.n n) x.fs)) ∧ Ch w' w2) := fun w' k k1 =>
      ixF199 _ (fun f => nq f.n n) x.fs vf w' (hat.2.1.keepF k) (fun w2 q m _ => fIs_any n m _ w2 (cell_keep q k1))
    have HS : Hid (∀ w', Ch w w' → Sl 3 RF w' vf x.fs) := fun w' k => hat.2.1.keepF k
    have HQ : Hid (∀ w', Ch w w' → w'.cell? ⟨b, i * 7 + 5, none⟩ = some vf) := fun w' k => cell_keep k p5
    obtain ⟨am, cm, rfl, _, _⟩ := hat.2.1.form
    clear hat p0 p1 p2 p3 p4 p5 p6 hx hxi hxl h
    cases hm : x.fs.find? (fun f => nq f.n n) with
    | none =>
      have hi : idI (fun f => nq f.n n) x.fs = -1 := idJ_none _ _ _ hm
      rw [hi] at HM
      clear hi hm hxT
      go_enter Tryz.func133, Tryz.ntmps133
      go_wp2_with (first
        | (go_at_call 92; (with_reducible refine hf.mono ?_); clear hf; rintro e w2 ⟨rfl, c2⟩; have R := R0.call c2; have q1 := (B1.call c2).c 0 rfl; have q6 := HQ.out w2 R.ch; have hm := HM.out w2 R.ch q1)
        | (go_at_call 198; (with_reducible refine hm.mono ?_); clear hm; rintro e w3 ⟨rfl, c3⟩; have R3 := R.call c3)
        | (refine wpList_store_row rfl 103 (.tmp 6) (.tmp 24) rfl (w.heap.size + 1) #[.string ⟨#[]⟩, .string ⟨#[]⟩, .bool false] rfl rfl 103 _ R3.b infoF rfl (one3 _ _ _) ?_)
        | fail)
      have R6 := R3.setRow #[.string ⟨#[]⟩, .string ⟨#[]⟩, .bool false]
      refine bodyPost_ret (results_cell_one rfl _ _ (w.heap.size + 1) 103 _ (0, 0) _ rfl R6.b Tryz.underlying103 rfl infoF) rfl ?_
      exact ⟨rfl, R6.ch⟩
    | some m =>
      obtain ⟨k, hk1, hk2⟩ := idJ_some _ _ 0 hm
      have hi : idI (fun f => nq f.n n) x.fs = (k : Int) := by unfold idI; rw [hk1]; congr 1; omega
      rw [hi] at HM
      have hkl := (List.getElem?_eq_some_iff.1 hk2).1
      obtain ⟨_, hl, _⟩ := lim_i hxT
      clear hi hm hk1
      go_enter Tryz.func133, Tryz.ntmps133
      go_wp2_with (first
        | (go_at_call 92; (with_reducible refine hf.mono ?_); clear hf; rintro e w2 ⟨rfl, c2⟩; have R := R0.call c2; have q1 := (B1.call c2).c 0 rfl; have q6 := HQ.out w2 R.ch; have hm := HM.out w2 R.ch q1)
        | (go_at_call 198; (with_reducible refine hm.mono ?_); clear hm; rintro e w3 ⟨rfl, c3⟩; have R3 := R.call c3; have q63 := HQ.out w3 R3.ch; obtain ⟨bb, off, rfl, r0, r1, r2⟩ := (HS.out w3 R3.ch).atF hk2)
        | (refine wpList_store_row rfl 103 (.tmp 6) (.tmp 31) rfl (w.heap.size + 1) #[.string m.n, .string m.d, .bool m.st] rfl rfl 103 _ R3.b infoF rfl (one3 _ _ _) ?_)
        | fail)
      have R6 := R3.setRow #[.string m.n, .string m.d, .bool m.st]
      refine bodyPost_ret (results_cell_one rfl _ _ (w.heap.size + 1) 103 _ (0, 0) _ rfl R6.b Tryz.underlying103 rfl infoF) rfl ?_
      exact ⟨rfl, R6.ch⟩

def fldF (P : List Cls) (n d : ByteArray) (st : Bool) (c : ByteArray) : Option Fld := (fldQ P c n).filter fun f => nq f.d d && f.st == st
set_option maxHeartbeats 16000000 in
set_option maxRecDepth 100000 in
theorem askF_any (x n d : ByteArray) (s : Bool) (tp tn td ts : Nat) (P : List Cls) (g b : Nat) (w : World) (h : Pm w g b P) (hT : okCs P) (hp : w.cell? ⟨tp, 0, none⟩ = some (.pointer (some ⟨g, 0, none⟩))) (hn : w.cell? ⟨tn, 0, none⟩ = some (.string n)) (hd : w.cell? ⟨td, 0, none⟩ = some (.string d)) (hs : w.cell? ⟨ts, 0, none⟩ = some (.bool s)) :
    Calls Tryz.prog 132 #[.string x, .pointer (some ⟨tp, 0, none⟩), .pointer (some ⟨tn, 0, none⟩), .pointer (some ⟨td, 0, none⟩), .pointer (some ⟨ts, 0, none⟩)] w fun e w' => ∃ m, e = .returned (.tuple #[fV m, .bool (fldF P n d s x).isSome]) ∧ (∀ m', fldF P n d s x = some m' → m = m') ∧ Ch w w' := by
  have R0 := Bo.new (Ch.refl w) #[.string ⟨#[]⟩, .string ⟨#[]⟩, .bool false] 103
  have q1 := cell_keep R0.ch hp
  have q2 := cell_keep R0.ch hn
  have HDS : Hid (∀ w', Ch w w' → w'.cell? ⟨td, 0, none⟩ = some (.string d) ∧ w'.cell? ⟨ts, 0, none⟩ = some (.bool s)) := fun w' k => ⟨cell_keep k hd, cell_keep k hs⟩
  have hm := lkField_any x n P g b _ (h.keep R0.ch) hT
  clear h hp hn hd hs
  unfold fldF
  generalize fldQ P x n = o at *
  obtain ⟨t, m, ht, hmm⟩ : ∃ t m, o.isSome = t ∧ o.getD noF = m := ⟨_, _, rfl, rfl⟩
  rw [ht, hmm] at hm
  have hR : (Option.filter (fun f => nq f.d d && f.st == s) o).isSome = (t && (nq m.d d && m.st == s)) ∧ ∀ m', Option.filter (fun f => nq f.d d && f.st == s) o = some m' → m = m' := by
    subst ht hmm
    cases o with
    | none => exact ⟨rfl, fun _ h => by cases h⟩
    | some m =>
      constructor
      · rw [Option.filter_some]; split <;> simp_all
      · intro m' h
        simp only [Option.filter] at h
        split at h
        · simpa using h
        · cases h
  obtain ⟨hR1, hR2⟩ := hR
  rw [hR1]
  have HR : Hid (∀ m', Option.filter (fun f => nq f.d d && f.st == s) o = some m' → m = m') := hR2
  clear hR1 hR2 ht hmm
  obtain ⟨mn, md, st⟩ := m
  have hq : (md.toList == d.toList) = nq md d := toList_nq _ _
  unfold fV at *
  dsimp only at *
  generalize nq md d = r at *
  cases t with
  | false =>
    go_enter Tryz.func132, Tryz.ntmps132
    go_wp2_with (first
      | (go_at_call 133; (with_reducible refine hm.mono ?_); clear hm; rintro e w2 ⟨rfl, c2⟩; have R := R0.call c2; have T0 := Bo.new R.ch #[.string ⟨#[]⟩, .string ⟨#[]⟩, .bool false] 103; have R1 := R.call ((Ch.refl _).alloc (.cells #[.string ⟨#[]⟩, .string ⟨#[]⟩, .bool false] 103)))
      | (refine wpList_store_row rfl 103 (.tmp 8) (.tmp 15) rfl w2.heap.size #[.string mn, .string md, .bool st] rfl rfl 103 _ T0.b infoF rfl (one3 _ _ _) ?_; have T1 := (T0.setRow #[.string mn, .string md, .bool st]).call (Ch.refl _).drew; have R2 := (R1.farRow (g' := w2.heap.size) #[.string mn, .string md, .bool st] (Nat.ne_of_lt R.lt) R.ch.size).call (Ch.refl _).drew; obtain ⟨d1, d2⟩ := HDS.out _ T1.ch)
      | fail)
    refine wp_region_held_drew (S := fun w' => w'.cell? ⟨w2.heap.size, 0, none⟩ = some (.string mn) ∧ w'.cell? ⟨w2.heap.size, 1, none⟩ = some (.string md) ∧ w'.cell? ⟨w2.heap.size, 2, none⟩ = some (.bool st) ∧ w'.cell? ⟨td, 0, none⟩ = some (.string d) ∧ w'.cell? ⟨ts, 0, none⟩ = some (.bool s)) (by kernel_rfl) (by exact ⟨(T1).c 0 rfl, (T1).c 1 rfl, (T1).c 2 rfl, d1, d2⟩) (fun hHeld => ?_)
    refine wpAnyH_take (i := 0) (oi := ({ dst := some 17, op := Go.Op.load 103 (Go.Operand.tmp 8), type := 103, pos := "resolve.go:19", after := #[], guard := none } : Oper)) (v := ?_) rfl (by kernel_rfl) (by kernel_rfl) (by kernel_rfl) (fun _ _ _ h => h) (Or.inl ⟨by rfl, ?_⟩) (by assumption) ?_
    rotate_left
    focus (intro w' hSw; (try dsimp only at hSw); go_split_ands; go_simp; try with_reducible rfl)
    (try simp only [Act.put, List.setIfInBounds_toArray, List.set_cons_zero, List.set_cons_succ])
    refine wpAnyH_take (i := 1) (oi := ({ dst := some 18, op := Go.Op.move (Go.Operand.tmp 9), type := 4, pos := "resolve.go:19", after := #[], guard := none } : Oper)) (v := ?_) rfl (by kernel_rfl) (by kernel_rfl) (by kernel_rfl) (fun _ _ _ h => h) (Or.inl ⟨by rfl, ?_⟩) (by assumption) ?_
    rotate_left
    focus (intro w' hSw; (try dsimp only at hSw); go_split_ands; go_simp; try with_reducible rfl)
    (try simp only [Act.put, List.setIfInBounds_toArray, List.set_cons_zero, List.set_cons_succ])
    refine wpAnyH_take (i := 2) (oi := ({ dst := some 19, op := Go.Op.move (Go.Operand.tmp 18), type := 4, pos := "resolve.go:19", after := #[{ on := 1, ground := Go.Ground.data }], guard := none } : Oper)) (v := ?_) rfl (by kernel_rfl) (by kernel_rfl) (by kernel_rfl) (fun _ _ _ h => h) (Or.inl ⟨by rfl, ?_⟩) (by assumption) ?_
    rotate_left
    focus (intro w' hSw; (try dsimp only at hSw); go_split_ands; go_simp; try with_reducible rfl)
    (try simp only [Act.put, List.setIfInBounds_toArray, List.set_cons_zero, List.set_cons_succ])
    refine wpAnyH_take (i := 3) (oi := ({ dst := some 20, op := Go.Op.fieldAddr 103 (Go.Operand.tmp 8) 1, type := 0, pos := "resolve.go:19", after := #[{ on := 2, ground := Go.Ground.guard }], guard := some (2, true) } : Oper)) (v := undef) rfl (by kernel_rfl) (by kernel_rfl) (by kernel_rfl) (fun _ _ _ h => h) (Or.inr ⟨by rfl, rfl⟩) (by assumption) ?_
    (try simp only [Act.put, List.setIfInBounds_toArray, List.set_cons_zero, List.set_cons_succ])
    refine wpAnyH_take (i := 4) (oi := ({ dst := some 21, op := Go.Op.load 9 (Go.Operand.tmp 20), type := 9, pos := "resolve.go:19", after := #[{ on := 3, ground := Go.Ground.data }, { on := 2, ground := Go.Ground.guard }], guard := some (2, true) } : Oper)) (v := undef) rfl (by kernel_rfl) (by kernel_rfl) (by kernel_rfl) (fun _ _ _ h => h) (Or.inr ⟨by rfl, rfl⟩) (by assumption) ?_
    (try simp only [Act.put, List.setIfInBounds_toArray, List.set_cons_zero, List.set_cons_succ])
    refine wpAnyH_take (i := 5) (oi := ({ dst := some 22, op := Go.Op.load 9 (Go.Operand.tmp 3), type := 9, pos := "resolve.go:19", after := #[{ on := 2, ground := Go.Ground.guard }], guard := some (2, true) } : Oper)) (v := undef) rfl (by kernel_rfl) (by kernel_rfl) (by kernel_rfl) (fun _ _ _ h => h) (Or.inr ⟨by rfl, rfl⟩) (by assumption) ?_
    (try simp only [Act.put, List.setIfInBounds_toArray, List.set_cons_zero, List.set_cons_succ])
    refine wpAnyH_take (i := 6) (oi := ({ dst := some 23, op := Go.Op.binOp Go.BinOp.eql 9 (Go.Operand.tmp 21) (Go.Operand.tmp 22) 9, type := 4, pos := "resolve.go:19", after := #[{ on := 4, ground := Go.Ground.data }, { on := 5, ground := Go.Ground.data }, { on := 2, ground := Go.Ground.guard }], guard := some (2, true) } : Oper)) (v := undef) rfl (by kernel_rfl) (by kernel_rfl) (by kernel_rfl) (fun _ _ _ h => h) (Or.inr ⟨by rfl, rfl⟩) (by assumption) ?_
    (try simp only [Act.put, List.setIfInBounds_toArray, List.set_cons_zero, List.set_cons_succ])
    refine wpAnyH_take (i := 7) (oi := ({ dst := some 24, op := Go.Op.pick (Go.Operand.tmp 19) (Go.Operand.tmp 23) (Go.Operand.const (Go.Value.bool false)), type := 4, pos := "resolve.go:19", after := #[{ on := 2, ground := Go.Ground.data }, { on := 6, ground := Go.Ground.data }], guard := none } : Oper)) (v := ?_) rfl (by kernel_rfl) (by kernel_rfl) (by kernel_rfl) (fun _ _ _ h => h) (Or.inl ⟨by rfl, ?_⟩) (by assumption) ?_
    rotate_left
    focus (intro w' hSw; (try dsimp only at hSw); go_split_ands; go_simp; try with_reducible rfl)
    (try simp only [Act.put, List.setIfInBounds_toArray, List.set_cons_zero, List.set_cons_succ])
    refine wpAnyH_take (i := 8) (oi := ({ dst := some 25, op := Go.Op.move (Go.Operand.tmp 24), type := 4, pos := "resolve.go:19", after := #[{ on := 7, ground := Go.Ground.data }, { on := 2, ground := Go.Ground.chain }], guard := none } : Oper)) (v := ?_) rfl (by kernel_rfl) (by kernel_rfl) (by kernel_rfl) (fun _ _ _ h => h) (Or.inl ⟨by rfl, ?_⟩) (by assumption) ?_
    rotate_left
    focus (intro w' hSw; (try dsimp only at hSw); go_split_ands; go_simp; try with_reducible rfl)
    (try simp only [Act.put, List.setIfInBounds_toArray, List.set_cons_zero, List.set_cons_succ])
    refine wpAnyH_take (i := 9) (oi := ({ dst := some 26, op := Go.Op.fieldAddr 103 (Go.Operand.tmp 8) 2, type := 0, pos := "resolve.go:19", after := #[{ on := 8, ground := Go.Ground.guard }, { on := 14, ground := Go.Ground.gcOnly Go.Departure.lateStores }], guard := some (8, true) } : Oper)) (v := undef) rfl (by kernel_rfl) (by kernel_rfl) (by kernel_rfl) (fun _ _ _ h => h) (Or.inr ⟨by rfl, rfl⟩) (by assumption) ?_
    (try simp only [Act.put, List.setIfInBounds_toArray, List.set_cons_zero, List.set_cons_succ])
    refine wpAnyH_take (i := 10) (oi := ({ dst := some 27, op := Go.Op.load 4 (Go.Operand.tmp 26), type := 4, pos := "resolve.go:19", after := #[{ on := 9, ground := Go.Ground.data }, { on := 8, ground := Go.Ground.guard }, { on := 14, ground := Go.Ground.gcOnly Go.Departure.lateStores }], guard := some (8, true) } : Oper)) (v := undef) rfl (by kernel_rfl) (by kernel_rfl) (by kernel_rfl) (fun _ _ _ h => h) (Or.inr ⟨by rfl, rfl⟩) (by assumption) ?_
    (try simp only [Act.put, List.setIfInBounds_toArray, List.set_cons_zero, List.set_cons_succ])
    refine wpAnyH_take (i := 11) (oi := ({ dst := some 28, op := Go.Op.load 4 (Go.Operand.tmp 4), type := 4, pos := "resolve.go:19", after := #[{ on := 8, ground := Go.Ground.guard }, { on := 14, ground := Go.Ground.gcOnly Go.Departure.lateStores }], guard := some (8, true) } : Oper)) (v := undef) rfl (by kernel_rfl) (by kernel_rfl) (by kernel_rfl) (fun _ _ _ h => h) (Or.inr ⟨by rfl, rfl⟩) (by assumption) ?_
    (try simp only [Act.put, List.setIfInBounds_toArray, List.set_cons_zero, List.set_cons_succ])
    refine wpAnyH_take (i := 12) (oi := ({ dst := some 29, op := Go.Op.binOp Go.BinOp.eql 4 (Go.Operand.tmp 27) (Go.Operand.tmp 28) 4, type := 4, pos := "resolve.go:19", after := #[{ on := 10, ground := Go.Ground.data }, { on := 11, ground := Go.Ground.data }, { on := 8, ground := Go.Ground.guard }, { on := 14, ground := Go.Ground.gcOnly Go.Departure.lateStores }], guard := some (8, true) } : Oper)) (v := undef) rfl (by kernel_rfl) (by kernel_rfl) (by kernel_rfl) (fun _ _ _ h => h) (Or.inr ⟨by rfl, rfl⟩) (by assumption) ?_
    (try simp only [Act.put, List.setIfInBounds_toArray, List.set_cons_zero, List.set_cons_succ])
    refine wpAnyH_take (i := 13) (oi := ({ dst := some 30, op := Go.Op.pick (Go.Operand.tmp 25) (Go.Operand.tmp 29) (Go.Operand.const (Go.Value.bool false)), type := 4, pos := "resolve.go:19", after := #[{ on := 8, ground := Go.Ground.data }, { on := 12, ground := Go.Ground.data }, { on := 14, ground := Go.Ground.gcOnly Go.Departure.lateStores }], guard := none } : Oper)) (v := ?_) rfl (by kernel_rfl) (by kernel_rfl) (by kernel_rfl) (fun _ _ _ h => h) (Or.inl ⟨by rfl, ?_⟩) (by assumption) ?_
    rotate_left
    focus (intro w' hSw; (try dsimp only at hSw); go_split_ands; go_simp; try with_reducible rfl)
    (try simp only [Act.put, List.setIfInBounds_toArray, List.set_cons_zero, List.set_cons_succ])
    refine wpAnyH_ready (rs := [14]) (by kernel_rfl) (by simp) ?_
    refine AllReadyH.cons (o := ({ dst := none, op := Go.Op.store 103 (Go.Operand.tmp 6) (Go.Operand.tmp 17), type := 0, pos := "resolve.go:19", after := #[{ on := 0, ground := Go.Ground.data }, { on := 8, ground := Go.Ground.chain }, { on := 0, ground := Go.Ground.phase }, { on := 1, ground := Go.Ground.textOnly Go.Departure.lateStores }, { on := 2, ground := Go.Ground.textOnly Go.Departure.lateStores }, { on := 3, ground := Go.Ground.textOnly Go.Departure.lateStores }, { on := 4, ground := Go.Ground.textOnly Go.Departure.lateStores }, { on := 5, ground := Go.Ground.textOnly Go.Departure.lateStores }, { on := 6, ground := Go.Ground.textOnly Go.Departure.lateStores }, { on := 7, ground := Go.Ground.textOnly Go.Departure.lateStores }, { on := 8, ground := Go.Ground.textOnly Go.Departure.lateStores }, { on := 9, ground := Go.Ground.textOnly Go.Departure.lateStores }, { on := 10, ground := Go.Ground.textOnly Go.Departure.lateStores }, { on := 11, ground := Go.Ground.textOnly Go.Departure.lateStores }, { on := 12, ground := Go.Ground.textOnly Go.Departure.lateStores }, { on := 13, ground := Go.Ground.textOnly Go.Departure.lateStores }], guard := none } : Oper)) rfl (fun K hK => ?_) AllReadyH.nil
    refine wp_store_row 103 (.tmp 6) (.tmp 17) rfl w.heap.size #[.string mn, .string md, .bool st] rfl rfl 103 _ R2.b infoF rfl (one3 _ _ _) ?_
    have T2 := T1.farRow (g' := w.heap.size) #[.string mn, .string md, .bool st] (Nat.ne_of_gt R.lt) (Nat.le_refl _)
    have R3 := R2.setRow #[.string mn, .string md, .bool st]
    obtain ⟨e1, e2⟩ := HDS.out _ T2.ch
    refine hK.out _ _ ?_ (fun hHeld => ?_)
    exact ⟨(T2).c 0 rfl, (T2).c 1 rfl, (T2).c 2 rfl, e1, e2⟩
    clear hK K
    (try simp only [Act.put])
    refine wpAnyH_take (i := 15) (oi := ({ dst := some 7, op := Go.Op.assign (Go.Operand.tmp 30), type := 4, pos := "resolve.go:19", after := #[{ on := 13, ground := Go.Ground.data }, { on := 14, ground := Go.Ground.chain }, { on := 0, ground := Go.Ground.phase }, { on := 1, ground := Go.Ground.phase }, { on := 2, ground := Go.Ground.phase }, { on := 3, ground := Go.Ground.phase }, { on := 4, ground := Go.Ground.phase }, { on := 5, ground := Go.Ground.phase }, { on := 6, ground := Go.Ground.phase }, { on := 7, ground := Go.Ground.phase }, { on := 8, ground := Go.Ground.phase }, { on := 9, ground := Go.Ground.phase }, { on := 10, ground := Go.Ground.phase }, { on := 11, ground := Go.Ground.phase }, { on := 12, ground := Go.Ground.phase }, { on := 13, ground := Go.Ground.phase }, { on := 14, ground := Go.Ground.phase }], guard := none } : Oper)) (v := ?_) rfl (by kernel_rfl) (by kernel_rfl) (by kernel_rfl) (fun _ _ _ h => h) (Or.inl ⟨by rfl, ?_⟩) (by assumption) ?_
    rotate_left
    focus (intro w' hSw; (try dsimp only at hSw); go_split_ands; go_simp; try with_reducible rfl)
    (try simp only [Act.put, List.setIfInBounds_toArray, List.set_cons_zero, List.set_cons_succ])
    refine wpAnyH_done (by kernel_rfl) ?_ _
    go_wp2_with fail
    refine bodyPost_ret (results_cell_one rfl _ _ w.heap.size 103 _ (0, 0) _ rfl R3.b Tryz.underlying103 rfl infoF) rfl ?_
    exact ⟨_, rfl, HR.out, R3.ch⟩
  | true =>
    cases r with
    | false =>
      go_enter Tryz.func132, Tryz.ntmps132
      go_wp2_with (first
        | (go_at_call 133; (with_reducible refine hm.mono ?_); clear hm; rintro e w2 ⟨rfl, c2⟩; have R := R0.call c2; have T0 := Bo.new R.ch #[.string ⟨#[]⟩, .string ⟨#[]⟩, .bool false] 103; have R1 := R.call ((Ch.refl _).alloc (.cells #[.string ⟨#[]⟩, .string ⟨#[]⟩, .bool false] 103)))
        | (refine wpList_store_row rfl 103 (.tmp 8) (.tmp 15) rfl w2.heap.size #[.string mn, .string md, .bool st] rfl rfl 103 _ T0.b infoF rfl (one3 _ _ _) ?_; have T1 := (T0.setRow #[.string mn, .string md, .bool st]).call (Ch.refl _).drew; have R2 := (R1.farRow (g' := w2.heap.size) #[.string mn, .string md, .bool st] (Nat.ne_of_lt R.lt) R.ch.size).call (Ch.refl _).drew; obtain ⟨d1, d2⟩ := HDS.out _ T1.ch)
        | fail)
      refine wp_region_held_drew (S := fun w' => w'.cell? ⟨w2.heap.size, 0, none⟩ = some (.string mn) ∧ w'.cell? ⟨w2.heap.size, 1, none⟩ = some (.string md) ∧ w'.cell? ⟨w2.heap.size, 2, none⟩ = some (.bool st) ∧ w'.cell? ⟨td, 0, none⟩ = some (.string d) ∧ w'.cell? ⟨ts, 0, none⟩ = some (.bool s)) (by kernel_rfl) (by exact ⟨(T1).c 0 rfl, (T1).c 1 rfl, (T1).c 2 rfl, d1, d2⟩) (fun hHeld => ?_)
      refine wpAnyH_take (i := 0) (oi := ({ dst := some 17, op := Go.Op.load 103 (Go.Operand.tmp 8), type := 103, pos := "resolve.go:19", after := #[], guard := none } : Oper)) (v := ?_) rfl (by kernel_rfl) (by kernel_rfl) (by kernel_rfl) (fun _ _ _ h => h) (Or.inl ⟨by rfl, ?_⟩) (by assumption) ?_
      rotate_left
      focus (intro w' hSw; (try dsimp only at hSw); go_split_ands; go_simp; try with_reducible rfl)
      (try simp only [Act.put, List.setIfInBounds_toArray, List.set_cons_zero, List.set_cons_succ])
      refine wpAnyH_take (i := 1) (oi := ({ dst := some 18, op := Go.Op.move (Go.Operand.tmp 9), type := 4, pos := "resolve.go:19", after := #[], guard := none } : Oper)) (v := ?_) rfl (by kernel_rfl) (by kernel_rfl) (by kernel_rfl) (fun _ _ _ h => h) (Or.inl ⟨by rfl, ?_⟩) (by assumption) ?_
      rotate_left
      focus (intro w' hSw; (try dsimp only at hSw); go_split_ands; go_simp; try with_reducible rfl)
      (try simp only [Act.put, List.setIfInBounds_toArray, List.set_cons_zero, List.set_cons_succ])
      refine wpAnyH_take (i := 2) (oi := ({ dst := some 19, op := Go.Op.move (Go.Operand.tmp 18), type := 4, pos := "resolve.go:19", after := #[{ on := 1, ground := Go.Ground.data }], guard := none } : Oper)) (v := ?_) rfl (by kernel_rfl) (by kernel_rfl) (by kernel_rfl) (fun _ _ _ h => h) (Or.inl ⟨by rfl, ?_⟩) (by assumption) ?_
      rotate_left
      focus (intro w' hSw; (try dsimp only at hSw); go_split_ands; go_simp; try with_reducible rfl)
      (try simp only [Act.put, List.setIfInBounds_toArray, List.set_cons_zero, List.set_cons_succ])
      refine wpAnyH_take (i := 3) (oi := ({ dst := some 20, op := Go.Op.fieldAddr 103 (Go.Operand.tmp 8) 1, type := 0, pos := "resolve.go:19", after := #[{ on := 2, ground := Go.Ground.guard }], guard := some (2, true) } : Oper)) (v := ?_) rfl (by kernel_rfl) (by kernel_rfl) (by kernel_rfl) (fun _ _ _ h => h) (Or.inl ⟨by rfl, ?_⟩) (by assumption) ?_
      rotate_left
      focus (intro w' hSw; (try dsimp only at hSw); go_split_ands; go_simp; try with_reducible rfl)
      (try simp only [Act.put, List.setIfInBounds_toArray, List.set_cons_zero, List.set_cons_succ])
      refine wpAnyH_take (i := 4) (oi := ({ dst := some 21, op := Go.Op.load 9 (Go.Operand.tmp 20), type := 9, pos := "resolve.go:19", after := #[{ on := 3, ground := Go.Ground.data }, { on := 2, ground := Go.Ground.guard }], guard := some (2, true) } : Oper)) (v := ?_) rfl (by kernel_rfl) (by kernel_rfl) (by kernel_rfl) (fun _ _ _ h => h) (Or.inl ⟨by rfl, ?_⟩) (by assumption) ?_
      rotate_left
      focus (intro w' hSw; (try dsimp only at hSw); go_split_ands; go_simp; try with_reducible rfl)
      (try simp only [Act.put, List.setIfInBounds_toArray, List.set_cons_zero, List.set_cons_succ])
      refine wpAnyH_take (i := 5) (oi := ({ dst := some 22, op := Go.Op.load 9 (Go.Operand.tmp 3), type := 9, pos := "resolve.go:19", after := #[{ on := 2, ground := Go.Ground.guard }], guard := some (2, true) } : Oper)) (v := ?_) rfl (by kernel_rfl) (by kernel_rfl) (by kernel_rfl) (fun _ _ _ h => h) (Or.inl ⟨by rfl, ?_⟩) (by assumption) ?_
      rotate_left
      focus (intro w' hSw; (try dsimp only at hSw); go_split_ands; go_simp; try with_reducible rfl)
      (try simp only [Act.put, List.setIfInBounds_toArray, List.set_cons_zero, List.set_cons_succ])
      refine wpAnyH_take (i := 6) (oi := ({ dst := some 23, op := Go.Op.binOp Go.BinOp.eql 9 (Go.Operand.tmp 21) (Go.Operand.tmp 22) 9, type := 4, pos := "resolve.go:19", after := #[{ on := 4, ground := Go.Ground.data }, { on := 5, ground := Go.Ground.data }, { on := 2, ground := Go.Ground.guard }], guard := some (2, true) } : Oper)) (v := ?_) rfl (by kernel_rfl) (by kernel_rfl) (by kernel_rfl) (fun _ _ _ h => h) (Or.inl ⟨by rfl, ?_⟩) (by assumption) ?_
      rotate_left
      focus (intro w' hSw; (try dsimp only at hSw); go_split_ands; go_simp; try with_reducible rfl)
      (try simp only [Act.put, List.setIfInBounds_toArray, List.set_cons_zero, List.set_cons_succ])
      refine wpAnyH_take (i := 7) (oi := ({ dst := some 24, op := Go.Op.pick (Go.Operand.tmp 19) (Go.Operand.tmp 23) (Go.Operand.const (Go.Value.bool false)), type := 4, pos := "resolve.go:19", after := #[{ on := 2, ground := Go.Ground.data }, { on := 6, ground := Go.Ground.data }], guard := none } : Oper)) (v := ?_) rfl (by kernel_rfl) (by kernel_rfl) (by kernel_rfl) (fun _ _ _ h => h) (Or.inl ⟨by rfl, ?_⟩) (by assumption) ?_
      rotate_left
      focus (intro w' hSw; (try dsimp only at hSw); go_split_ands; go_simp; try with_reducible rfl)
      (try simp only [Act.put, List.setIfInBounds_toArray, List.set_cons_zero, List.set_cons_succ])
      refine wpAnyH_take (i := 8) (oi := ({ dst := some 25, op := Go.Op.move (Go.Operand.tmp 24), type := 4, pos := "resolve.go:19", after := #[{ on := 7, ground := Go.Ground.data }, { on := 2, ground := Go.Ground.chain }], guard := none } : Oper)) (v := ?_) rfl (by kernel_rfl) (by kernel_rfl) (by kernel_rfl) (fun _ _ _ h => h) (Or.inl ⟨by rfl, ?_⟩) (by assumption) ?_
      rotate_left
      focus (intro w' hSw; (try dsimp only at hSw); go_split_ands; go_simp; try with_reducible rfl)
      (try simp only [Act.put, List.setIfInBounds_toArray, List.set_cons_zero, List.set_cons_succ])
      refine wpAnyH_take (i := 9) (oi := ({ dst := some 26, op := Go.Op.fieldAddr 103 (Go.Operand.tmp 8) 2, type := 0, pos := "resolve.go:19", after := #[{ on := 8, ground := Go.Ground.guard }, { on := 14, ground := Go.Ground.gcOnly Go.Departure.lateStores }], guard := some (8, true) } : Oper)) (v := undef) rfl (by kernel_rfl) (by kernel_rfl) (by kernel_rfl) (fun _ _ _ h => h) (Or.inr ⟨by rfl, rfl⟩) (by assumption) ?_
      (try simp only [Act.put, List.setIfInBounds_toArray, List.set_cons_zero, List.set_cons_succ])
      refine wpAnyH_take (i := 10) (oi := ({ dst := some 27, op := Go.Op.load 4 (Go.Operand.tmp 26), type := 4, pos := "resolve.go:19", after := #[{ on := 9, ground := Go.Ground.data }, { on := 8, ground := Go.Ground.guard }, { on := 14, ground := Go.Ground.gcOnly Go.Departure.lateStores }], guard := some (8, true) } : Oper)) (v := undef) rfl (by kernel_rfl) (by kernel_rfl) (by kernel_rfl) (fun _ _ _ h => h) (Or.inr ⟨by rfl, rfl⟩) (by assumption) ?_
      (try simp only [Act.put, List.setIfInBounds_toArray, List.set_cons_zero, List.set_cons_succ])
      refine wpAnyH_take (i := 11) (oi := ({ dst := some 28, op := Go.Op.load 4 (Go.Operand.tmp 4), type := 4, pos := "resolve.go:19", after := #[{ on := 8, ground := Go.Ground.guard }, { on := 14, ground := Go.Ground.gcOnly Go.Departure.lateStores }], guard := some (8, true) } : Oper)) (v := undef) rfl (by kernel_rfl) (by kernel_rfl) (by kernel_rfl) (fun _ _ _ h => h) (Or.inr ⟨by rfl, rfl⟩) (by assumption) ?_
      (try simp only [Act.put, List.setIfInBounds_toArray, List.set_cons_zero, List.set_cons_succ])
      refine wpAnyH_take (i := 12) (oi := ({ dst := some 29, op := Go.Op.binOp Go.BinOp.eql 4 (Go.Operand.tmp 27) (Go.Operand.tmp 28) 4, type := 4, pos := "resolve.go:19", after := #[{ on := 10, ground := Go.Ground.data }, { on := 11, ground := Go.Ground.data }, { on := 8, ground := Go.Ground.guard }, { on := 14, ground := Go.Ground.gcOnly Go.Departure.lateStores }], guard := some (8, true) } : Oper)) (v := undef) rfl (by kernel_rfl) (by kernel_rfl) (by kernel_rfl) (fun _ _ _ h => h) (Or.inr ⟨by rfl, rfl⟩) (by assumption) ?_
      (try simp only [Act.put, List.setIfInBounds_toArray, List.set_cons_zero, List.set_cons_succ])
      refine wpAnyH_take (i := 13) (oi := ({ dst := some 30, op := Go.Op.pick (Go.Operand.tmp 25) (Go.Operand.tmp 29) (Go.Operand.const (Go.Value.bool false)), type := 4, pos := "resolve.go:19", after := #[{ on := 8, ground := Go.Ground.data }, { on := 12, ground := Go.Ground.data }, { on := 14, ground := Go.Ground.gcOnly Go.Departure.lateStores }], guard := none } : Oper)) (v := ?_) rfl (by kernel_rfl) (by kernel_rfl) (by kernel_rfl) (fun _ _ _ h => h) (Or.inl ⟨by rfl, ?_⟩) (by assumption) ?_
      rotate_left
      focus (intro w' hSw; (try dsimp only at hSw); go_split_ands; go_simp; try with_reducible rfl)
      (try simp only [Act.put, List.setIfInBounds_toArray, List.set_cons_zero, List.set_cons_succ])
      refine wpAnyH_ready (rs := [14]) (by kernel_rfl) (by simp) ?_
      refine AllReadyH.cons (o := ({ dst := none, op := Go.Op.store 103 (Go.Operand.tmp 6) (Go.Operand.tmp 17), type := 0, pos := "resolve.go:19", after := #[{ on := 0, ground := Go.Ground.data }, { on := 8, ground := Go.Ground.chain }, { on := 0, ground := Go.Ground.phase }, { on := 1, ground := Go.Ground.textOnly Go.Departure.lateStores }, { on := 2, ground := Go.Ground.textOnly Go.Departure.lateStores }, { on := 3, ground := Go.Ground.textOnly Go.Departure.lateStores }, { on := 4, ground := Go.Ground.textOnly Go.Departure.lateStores }, { on := 5, ground := Go.Ground.textOnly Go.Departure.lateStores }, { on := 6, ground := Go.Ground.textOnly Go.Departure.lateStores }, { on := 7, ground := Go.Ground.textOnly Go.Departure.lateStores }, { on := 8, ground := Go.Ground.textOnly Go.Departure.lateStores }, { on := 9, ground := Go.Ground.textOnly Go.Departure.lateStores }, { on := 10, ground := Go.Ground.textOnly Go.Departure.lateStores }, { on := 11, ground := Go.Ground.textOnly Go.Departure.lateStores }, { on := 12, ground := Go.Ground.textOnly Go.Departure.lateStores }, { on := 13, ground := Go.Ground.textOnly Go.Departure.lateStores }], guard := none } : Oper)) rfl (fun K hK => ?_) AllReadyH.nil
      refine wp_store_row 103 (.tmp 6) (.tmp 17) rfl w.heap.size #[.string mn, .string md, .bool st] rfl rfl 103 _ R2.b infoF rfl (one3 _ _ _) ?_
      have T2 := T1.farRow (g' := w.heap.size) #[.string mn, .string md, .bool st] (Nat.ne_of_gt R.lt) (Nat.le_refl _)
      have R3 := R2.setRow #[.string mn, .string md, .bool st]
      obtain ⟨e1, e2⟩ := HDS.out _ T2.ch
      refine hK.out _ _ ?_ (fun hHeld => ?_)
      exact ⟨(T2).c 0 rfl, (T2).c 1 rfl, (T2).c 2 rfl, e1, e2⟩
      clear hK K
      (try simp only [Act.put])
      refine wpAnyH_take (i := 15) (oi := ({ dst := some 7, op := Go.Op.assign (Go.Operand.tmp 30), type := 4, pos := "resolve.go:19", after := #[{ on := 13, ground := Go.Ground.data }, { on := 14, ground := Go.Ground.chain }, { on := 0, ground := Go.Ground.phase }, { on := 1, ground := Go.Ground.phase }, { on := 2, ground := Go.Ground.phase }, { on := 3, ground := Go.Ground.phase }, { on := 4, ground := Go.Ground.phase }, { on := 5, ground := Go.Ground.phase }, { on := 6, ground := Go.Ground.phase }, { on := 7, ground := Go.Ground.phase }, { on := 8, ground := Go.Ground.phase }, { on := 9, ground := Go.Ground.phase }, { on := 10, ground := Go.Ground.phase }, { on := 11, ground := Go.Ground.phase }, { on := 12, ground := Go.Ground.phase }, { on := 13, ground := Go.Ground.phase }, { on := 14, ground := Go.Ground.phase }], guard := none } : Oper)) (v := ?_) rfl (by kernel_rfl) (by kernel_rfl) (by kernel_rfl) (fun _ _ _ h => h) (Or.inl ⟨by rfl, ?_⟩) (by assumption) ?_
      rotate_left
      focus (intro w' hSw; (try dsimp only at hSw); go_split_ands; go_simp; try with_reducible rfl)
      (try simp only [Act.put, List.setIfInBounds_toArray, List.set_cons_zero, List.set_cons_succ])
      refine wpAnyH_done (by kernel_rfl) ?_ _
      go_wp2_with fail
      refine bodyPost_ret (results_cell_one rfl _ _ w.heap.size 103 _ (0, 0) _ rfl R3.b Tryz.underlying103 rfl infoF) rfl ?_
      exact ⟨_, rfl, HR.out, R3.ch⟩
    | true =>
      cases st <;> cases s
      · go_enter Tryz.func132, Tryz.ntmps132
        go_wp2_with (first
          | (go_at_call 133; (with_reducible refine hm.mono ?_); clear hm; rintro e w2 ⟨rfl, c2⟩; have R := R0.call c2; have T0 := Bo.new R.ch #[.string ⟨#[]⟩, .string ⟨#[]⟩, .bool false] 103; have R1 := R.call ((Ch.refl _).alloc (.cells #[.string ⟨#[]⟩, .string ⟨#[]⟩, .bool false] 103)))
          | (refine wpList_store_row rfl 103 (.tmp 8) (.tmp 15) rfl w2.heap.size #[.string mn, .string md, .bool false] rfl rfl 103 _ T0.b infoF rfl (one3 _ _ _) ?_; have T1 := (T0.setRow #[.string mn, .string md, .bool false]).call (Ch.refl _).drew; have R2 := (R1.farRow (g' := w2.heap.size) #[.string mn, .string md, .bool false] (Nat.ne_of_lt R.lt) R.ch.size).call (Ch.refl _).drew; obtain ⟨d1, d2⟩ := HDS.out _ T1.ch)
          | fail)
        refine wp_region_held_drew (S := fun w' => w'.cell? ⟨w2.heap.size, 0, none⟩ = some (.string mn) ∧ w'.cell? ⟨w2.heap.size, 1, none⟩ = some (.string md) ∧ w'.cell? ⟨w2.heap.size, 2, none⟩ = some (.bool false) ∧ w'.cell? ⟨td, 0, none⟩ = some (.string d) ∧ w'.cell? ⟨ts, 0, none⟩ = some (.bool false)) (by kernel_rfl) (by exact ⟨(T1).c 0 rfl, (T1).c 1 rfl, (T1).c 2 rfl, d1, d2⟩) (fun hHeld => ?_)
        refine wpAnyH_take (i := 0) (oi := ({ dst := some 17, op := Go.Op.load 103 (Go.Operand.tmp 8), type := 103, pos := "resolve.go:19", after := #[], guard := none } : Oper)) (v := ?_) rfl (by kernel_rfl) (by kernel_rfl) (by kernel_rfl) (fun _ _ _ h => h) (Or.inl ⟨by rfl, ?_⟩) (by assumption) ?_
        rotate_left
        focus (intro w' hSw; (try dsimp only at hSw); go_split_ands; go_simp; try with_reducible rfl)
        (try simp only [Act.put, List.setIfInBounds_toArray, List.set_cons_zero, List.set_cons_succ])
        refine wpAnyH_take (i := 1) (oi := ({ dst := some 18, op := Go.Op.move (Go.Operand.tmp 9), type := 4, pos := "resolve.go:19", after := #[], guard := none } : Oper)) (v := ?_) rfl (by kernel_rfl) (by kernel_rfl) (by kernel_rfl) (fun _ _ _ h => h) (Or.inl ⟨by rfl, ?_⟩) (by assumption) ?_
        rotate_left
        focus (intro w' hSw; (try dsimp only at hSw); go_split_ands; go_simp; try with_reducible rfl)
        (try simp only [Act.put, List.setIfInBounds_toArray, List.set_cons_zero, List.set_cons_succ])
        refine wpAnyH_take (i := 2) (oi := ({ dst := some 19, op := Go.Op.move (Go.Operand.tmp 18), type := 4, pos := "resolve.go:19", after := #[{ on := 1, ground := Go.Ground.data }], guard := none } : Oper)) (v := ?_) rfl (by kernel_rfl) (by kernel_rfl) (by kernel_rfl) (fun _ _ _ h => h) (Or.inl ⟨by rfl, ?_⟩) (by assumption) ?_
        rotate_left
        focus (intro w' hSw; (try dsimp only at hSw); go_split_ands; go_simp; try with_reducible rfl)
        (try simp only [Act.put, List.setIfInBounds_toArray, List.set_cons_zero, List.set_cons_succ])
        refine wpAnyH_take (i := 3) (oi := ({ dst := some 20, op := Go.Op.fieldAddr 103 (Go.Operand.tmp 8) 1, type := 0, pos := "resolve.go:19", after := #[{ on := 2, ground := Go.Ground.guard }], guard := some (2, true) } : Oper)) (v := ?_) rfl (by kernel_rfl) (by kernel_rfl) (by kernel_rfl) (fun _ _ _ h => h) (Or.inl ⟨by rfl, ?_⟩) (by assumption) ?_
        rotate_left
        focus (intro w' hSw; (try dsimp only at hSw); go_split_ands; go_simp; try with_reducible rfl)
        (try simp only [Act.put, List.setIfInBounds_toArray, List.set_cons_zero, List.set_cons_succ])
        refine wpAnyH_take (i := 4) (oi := ({ dst := some 21, op := Go.Op.load 9 (Go.Operand.tmp 20), type := 9, pos := "resolve.go:19", after := #[{ on := 3, ground := Go.Ground.data }, { on := 2, ground := Go.Ground.guard }], guard := some (2, true) } : Oper)) (v := ?_) rfl (by kernel_rfl) (by kernel_rfl) (by kernel_rfl) (fun _ _ _ h => h) (Or.inl ⟨by rfl, ?_⟩) (by assumption) ?_
        rotate_left
        focus (intro w' hSw; (try dsimp only at hSw); go_split_ands; go_simp; try with_reducible rfl)
        (try simp only [Act.put, List.setIfInBounds_toArray, List.set_cons_zero, List.set_cons_succ])
        refine wpAnyH_take (i := 5) (oi := ({ dst := some 22, op := Go.Op.load 9 (Go.Operand.tmp 3), type := 9, pos := "resolve.go:19", after := #[{ on := 2, ground := Go.Ground.guard }], guard := some (2, true) } : Oper)) (v := ?_) rfl (by kernel_rfl) (by kernel_rfl) (by kernel_rfl) (fun _ _ _ h => h) (Or.inl ⟨by rfl, ?_⟩) (by assumption) ?_
        rotate_left
        focus (intro w' hSw; (try dsimp only at hSw); go_split_ands; go_simp; try with_reducible rfl)
        (try simp only [Act.put, List.setIfInBounds_toArray, List.set_cons_zero, List.set_cons_succ])
        refine wpAnyH_take (i := 6) (oi := ({ dst := some 23, op := Go.Op.binOp Go.BinOp.eql 9 (Go.Operand.tmp 21) (Go.Operand.tmp 22) 9, type := 4, pos := "resolve.go:19", after := #[{ on := 4, ground := Go.Ground.data }, { on := 5, ground := Go.Ground.data }, { on := 2, ground := Go.Ground.guard }], guard := some (2, true) } : Oper)) (v := ?_) rfl (by kernel_rfl) (by kernel_rfl) (by kernel_rfl) (fun _ _ _ h => h) (Or.inl ⟨by rfl, ?_⟩) (by assumption) ?_
        rotate_left
        focus (intro w' hSw; (try dsimp only at hSw); go_split_ands; go_simp; try with_reducible rfl)
        (try simp only [Act.put, List.setIfInBounds_toArray, List.set_cons_zero, List.set_cons_succ])
        refine wpAnyH_take (i := 7) (oi := ({ dst := some 24, op := Go.Op.pick (Go.Operand.tmp 19) (Go.Operand.tmp 23) (Go.Operand.const (Go.Value.bool false)), type := 4, pos := "resolve.go:19", after := #[{ on := 2, ground := Go.Ground.data }, { on := 6, ground := Go.Ground.data }], guard := none } : Oper)) (v := ?_) rfl (by kernel_rfl) (by kernel_rfl) (by kernel_rfl) (fun _ _ _ h => h) (Or.inl ⟨by rfl, ?_⟩) (by assumption) ?_
        rotate_left
        focus (intro w' hSw; (try dsimp only at hSw); go_split_ands; go_simp; try with_reducible rfl)
        (try simp only [Act.put, List.setIfInBounds_toArray, List.set_cons_zero, List.set_cons_succ])
        refine wpAnyH_take (i := 8) (oi := ({ dst := some 25, op := Go.Op.move (Go.Operand.tmp 24), type := 4, pos := "resolve.go:19", after := #[{ on := 7, ground := Go.Ground.data }, { on := 2, ground := Go.Ground.chain }], guard := none } : Oper)) (v := ?_) rfl (by kernel_rfl) (by kernel_rfl) (by kernel_rfl) (fun _ _ _ h => h) (Or.inl ⟨by rfl, ?_⟩) (by assumption) ?_
        rotate_left
        focus (intro w' hSw; (try dsimp only at hSw); go_split_ands; go_simp; try with_reducible rfl)
        (try simp only [Act.put, List.setIfInBounds_toArray, List.set_cons_zero, List.set_cons_succ])
        refine wpAnyH_take (i := 9) (oi := ({ dst := some 26, op := Go.Op.fieldAddr 103 (Go.Operand.tmp 8) 2, type := 0, pos := "resolve.go:19", after := #[{ on := 8, ground := Go.Ground.guard }, { on := 14, ground := Go.Ground.gcOnly Go.Departure.lateStores }], guard := some (8, true) } : Oper)) (v := ?_) rfl (by kernel_rfl) (by kernel_rfl) (by kernel_rfl) (fun _ _ _ h => h) (Or.inl ⟨by rfl, ?_⟩) (by assumption) ?_
        rotate_left
        focus (intro w' hSw; (try dsimp only at hSw); go_split_ands; go_simp; try with_reducible rfl)
        (try simp only [Act.put, List.setIfInBounds_toArray, List.set_cons_zero, List.set_cons_succ])
        refine wpAnyH_take (i := 10) (oi := ({ dst := some 27, op := Go.Op.load 4 (Go.Operand.tmp 26), type := 4, pos := "resolve.go:19", after := #[{ on := 9, ground := Go.Ground.data }, { on := 8, ground := Go.Ground.guard }, { on := 14, ground := Go.Ground.gcOnly Go.Departure.lateStores }], guard := some (8, true) } : Oper)) (v := ?_) rfl (by kernel_rfl) (by kernel_rfl) (by kernel_rfl) (fun _ _ _ h => h) (Or.inl ⟨by rfl, ?_⟩) (by assumption) ?_
        rotate_left
        focus (intro w' hSw; (try dsimp only at hSw); go_split_ands; go_simp; try with_reducible rfl)
        (try simp only [Act.put, List.setIfInBounds_toArray, List.set_cons_zero, List.set_cons_succ])
        refine wpAnyH_take (i := 11) (oi := ({ dst := some 28, op := Go.Op.load 4 (Go.Operand.tmp 4), type := 4, pos := "resolve.go:19", after := #[{ on := 8, ground := Go.Ground.guard }, { on := 14, ground := Go.Ground.gcOnly Go.Departure.lateStores }], guard := some (8, true) } : Oper)) (v := ?_) rfl (by kernel_rfl) (by kernel_rfl) (by kernel_rfl) (fun _ _ _ h => h) (Or.inl ⟨by rfl, ?_⟩) (by assumption) ?_
        rotate_left
        focus (intro w' hSw; (try dsimp only at hSw); go_split_ands; go_simp; try with_reducible rfl)
        (try simp only [Act.put, List.setIfInBounds_toArray, List.set_cons_zero, List.set_cons_succ])
        refine wpAnyH_take (i := 12) (oi := ({ dst := some 29, op := Go.Op.binOp Go.BinOp.eql 4 (Go.Operand.tmp 27) (Go.Operand.tmp 28) 4, type := 4, pos := "resolve.go:19", after := #[{ on := 10, ground := Go.Ground.data }, { on := 11, ground := Go.Ground.data }, { on := 8, ground := Go.Ground.guard }, { on := 14, ground := Go.Ground.gcOnly Go.Departure.lateStores }], guard := some (8, true) } : Oper)) (v := ?_) rfl (by kernel_rfl) (by kernel_rfl) (by kernel_rfl) (fun _ _ _ h => h) (Or.inl ⟨by rfl, ?_⟩) (by assumption) ?_
        rotate_left
        focus (intro w' hSw; (try dsimp only at hSw); go_split_ands; go_simp; try with_reducible rfl)
        (try simp only [Act.put, List.setIfInBounds_toArray, List.set_cons_zero, List.set_cons_succ])
        refine wpAnyH_take (i := 13) (oi := ({ dst := some 30, op := Go.Op.pick (Go.Operand.tmp 25) (Go.Operand.tmp 29) (Go.Operand.const (Go.Value.bool false)), type := 4, pos := "resolve.go:19", after := #[{ on := 8, ground := Go.Ground.data }, { on := 12, ground := Go.Ground.data }, { on := 14, ground := Go.Ground.gcOnly Go.Departure.lateStores }], guard := none } : Oper)) (v := ?_) rfl (by kernel_rfl) (by kernel_rfl) (by kernel_rfl) (fun _ _ _ h => h) (Or.inl ⟨by rfl, ?_⟩) (by assumption) ?_
        rotate_left
        focus (intro w' hSw; (try dsimp only at hSw); go_split_ands; go_simp; try with_reducible rfl)
        (try simp only [Act.put, List.setIfInBounds_toArray, List.set_cons_zero, List.set_cons_succ])
        refine wpAnyH_ready (rs := [14]) (by kernel_rfl) (by simp) ?_
        refine AllReadyH.cons (o := ({ dst := none, op := Go.Op.store 103 (Go.Operand.tmp 6) (Go.Operand.tmp 17), type := 0, pos := "resolve.go:19", after := #[{ on := 0, ground := Go.Ground.data }, { on := 8, ground := Go.Ground.chain }, { on := 0, ground := Go.Ground.phase }, { on := 1, ground := Go.Ground.textOnly Go.Departure.lateStores }, { on := 2, ground := Go.Ground.textOnly Go.Departure.lateStores }, { on := 3, ground := Go.Ground.textOnly Go.Departure.lateStores }, { on := 4, ground := Go.Ground.textOnly Go.Departure.lateStores }, { on := 5, ground := Go.Ground.textOnly Go.Departure.lateStores }, { on := 6, ground := Go.Ground.textOnly Go.Departure.lateStores }, { on := 7, ground := Go.Ground.textOnly Go.Departure.lateStores }, { on := 8, ground := Go.Ground.textOnly Go.Departure.lateStores }, { on := 9, ground := Go.Ground.textOnly Go.Departure.lateStores }, { on := 10, ground := Go.Ground.textOnly Go.Departure.lateStores }, { on := 11, ground := Go.Ground.textOnly Go.Departure.lateStores }, { on := 12, ground := Go.Ground.textOnly Go.Departure.lateStores }, { on := 13, ground := Go.Ground.textOnly Go.Departure.lateStores }], guard := none } : Oper)) rfl (fun K hK => ?_) AllReadyH.nil
        refine wp_store_row 103 (.tmp 6) (.tmp 17) rfl w.heap.size #[.string mn, .string md, .bool false] rfl rfl 103 _ R2.b infoF rfl (one3 _ _ _) ?_
        have T2 := T1.farRow (g' := w.heap.size) #[.string mn, .string md, .bool false] (Nat.ne_of_gt R.lt) (Nat.le_refl _)
        have R3 := R2.setRow #[.string mn, .string md, .bool false]
        obtain ⟨e1, e2⟩ := HDS.out _ T2.ch
        refine hK.out _ _ ?_ (fun hHeld => ?_)
        exact ⟨(T2).c 0 rfl, (T2).c 1 rfl, (T2).c 2 rfl, e1, e2⟩
        clear hK K
        (try simp only [Act.put])
        refine wpAnyH_take (i := 15) (oi := ({ dst := some 7, op := Go.Op.assign (Go.Operand.tmp 30), type := 4, pos := "resolve.go:19", after := #[{ on := 13, ground := Go.Ground.data }, { on := 14, ground := Go.Ground.chain }, { on := 0, ground := Go.Ground.phase }, { on := 1, ground := Go.Ground.phase }, { on := 2, ground := Go.Ground.phase }, { on := 3, ground := Go.Ground.phase }, { on := 4, ground := Go.Ground.phase }, { on := 5, ground := Go.Ground.phase }, { on := 6, ground := Go.Ground.phase }, { on := 7, ground := Go.Ground.phase }, { on := 8, ground := Go.Ground.phase }, { on := 9, ground := Go.Ground.phase }, { on := 10, ground := Go.Ground.phase }, { on := 11, ground := Go.Ground.phase }, { on := 12, ground := Go.Ground.phase }, { on := 13, ground := Go.Ground.phase }, { on := 14, ground := Go.Ground.phase }], guard := none } : Oper)) (v := ?_) rfl (by kernel_rfl) (by kernel_rfl) (by kernel_rfl) (fun _ _ _ h => h) (Or.inl ⟨by rfl, ?_⟩) (by assumption) ?_
        rotate_left
        focus (intro w' hSw; (try dsimp only at hSw); go_split_ands; go_simp; try with_reducible rfl)
        (try simp only [Act.put, List.setIfInBounds_toArray, List.set_cons_zero, List.set_cons_succ])
        refine wpAnyH_done (by kernel_rfl) ?_ _
        go_wp2_with fail
        refine bodyPost_ret (results_cell_one rfl _ _ w.heap.size 103 _ (0, 0) _ rfl R3.b Tryz.underlying103 rfl infoF) rfl ?_
        exact ⟨_, rfl, HR.out, R3.ch⟩
      · go_enter Tryz.func132, Tryz.ntmps132
        go_wp2_with (first
          | (go_at_call 133; (with_reducible refine hm.mono ?_); clear hm; rintro e w2 ⟨rfl, c2⟩; have R := R0.call c2; have T0 := Bo.new R.ch #[.string ⟨#[]⟩, .string ⟨#[]⟩, .bool false] 103; have R1 := R.call ((Ch.refl _).alloc (.cells #[.string ⟨#[]⟩, .string ⟨#[]⟩, .bool false] 103)))
          | (refine wpList_store_row rfl 103 (.tmp 8) (.tmp 15) rfl w2.heap.size #[.string mn, .string md, .bool false] rfl rfl 103 _ T0.b infoF rfl (one3 _ _ _) ?_; have T1 := (T0.setRow #[.string mn, .string md, .bool false]).call (Ch.refl _).drew; have R2 := (R1.farRow (g' := w2.heap.size) #[.string mn, .string md, .bool false] (Nat.ne_of_lt R.lt) R.ch.size).call (Ch.refl _).drew; obtain ⟨d1, d2⟩ := HDS.out _ T1.ch)
          | fail)
        refine wp_region_held_drew (S := fun w' => w'.cell? ⟨w2.heap.size, 0, none⟩ = some (.string mn) ∧ w'.cell? ⟨w2.heap.size, 1, none⟩ = some (.string md) ∧ w'.cell? ⟨w2.heap.size, 2, none⟩ = some (.bool false) ∧ w'.cell? ⟨td, 0, none⟩ = some (.string d) ∧ w'.cell? ⟨ts, 0, none⟩ = some (.bool true)) (by kernel_rfl) (by exact ⟨(T1).c 0 rfl, (T1).c 1 rfl, (T1).c 2 rfl, d1, d2⟩) (fun hHeld => ?_)
        refine wpAnyH_take (i := 0) (oi := ({ dst := some 17, op := Go.Op.load 103 (Go.Operand.tmp 8), type := 103, pos := "resolve.go:19", after := #[], guard := none } : Oper)) (v := ?_) rfl (by kernel_rfl) (by kernel_rfl) (by kernel_rfl) (fun _ _ _ h => h) (Or.inl ⟨by rfl, ?_⟩) (by assumption) ?_
        rotate_left
        focus (intro w' hSw; (try dsimp only at hSw); go_split_ands; go_simp; try with_reducible rfl)
        (try simp only [Act.put, List.setIfInBounds_toArray, List.set_cons_zero, List.set_cons_succ])
        refine wpAnyH_take (i := 1) (oi := ({ dst := some 18, op := Go.Op.move (Go.Operand.tmp 9), type := 4, pos := "resolve.go:19", after := #[], guard := none } : Oper)) (v := ?_) rfl (by kernel_rfl) (by kernel_rfl) (by kernel_rfl) (fun _ _ _ h => h) (Or.inl ⟨by rfl, ?_⟩) (by assumption) ?_
        rotate_left
        focus (intro w' hSw; (try dsimp only at hSw); go_split_ands; go_simp; try with_reducible rfl)
        (try simp only [Act.put, List.setIfInBounds_toArray, List.set_cons_zero, List.set_cons_succ])
        refine wpAnyH_take (i := 2) (oi := ({ dst := some 19, op := Go.Op.move (Go.Operand.tmp 18), type := 4, pos := "resolve.go:19", after := #[{ on := 1, ground := Go.Ground.data }], guard := none } : Oper)) (v := ?_) rfl (by kernel_rfl) (by kernel_rfl) (by kernel_rfl) (fun _ _ _ h => h) (Or.inl ⟨by rfl, ?_⟩) (by assumption) ?_
        rotate_left
        focus (intro w' hSw; (try dsimp only at hSw); go_split_ands; go_simp; try with_reducible rfl)
        (try simp only [Act.put, List.setIfInBounds_toArray, List.set_cons_zero, List.set_cons_succ])
        refine wpAnyH_take (i := 3) (oi := ({ dst := some 20, op := Go.Op.fieldAddr 103 (Go.Operand.tmp 8) 1, type := 0, pos := "resolve.go:19", after := #[{ on := 2, ground := Go.Ground.guard }], guard := some (2, true) } : Oper)) (v := ?_) rfl (by kernel_rfl) (by kernel_rfl) (by kernel_rfl) (fun _ _ _ h => h) (Or.inl ⟨by rfl, ?_⟩) (by assumption) ?_
        rotate_left
        focus (intro w' hSw; (try dsimp only at hSw); go_split_ands; go_simp; try with_reducible rfl)
        (try simp only [Act.put, List.setIfInBounds_toArray, List.set_cons_zero, List.set_cons_succ])
        refine wpAnyH_take (i := 4) (oi := ({ dst := some 21, op := Go.Op.load 9 (Go.Operand.tmp 20), type := 9, pos := "resolve.go:19", after := #[{ on := 3, ground := Go.Ground.data }, { on := 2, ground := Go.Ground.guard }], guard := some (2, true) } : Oper)) (v := ?_) rfl (by kernel_rfl) (by kernel_rfl) (by kernel_rfl) (fun _ _ _ h => h) (Or.inl ⟨by rfl, ?_⟩) (by assumption) ?_
        rotate_left
        focus (intro w' hSw; (try dsimp only at hSw); go_split_ands; go_simp; try with_reducible rfl)
        (try simp only [Act.put, List.setIfInBounds_toArray, List.set_cons_zero, List.set_cons_succ])
        refine wpAnyH_take (i := 5) (oi := ({ dst := some 22, op := Go.Op.load 9 (Go.Operand.tmp 3), type := 9, pos := "resolve.go:19", after := #[{ on := 2, ground := Go.Ground.guard }], guard := some (2, true) } : Oper)) (v := ?_) rfl (by kernel_rfl) (by kernel_rfl) (by kernel_rfl) (fun _ _ _ h => h) (Or.inl ⟨by rfl, ?_⟩) (by assumption) ?_
        rotate_left
        focus (intro w' hSw; (try dsimp only at hSw); go_split_ands; go_simp; try with_reducible rfl)
        (try simp only [Act.put, List.setIfInBounds_toArray, List.set_cons_zero, List.set_cons_succ])
        refine wpAnyH_take (i := 6) (oi := ({ dst := some 23, op := Go.Op.binOp Go.BinOp.eql 9 (Go.Operand.tmp 21) (Go.Operand.tmp 22) 9, type := 4, pos := "resolve.go:19", after := #[{ on := 4, ground := Go.Ground.data }, { on := 5, ground := Go.Ground.data }, { on := 2, ground := Go.Ground.guard }], guard := some (2, true) } : Oper)) (v := ?_) rfl (by kernel_rfl) (by kernel_rfl) (by kernel_rfl) (fun _ _ _ h => h) (Or.inl ⟨by rfl, ?_⟩) (by assumption) ?_
        rotate_left
        focus (intro w' hSw; (try dsimp only at hSw); go_split_ands; go_simp; try with_reducible rfl)
        (try simp only [Act.put, List.setIfInBounds_toArray, List.set_cons_zero, List.set_cons_succ])
        refine wpAnyH_take (i := 7) (oi := ({ dst := some 24, op := Go.Op.pick (Go.Operand.tmp 19) (Go.Operand.tmp 23) (Go.Operand.const (Go.Value.bool false)), type := 4, pos := "resolve.go:19", after := #[{ on := 2, ground := Go.Ground.data }, { on := 6, ground := Go.Ground.data }], guard := none } : Oper)) (v := ?_) rfl (by kernel_rfl) (by kernel_rfl) (by kernel_rfl) (fun _ _ _ h => h) (Or.inl ⟨by rfl, ?_⟩) (by assumption) ?_
        rotate_left
        focus (intro w' hSw; (try dsimp only at hSw); go_split_ands; go_simp; try with_reducible rfl)
        (try simp only [Act.put, List.setIfInBounds_toArray, List.set_cons_zero, List.set_cons_succ])
        refine wpAnyH_take (i := 8) (oi := ({ dst := some 25, op := Go.Op.move (Go.Operand.tmp 24), type := 4, pos := "resolve.go:19", after := #[{ on := 7, ground := Go.Ground.data }, { on := 2, ground := Go.Ground.chain }], guard := none } : Oper)) (v := ?_) rfl (by kernel_rfl) (by kernel_rfl) (by kernel_rfl) (fun _ _ _ h => h) (Or.inl ⟨by rfl, ?_⟩) (by assumption) ?_
        rotate_left
        focus (intro w' hSw; (try dsimp only at hSw); go_split_ands; go_simp; try with_reducible rfl)
        (try simp only [Act.put, List.setIfInBounds_toArray, List.set_cons_zero, List.set_cons_succ])
        refine wpAnyH_take (i := 9) (oi := ({ dst := some 26, op := Go.Op.fieldAddr 103 (Go.Operand.tmp 8) 2, type := 0, pos := "resolve.go:19", after := #[{ on := 8, ground := Go.Ground.guard }, { on := 14, ground := Go.Ground.gcOnly Go.Departure.lateStores }], guard := some (8, true) } : Oper)) (v := ?_) rfl (by kernel_rfl) (by kernel_rfl) (by kernel_rfl) (fun _ _ _ h => h) (Or.inl ⟨by rfl, ?_⟩) (by assumption) ?_
        rotate_left
        focus (intro w' hSw; (try dsimp only at hSw); go_split_ands; go_simp; try with_reducible rfl)
        (try simp only [Act.put, List.setIfInBounds_toArray, List.set_cons_zero, List.set_cons_succ])
        refine wpAnyH_take (i := 10) (oi := ({ dst := some 27, op := Go.Op.load 4 (Go.Operand.tmp 26), type := 4, pos := "resolve.go:19", after := #[{ on := 9, ground := Go.Ground.data }, { on := 8, ground := Go.Ground.guard }, { on := 14, ground := Go.Ground.gcOnly Go.Departure.lateStores }], guard := some (8, true) } : Oper)) (v := ?_) rfl (by kernel_rfl) (by kernel_rfl) (by kernel_rfl) (fun _ _ _ h => h) (Or.inl ⟨by rfl, ?_⟩) (by assumption) ?_
        rotate_left
        focus (intro w' hSw; (try dsimp only at hSw); go_split_ands; go_simp; try with_reducible rfl)
        (try simp only [Act.put, List.setIfInBounds_toArray, List.set_cons_zero, List.set_cons_succ])
        refine wpAnyH_take (i := 11) (oi := ({ dst := some 28, op := Go.Op.load 4 (Go.Operand.tmp 4), type := 4, pos := "resolve.go:19", after := #[{ on := 8, ground := Go.Ground.guard }, { on := 14, ground := Go.Ground.gcOnly Go.Departure.lateStores }], guard := some (8, true) } : Oper)) (v := ?_) rfl (by kernel_rfl) (by kernel_rfl) (by kernel_rfl) (fun _ _ _ h => h) (Or.inl ⟨by rfl, ?_⟩) (by assumption) ?_
        rotate_left
        focus (intro w' hSw; (try dsimp only at hSw); go_split_ands; go_simp; try with_reducible rfl)
        (try simp only [Act.put, List.setIfInBounds_toArray, List.set_cons_zero, List.set_cons_succ])
        refine wpAnyH_take (i := 12) (oi := ({ dst := some 29, op := Go.Op.binOp Go.BinOp.eql 4 (Go.Operand.tmp 27) (Go.Operand.tmp 28) 4, type := 4, pos := "resolve.go:19", after := #[{ on := 10, ground := Go.Ground.data }, { on := 11, ground := Go.Ground.data }, { on := 8, ground := Go.Ground.guard }, { on := 14, ground := Go.Ground.gcOnly Go.Departure.lateStores }], guard := some (8, true) } : Oper)) (v := ?_) rfl (by kernel_rfl) (by kernel_rfl) (by kernel_rfl) (fun _ _ _ h => h) (Or.inl ⟨by rfl, ?_⟩) (by assumption) ?_
        rotate_left
        focus (intro w' hSw; (try dsimp only at hSw); go_split_ands; go_simp; try with_reducible rfl)
        (try simp only [Act.put, List.setIfInBounds_toArray, List.set_cons_zero, List.set_cons_succ])
        refine wpAnyH_take (i := 13) (oi := ({ dst := some 30, op := Go.Op.pick (Go.Operand.tmp 25) (Go.Operand.tmp 29) (Go.Operand.const (Go.Value.bool false)), type := 4, pos := "resolve.go:19", after := #[{ on := 8, ground := Go.Ground.data }, { on := 12, ground := Go.Ground.data }, { on := 14, ground := Go.Ground.gcOnly Go.Departure.lateStores }], guard := none } : Oper)) (v := ?_) rfl (by kernel_rfl) (by kernel_rfl) (by kernel_rfl) (fun _ _ _ h => h) (Or.inl ⟨by rfl, ?_⟩) (by assumption) ?_
        rotate_left
        focus (intro w' hSw; (try dsimp only at hSw); go_split_ands; go_simp; try with_reducible rfl)
        (try simp only [Act.put, List.setIfInBounds_toArray, List.set_cons_zero, List.set_cons_succ])
        refine wpAnyH_ready (rs := [14]) (by kernel_rfl) (by simp) ?_
        refine AllReadyH.cons (o := ({ dst := none, op := Go.Op.store 103 (Go.Operand.tmp 6) (Go.Operand.tmp 17), type := 0, pos := "resolve.go:19", after := #[{ on := 0, ground := Go.Ground.data }, { on := 8, ground := Go.Ground.chain }, { on := 0, ground := Go.Ground.phase }, { on := 1, ground := Go.Ground.textOnly Go.Departure.lateStores }, { on := 2, ground := Go.Ground.textOnly Go.Departure.lateStores }, { on := 3, ground := Go.Ground.textOnly Go.Departure.lateStores }, { on := 4, ground := Go.Ground.textOnly Go.Departure.lateStores }, { on := 5, ground := Go.Ground.textOnly Go.Departure.lateStores }, { on := 6, ground := Go.Ground.textOnly Go.Departure.lateStores }, { on := 7, ground := Go.Ground.textOnly Go.Departure.lateStores }, { on := 8, ground := Go.Ground.textOnly Go.Departure.lateStores }, { on := 9, ground := Go.Ground.textOnly Go.Departure.lateStores }, { on := 10, ground := Go.Ground.textOnly Go.Departure.lateStores }, { on := 11, ground := Go.Ground.textOnly Go.Departure.lateStores }, { on := 12, ground := Go.Ground.textOnly Go.Departure.lateStores }, { on := 13, ground := Go.Ground.textOnly Go.Departure.lateStores }], guard := none } : Oper)) rfl (fun K hK => ?_) AllReadyH.nil
        refine wp_store_row 103 (.tmp 6) (.tmp 17) rfl w.heap.size #[.string mn, .string md, .bool false] rfl rfl 103 _ R2.b infoF rfl (one3 _ _ _) ?_
        have T2 := T1.farRow (g' := w.heap.size) #[.string mn, .string md, .bool false] (Nat.ne_of_gt R.lt) (Nat.le_refl _)
        have R3 := R2.setRow #[.string mn, .string md, .bool false]
        obtain ⟨e1, e2⟩ := HDS.out _ T2.ch
        refine hK.out _ _ ?_ (fun hHeld => ?_)
        exact ⟨(T2).c 0 rfl, (T2).c 1 rfl, (T2).c 2 rfl, e1, e2⟩
        clear hK K
        (try simp only [Act.put])
        refine wpAnyH_take (i := 15) (oi := ({ dst := some 7, op := Go.Op.assign (Go.Operand.tmp 30), type := 4, pos := "resolve.go:19", after := #[{ on := 13, ground := Go.Ground.data }, { on := 14, ground := Go.Ground.chain }, { on := 0, ground := Go.Ground.phase }, { on := 1, ground := Go.Ground.phase }, { on := 2, ground := Go.Ground.phase }, { on := 3, ground := Go.Ground.phase }, { on := 4, ground := Go.Ground.phase }, { on := 5, ground := Go.Ground.phase }, { on := 6, ground := Go.Ground.phase }, { on := 7, ground := Go.Ground.phase }, { on := 8, ground := Go.Ground.phase }, { on := 9, ground := Go.Ground.phase }, { on := 10, ground := Go.Ground.phase }, { on := 11, ground := Go.Ground.phase }, { on := 12, ground := Go.Ground.phase }, { on := 13, ground := Go.Ground.phase }, { on := 14, ground := Go.Ground.phase }], guard := none } : Oper)) (v := ?_) rfl (by kernel_rfl) (by kernel_rfl) (by kernel_rfl) (fun _ _ _ h => h) (Or.inl ⟨by rfl, ?_⟩) (by assumption) ?_
        rotate_left
        focus (intro w' hSw; (try dsimp only at hSw); go_split_ands; go_simp; try with_reducible rfl)
        (try simp only [Act.put, List.setIfInBounds_toArray, List.set_cons_zero, List.set_cons_succ])
        refine wpAnyH_done (by kernel_rfl) ?_ _
        go_wp2_with fail
        refine bodyPost_ret (results_cell_one rfl _ _ w.heap.size 103 _ (0, 0) _ rfl R3.b Tryz.underlying103 rfl infoF) rfl ?_
        exact ⟨_, rfl, HR.out, R3.ch⟩
      · go_enter Tryz.func132, Tryz.ntmps132
        go_wp2_with (first
          | (go_at_call 133; (with_reducible refine hm.mono ?_); clear hm; rintro e w2 ⟨rfl, c2⟩; have R := R0.call c2; have T0 := Bo.new R.ch #[.string ⟨#[]⟩, .string ⟨#[]⟩, .bool false] 103; have R1 := R.call ((Ch.refl _).alloc (.cells #[.string ⟨#[]⟩, .string ⟨#[]⟩, .bool false] 103)))
          | (refine wpList_store_row rfl 103 (.tmp 8) (.tmp 15) rfl w2.heap.size #[.string mn, .string md, .bool true] rfl rfl 103 _ T0.b infoF rfl (one3 _ _ _) ?_; have T1 := (T0.setRow #[.string mn, .string md, .bool true]).call (Ch.refl _).drew; have R2 := (R1.farRow (g' := w2.heap.size) #[.string mn, .string md, .bool true] (Nat.ne_of_lt R.lt) R.ch.size).call (Ch.refl _).drew; obtain ⟨d1, d2⟩ := HDS.out _ T1.ch)
          | fail)
        refine wp_region_held_drew (S := fun w' => w'.cell? ⟨w2.heap.size, 0, none⟩ = some (.string mn) ∧ w'.cell? ⟨w2.heap.size, 1, none⟩ = some (.string md) ∧ w'.cell? ⟨w2.heap.size, 2, none⟩ = some (.bool true) ∧ w'.cell? ⟨td, 0, none⟩ = some (.string d) ∧ w'.cell? ⟨ts, 0, none⟩ = some (.bool false)) (by kernel_rfl) (by exact ⟨(T1).c 0 rfl, (T1).c 1 rfl, (T1).c 2 rfl, d1, d2⟩) (fun hHeld => ?_)
        refine wpAnyH_take (i := 0) (oi := ({ dst := some 17, op := Go.Op.load 103 (Go.Operand.tmp 8), type := 103, pos := "resolve.go:19", after := #[], guard := none } : Oper)) (v := ?_) rfl (by kernel_rfl) (by kernel_rfl) (by kernel_rfl) (fun _ _ _ h => h) (Or.inl ⟨by rfl, ?_⟩) (by assumption) ?_
        rotate_left
        focus (intro w' hSw; (try dsimp only at hSw); go_split_ands; go_simp; try with_reducible rfl)
        (try simp only [Act.put, List.setIfInBounds_toArray, List.set_cons_zero, List.set_cons_succ])
        refine wpAnyH_take (i := 1) (oi := ({ dst := some 18, op := Go.Op.move (Go.Operand.tmp 9), type := 4, pos := "resolve.go:19", after := #[], guard := none } : Oper)) (v := ?_) rfl (by kernel_rfl) (by kernel_rfl) (by kernel_rfl) (fun _ _ _ h => h) (Or.inl ⟨by rfl, ?_⟩) (by assumption) ?_
        rotate_left
        focus (intro w' hSw; (try dsimp only at hSw); go_split_ands; go_simp; try with_reducible rfl)
        (try simp only [Act.put, List.setIfInBounds_toArray, List.set_cons_zero, List.set_cons_succ])
        refine wpAnyH_take (i := 2) (oi := ({ dst := some 19, op := Go.Op.move (Go.Operand.tmp 18), type := 4, pos := "resolve.go:19", after := #[{ on := 1, ground := Go.Ground.data }], guard := none } : Oper)) (v := ?_) rfl (by kernel_rfl) (by kernel_rfl) (by kernel_rfl) (fun _ _ _ h => h) (Or.inl ⟨by rfl, ?_⟩) (by assumption) ?_
        rotate_left
        focus (intro w' hSw; (try dsimp only at hSw); go_split_ands; go_simp; try with_reducible rfl)
        (try simp only [Act.put, List.setIfInBounds_toArray, List.set_cons_zero, List.set_cons_succ])
        refine wpAnyH_take (i := 3) (oi := ({ dst := some 20, op := Go.Op.fieldAddr 103 (Go.Operand.tmp 8) 1, type := 0, pos := "resolve.go:19", after := #[{ on := 2, ground := Go.Ground.guard }], guard := some (2, true) } : Oper)) (v := ?_) rfl (by kernel_rfl) (by kernel_rfl) (by kernel_rfl) (fun _ _ _ h => h) (Or.inl ⟨by rfl, ?_⟩) (by assumption) ?_
        rotate_left
        focus (intro w' hSw; (try dsimp only at hSw); go_split_ands; go_simp; try with_reducible rfl)
        (try simp only [Act.put, List.setIfInBounds_toArray, List.set_cons_zero, List.set_cons_succ])
        refine wpAnyH_take (i := 4) (oi := ({ dst := some 21, op := Go.Op.load 9 (Go.Operand.tmp 20), type := 9, pos := "resolve.go:19", after := #[{ on := 3, ground := Go.Ground.data }, { on := 2, ground := Go.Ground.guard }], guard := some (2, true) } : Oper)) (v := ?_) rfl (by kernel_rfl) (by kernel_rfl) (by kernel_rfl) (fun _ _ _ h => h) (Or.inl ⟨by rfl, ?_⟩) (by assumption) ?_
        rotate_left
        focus (intro w' hSw; (try dsimp only at hSw); go_split_ands; go_simp; try with_reducible rfl)
        (try simp only [Act.put, List.setIfInBounds_toArray, List.set_cons_zero, List.set_cons_succ])
        refine wpAnyH_take (i := 5) (oi := ({ dst := some 22, op := Go.Op.load 9 (Go.Operand.tmp 3), type := 9, pos := "resolve.go:19", after := #[{ on := 2, ground := Go.Ground.guard }], guard := some (2, true) } : Oper)) (v := ?_) rfl (by kernel_rfl) (by kernel_rfl) (by kernel_rfl) (fun _ _ _ h => h) (Or.inl ⟨by rfl, ?_⟩) (by assumption) ?_
        rotate_left
        focus (intro w' hSw; (try dsimp only at hSw); go_split_ands; go_simp; try with_reducible rfl)
        (try simp only [Act.put, List.setIfInBounds_toArray, List.set_cons_zero, List.set_cons_succ])
        refine wpAnyH_take (i := 6) (oi := ({ dst := some 23, op := Go.Op.binOp Go.BinOp.eql 9 (Go.Operand.tmp 21) (Go.Operand.tmp 22) 9, type := 4, pos := "resolve.go:19", after := #[{ on := 4, ground := Go.Ground.data }, { on := 5, ground := Go.Ground.data }, { on := 2, ground := Go.Ground.guard }], guard := some (2, true) } : Oper)) (v := ?_) rfl (by kernel_rfl) (by kernel_rfl) (by kernel_rfl) (fun _ _ _ h => h) (Or.inl ⟨by rfl, ?_⟩) (by assumption) ?_
        rotate_left
        focus (intro w' hSw; (try dsimp only at hSw); go_split_ands; go_simp; try with_reducible rfl)
        (try simp only [Act.put, List.setIfInBounds_toArray, List.set_cons_zero, List.set_cons_succ])
        refine wpAnyH_take (i := 7) (oi := ({ dst := some 24, op := Go.Op.pick (Go.Operand.tmp 19) (Go.Operand.tmp 23) (Go.Operand.const (Go.Value.bool false)), type := 4, pos := "resolve.go:19", after := #[{ on := 2, ground := Go.Ground.data }, { on := 6, ground := Go.Ground.data }], guard := none } : Oper)) (v := ?_) rfl (by kernel_rfl) (by kernel_rfl) (by kernel_rfl) (fun _ _ _ h => h) (Or.inl ⟨by rfl, ?_⟩) (by assumption) ?_
        rotate_left
        focus (intro w' hSw; (try dsimp only at hSw); go_split_ands; go_simp; try with_reducible rfl)
        (try simp only [Act.put, List.setIfInBounds_toArray, List.set_cons_zero, List.set_cons_succ])
        refine wpAnyH_take (i := 8) (oi := ({ dst := some 25, op := Go.Op.move (Go.Operand.tmp 24), type := 4, pos := "resolve.go:19", after := #[{ on := 7, ground := Go.Ground.data }, { on := 2, ground := Go.Ground.chain }], guard := none } : Oper)) (v := ?_) rfl (by kernel_rfl) (by kernel_rfl) (by kernel_rfl) (fun _ _ _ h => h) (Or.inl ⟨by rfl, ?_⟩) (by assumption) ?_
        rotate_left
        focus (intro w' hSw; (try dsimp only at hSw); go_split_ands; go_simp; try with_reducible rfl)
        (try simp only [Act.put, List.setIfInBounds_toArray, List.set_cons_zero, List.set_cons_succ])
        refine wpAnyH_take (i := 9) (oi := ({ dst := some 26, op := Go.Op.fieldAddr 103 (Go.Operand.tmp 8) 2, type := 0, pos := "resolve.go:19", after := #[{ on := 8, ground := Go.Ground.guard }, { on := 14, ground := Go.Ground.gcOnly Go.Departure.lateStores }], guard := some (8, true) } : Oper)) (v := ?_) rfl (by kernel_rfl) (by kernel_rfl) (by kernel_rfl) (fun _ _ _ h => h) (Or.inl ⟨by rfl, ?_⟩) (by assumption) ?_
        rotate_left
        focus (intro w' hSw; (try dsimp only at hSw); go_split_ands; go_simp; try with_reducible rfl)
        (try simp only [Act.put, List.setIfInBounds_toArray, List.set_cons_zero, List.set_cons_succ])
        refine wpAnyH_take (i := 10) (oi := ({ dst := some 27, op := Go.Op.load 4 (Go.Operand.tmp 26), type := 4, pos := "resolve.go:19", after := #[{ on := 9, ground := Go.Ground.data }, { on := 8, ground := Go.Ground.guard }, { on := 14, ground := Go.Ground.gcOnly Go.Departure.lateStores }], guard := some (8, true) } : Oper)) (v := ?_) rfl (by kernel_rfl) (by kernel_rfl) (by kernel_rfl) (fun _ _ _ h => h) (Or.inl ⟨by rfl, ?_⟩) (by assumption) ?_
        rotate_left
        focus (intro w' hSw; (try dsimp only at hSw); go_split_ands; go_simp; try with_reducible rfl)
        (try simp only [Act.put, List.setIfInBounds_toArray, List.set_cons_zero, List.set_cons_succ])
        refine wpAnyH_take (i := 11) (oi := ({ dst := some 28, op := Go.Op.load 4 (Go.Operand.tmp 4), type := 4, pos := "resolve.go:19", after := #[{ on := 8, ground := Go.Ground.guard }, { on := 14, ground := Go.Ground.gcOnly Go.Departure.lateStores }], guard := some (8, true) } : Oper)) (v := ?_) rfl (by kernel_rfl) (by kernel_rfl) (by kernel_rfl) (fun _ _ _ h => h) (Or.inl ⟨by rfl, ?_⟩) (by assumption) ?_
        rotate_left
        focus (intro w' hSw; (try dsimp only at hSw); go_split_ands; go_simp; try with_reducible rfl)
        (try simp only [Act.put, List.setIfInBounds_toArray, List.set_cons_zero, List.set_cons_succ])
        refine wpAnyH_take (i := 12) (oi := ({ dst := some 29, op := Go.Op.binOp Go.BinOp.eql 4 (Go.Operand.tmp 27) (Go.Operand.tmp 28) 4, type := 4, pos := "resolve.go:19", after := #[{ on := 10, ground := Go.Ground.data }, { on := 11, ground := Go.Ground.data }, { on := 8, ground := Go.Ground.guard }, { on := 14, ground := Go.Ground.gcOnly Go.Departure.lateStores }], guard := some (8, true) } : Oper)) (v := ?_) rfl (by kernel_rfl) (by kernel_rfl) (by kernel_rfl) (fun _ _ _ h => h) (Or.inl ⟨by rfl, ?_⟩) (by assumption) ?_
        rotate_left
        focus (intro w' hSw; (try dsimp only at hSw); go_split_ands; go_simp; try with_reducible rfl)
        (try simp only [Act.put, List.setIfInBounds_toArray, List.set_cons_zero, List.set_cons_succ])
        refine wpAnyH_take (i := 13) (oi := ({ dst := some 30, op := Go.Op.pick (Go.Operand.tmp 25) (Go.Operand.tmp 29) (Go.Operand.const (Go.Value.bool false)), type := 4, pos := "resolve.go:19", after := #[{ on := 8, ground := Go.Ground.data }, { on := 12, ground := Go.Ground.data }, { on := 14, ground := Go.Ground.gcOnly Go.Departure.lateStores }], guard := none } : Oper)) (v := ?_) rfl (by kernel_rfl) (by kernel_rfl) (by kernel_rfl) (fun _ _ _ h => h) (Or.inl ⟨by rfl, ?_⟩) (by assumption) ?_
        rotate_left
        focus (intro w' hSw; (try dsimp only at hSw); go_split_ands; go_simp; try with_reducible rfl)
        (try simp only [Act.put, List.setIfInBounds_toArray, List.set_cons_zero, List.set_cons_succ])
        refine wpAnyH_ready (rs := [14]) (by kernel_rfl) (by simp) ?_
        refine AllReadyH.cons (o := ({ dst := none, op := Go.Op.store 103 (Go.Operand.tmp 6) (Go.Operand.tmp 17), type := 0, pos := "resolve.go:19", after := #[{ on := 0, ground := Go.Ground.data }, { on := 8, ground := Go.Ground.chain }, { on := 0, ground := Go.Ground.phase }, { on := 1, ground := Go.Ground.textOnly Go.Departure.lateStores }, { on := 2, ground := Go.Ground.textOnly Go.Departure.lateStores }, { on := 3, ground := Go.Ground.textOnly Go.Departure.lateStores }, { on := 4, ground := Go.Ground.textOnly Go.Departure.lateStores }, { on := 5, ground := Go.Ground.textOnly Go.Departure.lateStores }, { on := 6, ground := Go.Ground.textOnly Go.Departure.lateStores }, { on := 7, ground := Go.Ground.textOnly Go.Departure.lateStores }, { on := 8, ground := Go.Ground.textOnly Go.Departure.lateStores }, { on := 9, ground := Go.Ground.textOnly Go.Departure.lateStores }, { on := 10, ground := Go.Ground.textOnly Go.Departure.lateStores }, { on := 11, ground := Go.Ground.textOnly Go.Departure.lateStores }, { on := 12, ground := Go.Ground.textOnly Go.Departure.lateStores }, { on := 13, ground := Go.Ground.textOnly Go.Departure.lateStores }], guard := none } : Oper)) rfl (fun K hK => ?_) AllReadyH.nil
        refine wp_store_row 103 (.tmp 6) (.tmp 17) rfl w.heap.size #[.string mn, .string md, .bool true] rfl rfl 103 _ R2.b infoF rfl (one3 _ _ _) ?_
        have T2 := T1.farRow (g' := w.heap.size) #[.string mn, .string md, .bool true] (Nat.ne_of_gt R.lt) (Nat.le_refl _)
        have R3 := R2.setRow #[.string mn, .string md, .bool true]
        obtain ⟨e1, e2⟩ := HDS.out _ T2.ch
        refine hK.out _ _ ?_ (fun hHeld => ?_)
        exact ⟨(T2).c 0 rfl, (T2).c 1 rfl, (T2).c 2 rfl, e1, e2⟩
        clear hK K
        (try simp only [Act.put])
        refine wpAnyH_take (i := 15) (oi := ({ dst := some 7, op := Go.Op.assign (Go.Operand.tmp 30), type := 4, pos := "resolve.go:19", after := #[{ on := 13, ground := Go.Ground.data }, { on := 14, ground := Go.Ground.chain }, { on := 0, ground := Go.Ground.phase }, { on := 1, ground := Go.Ground.phase }, { on := 2, ground := Go.Ground.phase }, { on := 3, ground := Go.Ground.phase }, { on := 4, ground := Go.Ground.phase }, { on := 5, ground := Go.Ground.phase }, { on := 6, ground := Go.Ground.phase }, { on := 7, ground := Go.Ground.phase }, { on := 8, ground := Go.Ground.phase }, { on := 9, ground := Go.Ground.phase }, { on := 10, ground := Go.Ground.phase }, { on := 11, ground := Go.Ground.phase }, { on := 12, ground := Go.Ground.phase }, { on := 13, ground := Go.Ground.phase }, { on := 14, ground := Go.Ground.phase }], guard := none } : Oper)) (v := ?_) rfl (by kernel_rfl) (by kernel_rfl) (by kernel_rfl) (fun _ _ _ h => h) (Or.inl ⟨by rfl, ?_⟩) (by assumption) ?_
        rotate_left
        focus (intro w' hSw; (try dsimp only at hSw); go_split_ands; go_simp; try with_reducible rfl)
        (try simp only [Act.put, List.setIfInBounds_toArray, List.set_cons_zero, List.set_cons_succ])
        refine wpAnyH_done (by kernel_rfl) ?_ _
        go_wp2_with fail
        refine bodyPost_ret (results_cell_one rfl _ _ w.heap.size 103 _ (0, 0) _ rfl R3.b Tryz.underlying103 rfl infoF) rfl ?_
        exact ⟨_, rfl, HR.out, R3.ch⟩
      · go_enter Tryz.func132, Tryz.ntmps132
        go_wp2_with (first
          | (go_at_call 133; (with_reducible refine hm.mono ?_); clear hm; rintro e w2 ⟨rfl, c2⟩; have R := R0.call c2; have T0 := Bo.new R.ch #[.string ⟨#[]⟩, .string ⟨#[]⟩, .bool false] 103; have R1 := R.call ((Ch.refl _).alloc (.cells #[.string ⟨#[]⟩, .string ⟨#[]⟩, .bool false] 103)))
          | (refine wpList_store_row rfl 103 (.tmp 8) (.tmp 15) rfl w2.heap.size #[.string mn, .string md, .bool true] rfl rfl 103 _ T0.b infoF rfl (one3 _ _ _) ?_; have T1 := (T0.setRow #[.string mn, .string md, .bool true]).call (Ch.refl _).drew; have R2 := (R1.farRow (g' := w2.heap.size) #[.string mn, .string md, .bool true] (Nat.ne_of_lt R.lt) R.ch.size).call (Ch.refl _).drew; obtain ⟨d1, d2⟩ := HDS.out _ T1.ch)
          | fail)
        refine wp_region_held_drew (S := fun w' => w'.cell? ⟨w2.heap.size, 0, none⟩ = some (.string mn) ∧ w'.cell? ⟨w2.heap.size, 1, none⟩ = some (.string md) ∧ w'.cell? ⟨w2.heap.size, 2, none⟩ = some (.bool true) ∧ w'.cell? ⟨td, 0, none⟩ = some (.string d) ∧ w'.cell? ⟨ts, 0, none⟩ = some (.bool true)) (by kernel_rfl) (by exact ⟨(T1).c 0 rfl, (T1).c 1 rfl, (T1).c 2 rfl, d1, d2⟩) (fun hHeld => ?_)
        refine wpAnyH_take (i := 0) (oi := ({ dst := some 17, op := Go.Op.load 103 (Go.Operand.tmp 8), type := 103, pos := "resolve.go:19", after := #[], guard := none } : Oper)) (v := ?_) rfl (by kernel_rfl) (by kernel_rfl) (by kernel_rfl) (fun _ _ _ h => h) (Or.inl ⟨by rfl, ?_⟩) (by assumption) ?_
        rotate_left
        focus (intro w' hSw; (try dsimp only at hSw); go_split_ands; go_simp; try with_reducible rfl)
        (try simp only [Act.put, List.setIfInBounds_toArray, List.set_cons_zero, List.set_cons_succ])
        refine wpAnyH_take (i := 1) (oi := ({ dst := some 18, op := Go.Op.move (Go.Operand.tmp 9), type := 4, pos := "resolve.go:19", after := #[], guard := none } : Oper)) (v := ?_) rfl (by kernel_rfl) (by kernel_rfl) (by kernel_rfl) (fun _ _ _ h => h) (Or.inl ⟨by rfl, ?_⟩) (by assumption) ?_
        rotate_left
        focus (intro w' hSw; (try dsimp only at hSw); go_split_ands; go_simp; try with_reducible rfl)
        (try simp only [Act.put, List.setIfInBounds_toArray, List.set_cons_zero, List.set_cons_succ])
        refine wpAnyH_take (i := 2) (oi := ({ dst := some 19, op := Go.Op.move (Go.Operand.tmp 18), type := 4, pos := "resolve.go:19", after := #[{ on := 1, ground := Go.Ground.data }], guard := none } : Oper)) (v := ?_) rfl (by kernel_rfl) (by kernel_rfl) (by kernel_rfl) (fun _ _ _ h => h) (Or.inl ⟨by rfl, ?_⟩) (by assumption) ?_
        rotate_left
        focus (intro w' hSw; (try dsimp only at hSw); go_split_ands; go_simp; try with_reducible rfl)
        (try simp only [Act.put, List.setIfInBounds_toArray, List.set_cons_zero, List.set_cons_succ])
        refine wpAnyH_take (i := 3) (oi := ({ dst := some 20, op := Go.Op.fieldAddr 103 (Go.Operand.tmp 8) 1, type := 0, pos := "resolve.go:19", after := #[{ on := 2, ground := Go.Ground.guard }], guard := some (2, true) } : Oper)) (v := ?_) rfl (by kernel_rfl) (by kernel_rfl) (by kernel_rfl) (fun _ _ _ h => h) (Or.inl ⟨by rfl, ?_⟩) (by assumption) ?_
        rotate_left
        focus (intro w' hSw; (try dsimp only at hSw); go_split_ands; go_simp; try with_reducible rfl)
        (try simp only [Act.put, List.setIfInBounds_toArray, List.set_cons_zero, List.set_cons_succ])
        refine wpAnyH_take (i := 4) (oi := ({ dst := some 21, op := Go.Op.load 9 (Go.Operand.tmp 20), type := 9, pos := "resolve.go:19", after := #[{ on := 3, ground := Go.Ground.data }, { on := 2, ground := Go.Ground.guard }], guard := some (2, true) } : Oper)) (v := ?_) rfl (by kernel_rfl) (by kernel_rfl) (by kernel_rfl) (fun _ _ _ h => h) (Or.inl ⟨by rfl, ?_⟩) (by assumption) ?_
        rotate_left
        focus (intro w' hSw; (try dsimp only at hSw); go_split_ands; go_simp; try with_reducible rfl)
        (try simp only [Act.put, List.setIfInBounds_toArray, List.set_cons_zero, List.set_cons_succ])
        refine wpAnyH_take (i := 5) (oi := ({ dst := some 22, op := Go.Op.load 9 (Go.Operand.tmp 3), type := 9, pos := "resolve.go:19", after := #[{ on := 2, ground := Go.Ground.guard }], guard := some (2, true) } : Oper)) (v := ?_) rfl (by kernel_rfl) (by kernel_rfl) (by kernel_rfl) (fun _ _ _ h => h) (Or.inl ⟨by rfl, ?_⟩) (by assumption) ?_
        rotate_left
        focus (intro w' hSw; (try dsimp only at hSw); go_split_ands; go_simp; try with_reducible rfl)
        (try simp only [Act.put, List.setIfInBounds_toArray, List.set_cons_zero, List.set_cons_succ])
        refine wpAnyH_take (i := 6) (oi := ({ dst := some 23, op := Go.Op.binOp Go.BinOp.eql 9 (Go.Operand.tmp 21) (Go.Operand.tmp 22) 9, type := 4, pos := "resolve.go:19", after := #[{ on := 4, ground := Go.Ground.data }, { on := 5, ground := Go.Ground.data }, { on := 2, ground := Go.Ground.guard }], guard := some (2, true) } : Oper)) (v := ?_) rfl (by kernel_rfl) (by kernel_rfl) (by kernel_rfl) (fun _ _ _ h => h) (Or.inl ⟨by rfl, ?_⟩) (by assumption) ?_
        rotate_left
        focus (intro w' hSw; (try dsimp only at hSw); go_split_ands; go_simp; try with_reducible rfl)
        (try simp only [Act.put, List.setIfInBounds_toArray, List.set_cons_zero, List.set_cons_succ])
        refine wpAnyH_take (i := 7) (oi := ({ dst := some 24, op := Go.Op.pick (Go.Operand.tmp 19) (Go.Operand.tmp 23) (Go.Operand.const (Go.Value.bool false)), type := 4, pos := "resolve.go:19", after := #[{ on := 2, ground := Go.Ground.data }, { on := 6, ground := Go.Ground.data }], guard := none } : Oper)) (v := ?_) rfl (by kernel_rfl) (by kernel_rfl) (by kernel_rfl) (fun _ _ _ h => h) (Or.inl ⟨by rfl, ?_⟩) (by assumption) ?_
        rotate_left
        focus (intro w' hSw; (try dsimp only at hSw); go_split_ands; go_simp; try with_reducible rfl)
        (try simp only [Act.put, List.setIfInBounds_toArray, List.set_cons_zero, List.set_cons_succ])
        refine wpAnyH_take (i := 8) (oi := ({ dst := some 25, op := Go.Op.move (Go.Operand.tmp 24), type := 4, pos := "resolve.go:19", after := #[{ on := 7, ground := Go.Ground.data }, { on := 2, ground := Go.Ground.chain }], guard := none } : Oper)) (v := ?_) rfl (by kernel_rfl) (by kernel_rfl) (by kernel_rfl) (fun _ _ _ h => h) (Or.inl ⟨by rfl, ?_⟩) (by assumption) ?_
        rotate_left
        focus (intro w' hSw; (try dsimp only at hSw); go_split_ands; go_simp; try with_reducible rfl)
        (try simp only [Act.put, List.setIfInBounds_toArray, List.set_cons_zero, List.set_cons_succ])
        refine wpAnyH_take (i := 9) (oi := ({ dst := some 26, op := Go.Op.fieldAddr 103 (Go.Operand.tmp 8) 2, type := 0, pos := "resolve.go:19", after := #[{ on := 8, ground := Go.Ground.guard }, { on := 14, ground := Go.Ground.gcOnly Go.Departure.lateStores }], guard := some (8, true) } : Oper)) (v := ?_) rfl (by kernel_rfl) (by kernel_rfl) (by kernel_rfl) (fun _ _ _ h => h) (Or.inl ⟨by rfl, ?_⟩) (by assumption) ?_
        rotate_left
        focus (intro w' hSw; (try dsimp only at hSw); go_split_ands; go_simp; try with_reducible rfl)
        (try simp only [Act.put, List.setIfInBounds_toArray, List.set_cons_zero, List.set_cons_succ])
        refine wpAnyH_take (i := 10) (oi := ({ dst := some 27, op := Go.Op.load 4 (Go.Operand.tmp 26), type := 4, pos := "resolve.go:19", after := #[{ on := 9, ground := Go.Ground.data }, { on := 8, ground := Go.Ground.guard }, { on := 14, ground := Go.Ground.gcOnly Go.Departure.lateStores }], guard := some (8, true) } : Oper)) (v := ?_) rfl (by kernel_rfl) (by kernel_rfl) (by kernel_rfl) (fun _ _ _ h => h) (Or.inl ⟨by rfl, ?_⟩) (by assumption) ?_
        rotate_left
        focus (intro w' hSw; (try dsimp only at hSw); go_split_ands; go_simp; try with_reducible rfl)
        (try simp only [Act.put, List.setIfInBounds_toArray, List.set_cons_zero, List.set_cons_succ])
        refine wpAnyH_take (i := 11) (oi := ({ dst := some 28, op := Go.Op.load 4 (Go.Operand.tmp 4), type := 4, pos := "resolve.go:19", after := #[{ on := 8, ground := Go.Ground.guard }, { on := 14, ground := Go.Ground.gcOnly Go.Departure.lateStores }], guard := some (8, true) } : Oper)) (v := ?_) rfl (by kernel_rfl) (by kernel_rfl) (by kernel_rfl) (fun _ _ _ h => h) (Or.inl ⟨by rfl, ?_⟩) (by assumption) ?_
        rotate_left
        focus (intro w' hSw; (try dsimp only at hSw); go_split_ands; go_simp; try with_reducible rfl)
        (try simp only [Act.put, List.setIfInBounds_toArray, List.set_cons_zero, List.set_cons_succ])
        refine wpAnyH_take (i := 12) (oi := ({ dst := some 29, op := Go.Op.binOp Go.BinOp.eql 4 (Go.Operand.tmp 27) (Go.Operand.tmp 28) 4, type := 4, pos := "resolve.go:19", after := #[{ on := 10, ground := Go.Ground.data }, { on := 11, ground := Go.Ground.data }, { on := 8, ground := Go.Ground.guard }, { on := 14, ground := Go.Ground.gcOnly Go.Departure.lateStores }], guard := some (8, true) } : Oper)) (v := ?_) rfl (by kernel_rfl) (by kernel_rfl) (by kernel_rfl) (fun _ _ _ h => h) (Or.inl ⟨by rfl, ?_⟩) (by assumption) ?_
        rotate_left
        focus (intro w' hSw; (try dsimp only at hSw); go_split_ands; go_simp; try with_reducible rfl)
        (try simp only [Act.put, List.setIfInBounds_toArray, List.set_cons_zero, List.set_cons_succ])
        refine wpAnyH_take (i := 13) (oi := ({ dst := some 30, op := Go.Op.pick (Go.Operand.tmp 25) (Go.Operand.tmp 29) (Go.Operand.const (Go.Value.bool false)), type := 4, pos := "resolve.go:19", after := #[{ on := 8, ground := Go.Ground.data }, { on := 12, ground := Go.Ground.data }, { on := 14, ground := Go.Ground.gcOnly Go.Departure.lateStores }], guard := none } : Oper)) (v := ?_) rfl (by kernel_rfl) (by kernel_rfl) (by kernel_rfl) (fun _ _ _ h => h) (Or.inl ⟨by rfl, ?_⟩) (by assumption) ?_
        rotate_left
        focus (intro w' hSw; (try dsimp only at hSw); go_split_ands; go_simp; try with_reducible rfl)
        (try simp only [Act.put, List.setIfInBounds_toArray, List.set_cons_zero, List.set_cons_succ])
        refine wpAnyH_ready (rs := [14]) (by kernel_rfl) (by simp) ?_
        refine AllReadyH.cons (o := ({ dst := none, op := Go.Op.store 103 (Go.Operand.tmp 6) (Go.Operand.tmp 17), type := 0, pos := "resolve.go:19", after := #[{ on := 0, ground := Go.Ground.data }, { on := 8, ground := Go.Ground.chain }, { on := 0, ground := Go.Ground.phase }, { on := 1, ground := Go.Ground.textOnly Go.Departure.lateStores }, { on := 2, ground := Go.Ground.textOnly Go.Departure.lateStores }, { on := 3, ground := Go.Ground.textOnly Go.Departure.lateStores }, { on := 4, ground := Go.Ground.textOnly Go.Departure.lateStores }, { on := 5, ground := Go.Ground.textOnly Go.Departure.lateStores }, { on := 6, ground := Go.Ground.textOnly Go.Departure.lateStores }, { on := 7, ground := Go.Ground.textOnly Go.Departure.lateStores }, { on := 8, ground := Go.Ground.textOnly Go.Departure.lateStores }, { on := 9, ground := Go.Ground.textOnly Go.Departure.lateStores }, { on := 10, ground := Go.Ground.textOnly Go.Departure.lateStores }, { on := 11, ground := Go.Ground.textOnly Go.Departure.lateStores }, { on := 12, ground := Go.Ground.textOnly Go.Departure.lateStores }, { on := 13, ground := Go.Ground.textOnly Go.Departure.lateStores }], guard := none } : Oper)) rfl (fun K hK => ?_) AllReadyH.nil
        refine wp_store_row 103 (.tmp 6) (.tmp 17) rfl w.heap.size #[.string mn, .string md, .bool true] rfl rfl 103 _ R2.b infoF rfl (one3 _ _ _) ?_
        have T2 := T1.farRow (g' := w.heap.size) #[.string mn, .string md, .bool true] (Nat.ne_of_gt R.lt) (Nat.le_refl _)
        have R3 := R2.setRow #[.string mn, .string md, .bool true]
        obtain ⟨e1, e2⟩ := HDS.out _ T2.ch
        refine hK.out _ _ ?_ (fun hHeld => ?_)
        exact ⟨(T2).c 0 rfl, (T2).c 1 rfl, (T2).c 2 rfl, e1, e2⟩
        clear hK K
        (try simp only [Act.put])
        refine wpAnyH_take (i := 15) (oi := ({ dst := some 7, op := Go.Op.assign (Go.Operand.tmp 30), type := 4, pos := "resolve.go:19", after := #[{ on := 13, ground := Go.Ground.data }, { on := 14, ground := Go.Ground.chain }, { on := 0, ground := Go.Ground.phase }, { on := 1, ground := Go.Ground.phase }, { on := 2, ground := Go.Ground.phase }, { on := 3, ground := Go.Ground.phase }, { on := 4, ground := Go.Ground.phase }, { on := 5, ground := Go.Ground.phase }, { on := 6, ground := Go.Ground.phase }, { on := 7, ground := Go.Ground.phase }, { on := 8, ground := Go.Ground.phase }, { on := 9, ground := Go.Ground.phase }, { on := 10, ground := Go.Ground.phase }, { on := 11, ground := Go.Ground.phase }, { on := 12, ground := Go.Ground.phase }, { on := 13, ground := Go.Ground.phase }, { on := 14, ground := Go.Ground.phase }], guard := none } : Oper)) (v := ?_) rfl (by kernel_rfl) (by kernel_rfl) (by kernel_rfl) (fun _ _ _ h => h) (Or.inl ⟨by rfl, ?_⟩) (by assumption) ?_
        rotate_left
        focus (intro w' hSw; (try dsimp only at hSw); go_split_ands; go_simp; try with_reducible rfl)
        (try simp only [Act.put, List.setIfInBounds_toArray, List.set_cons_zero, List.set_cons_succ])
        refine wpAnyH_done (by kernel_rfl) ?_ _
        go_wp2_with fail
        refine bodyPost_ret (results_cell_one rfl _ _ w.heap.size 103 _ (0, 0) _ rfl R3.b Tryz.underlying103 rfl infoF) rfl ?_
        exact ⟨_, rfl, HR.out, R3.ch⟩
/-- The first of a row of classes that has what is looked for. -/
def fst2 (F : ByteArray → Option Fld) : List ByteArray → ByteArray × Option Fld
  | [] => (⟨#[]⟩, none)
  | x :: r => match F x with
    | some m => (x, some m)
    | none => fst2 F r
theorem fst2_step (F : ByteArray → Option Fld) {l : List ByteArray} {k : Nat} {x : ByteArray} (h : l[k]? = some x) : fst2 F (l.drop k) = match F x with
    | some m => (x, some m)
    | none => fst2 F (l.drop (k + 1)) := by
  obtain ⟨h1, h2⟩ := List.getElem?_eq_some_iff.1 h
  rw [List.drop_eq_getElem_cons h1, h2, fst2]
set_option maxHeartbeats 16000000 in
set_option maxRecDepth 100000 in
theorem firstF_any (F : ByteArray → Option Fld) (l : List ByteArray) (v : Value) (tp tn td ts : Nat) (w : World) (hv : Sl 1 RS w v l) (hl : ∀ x ∈ l, x.size ≤ 100000) (hf : ∀ w', Ch w w' → ∀ x ∈ l, Calls Tryz.prog 132 #[.string x, .pointer (some ⟨tp, 0, none⟩), .pointer (some ⟨tn, 0, none⟩), .pointer (some ⟨td, 0, none⟩), .pointer (some ⟨ts, 0, none⟩)] w' fun e w2 => ∃ m, e = .returned (.tuple #[fV m, .bool (F x).isSome]) ∧ (∀ m', F x = some m' → m = m') ∧ Ch w' w2) :
    Calls Tryz.prog 130 #[v, .func (.func 132) #[] #[.pointer (some ⟨tp, 0, none⟩), .pointer (some ⟨tn, 0, none⟩), .pointer (some ⟨td, 0, none⟩), .pointer (some ⟨ts, 0, none⟩)]] w fun e w' => e = .returned (.tuple #[.string (fst2 F l).1, fV ((fst2 F l).2.getD noF), .bool (fst2 F l).2.isSome]) ∧ Ch w w' := by
  have R0 := Bo.new (Ch.refl w) #[.string ⟨#[]⟩, .string ⟨#[]⟩, .bool false] 103
  have T0 := Bo.new R0.ch #[.string ⟨#[]⟩, .string ⟨#[]⟩, .bool false] 103
  have R0 := R0.call ((Ch.refl _).alloc (.cells #[.string ⟨#[]⟩, .string ⟨#[]⟩, .bool false] 103))
  have e1 : (w.alloc (.cells #[.string ⟨#[]⟩, .string ⟨#[]⟩, .bool false] 103)).heap.size = w.heap.size + 1 := by simp
  rw [e1] at T0
  clear e1
  obtain ⟨ao, cl, rfl, hx1, hx2⟩ := hv.form
  have HV : Hid (∀ w', Ch w w' → Sl 1 RS w' (.slice ao l.length cl) l) := fun w' k => hv.keepS k
  have HL : Hid (∀ x ∈ l, x.size ≤ 100000) := hl
  have HF : Hid (∀ w', Ch w w' → ∀ x ∈ l, Calls Tryz.prog 132 #[.string x, .pointer (some ⟨tp, 0, none⟩), .pointer (some ⟨tn, 0, none⟩), .pointer (some ⟨td, 0, none⟩), .pointer (some ⟨ts, 0, none⟩)] w' fun e w2 => ∃ m, e = .returned (.tuple #[fV m, .bool (F x).isSome]) ∧ (∀ m', F x = some m' → m = m') ∧ Ch w' w2) := hf
  clear hv hl hf
  obtain ⟨r, hr⟩ : ∃ r, fst2 F l = r := ⟨_, rfl⟩
  rw [hr]
  have HR : Hid (fst2 F (l.drop 0) = r) := hr
  clear hr
  unfold fV at *
  go_enter Tryz.func130, Tryz.ntmps130
  go_wp2_with fail
  refine wp_scope_oneL 0 (by rfl) ?_
  go_wp2_with fail
  go_loopw [4, 6, 10] (fun o q i wr => ∃ (k : Nat) (s : ByteArray) (t : Bool) (cs : Array Value), k ≤ l.length ∧ i = .int .i64 k ∧ o = .string s ∧ q = .bool t ∧ cs.size = 3 ∧ fst2 F (l.drop k) = r ∧ Bo w w.heap.size 103 cs wr ∧ Bo w (w.heap.size + 1) 103 #[.string ⟨#[]⟩, .string ⟨#[]⟩, .bool false] wr) (fun _ _ i _ => l.length - (intOf i).toNat)
  case atStart => exact ⟨0, ⟨#[]⟩, false, _, Nat.zero_le _, rfl, rfl, rfl, rfl, HR.out, R0, T0⟩
  case round =>
    obtain ⟨k, s, t, cs, hk, rfl, rfl, rfl, hcs, hno, R, T⟩ := hrel
    clear R0 T0
    by_cases hlt : k < l.length
    · obtain ⟨x, hx⟩ : ∃ x, l[k]? = some x := ⟨_, List.getElem?_eq_getElem hlt⟩
      obtain ⟨b', off, rfl, q0⟩ := (HV.out wr R.ch).atS hx
      have hfk := HF.out wr R.ch x (List.mem_of_getElem? hx)
      have hsz := HL.out x (List.mem_of_getElem? hx)
      rw [fst2_step F hx] at hno
      clear hx
      generalize F x = fx at *
      cases fx with
      | none =>
        have HN : Hid (fst2 F (l.drop (k + 1)) = r) := hno
        clear hno
        go_wp2_with (first
          | (go_at_call 132; (with_reducible refine hfk.mono ?_); clear hfk; rintro e w3 ⟨m, rfl, _, c3⟩; have R3 := R.call c3; have T3 := T.call c3)
          | (refine wpList_store_row rfl 103 (.tmp 5) (.tmp 18) rfl w.heap.size #[.string m.n, .string m.d, .bool m.st] rfl rfl 103 _ R3.b infoF hcs (one3 _ _ _) ?_; have R4 := R3.setRow #[.string m.n, .string m.d, .bool m.st]; have T4 := T3.farRow (g' := w.heap.size) #[.string m.n, .string m.d, .bool m.st] (by omega) (Nat.le_refl _))
          | fail)
        go_roundw
        case rel => exact ⟨k + 1, x, false, _, by omega, by go_num, rfl, rfl, rfl, HN.out, R4, T4⟩
        case measure => simp [intOf]; omega
      | some m' =>
        subst hno
        go_wp2_with (first
          | (go_at_call 132; (with_reducible refine hfk.mono ?_); clear hfk; rintro e w3 ⟨m, rfl, hmm, c3⟩; have hmm := hmm _ rfl; subst hmm; have R3 := R.call c3)
          | (refine wpList_store_row rfl 103 (.tmp 5) (.tmp 18) rfl w.heap.size #[.string m.n, .string m.d, .bool m.st] rfl rfl 103 _ R3.b infoF hcs (one3 _ _ _) ?_; have R4 := R3.setRow #[.string m.n, .string m.d, .bool m.st])
          | fail)
        go_step3
        refine And.intro rfl ?_
        change Code.wp Tryz.prog _ _ _ _
        go_wp2_with fail
        have R5 := R4.call (Ch.refl _).drew
        have hcl := clone_any x (w3.setRow w.heap.size #[.string m.n, .string m.d, .bool m.st]).drew hsz
        refine wp_region_held_drew (S := fun w' => w'.cell? ⟨w.heap.size, 0, none⟩ = some (.string m.n) ∧ w'.cell? ⟨w.heap.size, 1, none⟩ = some (.string m.d) ∧ w'.cell? ⟨w.heap.size, 2, none⟩ = some (.bool m.st)) (by kernel_rfl) (by exact ⟨(R5).c 0 rfl, (R5).c 1 rfl, (R5).c 2 rfl⟩) (fun hHeld => ?_)
        refine wpAnyH_take (i := 0) (oi := ({ dst := some 23, op := Go.Op.move (Go.Operand.tmp 4), type := 9, pos := "resolve.go:112", after := #[], guard := none } : Oper)) (v := ?_) rfl (by kernel_rfl) (by kernel_rfl) (by kernel_rfl) (fun _ _ _ h => h) (Or.inl ⟨by rfl, ?_⟩) (by assumption) ?_
        rotate_left
        focus (intro w' hSw; (try dsimp only at hSw); go_split_ands; go_simp; try with_reducible rfl)
        (try simp only [Act.put, List.setIfInBounds_toArray, List.set_cons_zero, List.set_cons_succ])
        refine wpAnyH_take (i := 2) (oi := ({ dst := some 25, op := Go.Op.load 103 (Go.Operand.tmp 5), type := 103, pos := "resolve.go:112", after := #[{ on := 3, ground := Go.Ground.gcOnly Go.Departure.lateStores }], guard := none } : Oper)) (v := ?_) rfl (by kernel_rfl) (by kernel_rfl) (by kernel_rfl) (fun _ _ _ h => h) (Or.inl ⟨by rfl, ?_⟩) (by assumption) ?_
        rotate_left
        focus (intro w' hSw; (try dsimp only at hSw); go_split_ands; go_simp; try with_reducible rfl)
        (try simp only [Act.put, List.setIfInBounds_toArray, List.set_cons_zero, List.set_cons_succ])
        refine wpAnyH_ready (rs := [1]) (by kernel_rfl) (by simp) ?_
        refine AllReadyH.cons (o := ({ dst := some 24, op := Go.Op.call { callee := Go.Callee.value (Go.Operand.func 79), args := #[Go.Operand.tmp 23], argTypes := #[9] }, type := 9, pos := "resolve.go:112", after := #[{ on := 0, ground := Go.Ground.data }], guard := none } : Oper)) rfl (fun K hK => ?_) AllReadyH.nil
        go_simp
        go_at_call 79; (with_reducible refine hcl.mono ?_); clear hcl; rintro e w6 ⟨rfl, c6⟩; have R6 := R5.call c6
        refine hK.out _ _ ?_ (fun hHeld => ?_)
        exact ⟨(R6).c 0 rfl, (R6).c 1 rfl, (R6).c 2 rfl⟩
        clear hK K
        (try simp only [Act.put, List.setIfInBounds_toArray, List.set_cons_zero, List.set_cons_succ])
        refine wpAnyH_take (i := 3) (oi := ({ dst := some 4, op := Go.Op.assign (Go.Operand.tmp 24), type := 9, pos := "resolve.go:112", after := #[{ on := 1, ground := Go.Ground.data }, { on := 1, ground := Go.Ground.chain }, { on := 0, ground := Go.Ground.phase }, { on := 1, ground := Go.Ground.phase }, { on := 2, ground := Go.Ground.textOnly Go.Departure.lateStores }], guard := none } : Oper)) (v := ?_) rfl (by kernel_rfl) (by kernel_rfl) (by kernel_rfl) (fun _ _ _ h => h) (Or.inl ⟨by rfl, ?_⟩) (by assumption) ?_
        rotate_left
        focus (intro w' hSw; (try dsimp only at hSw); go_split_ands; go_simp; try with_reducible rfl)
        (try simp only [Act.put, List.setIfInBounds_toArray, List.set_cons_zero, List.set_cons_succ])
        refine wpAnyH_ready (rs := [4]) (by kernel_rfl) (by simp) ?_
        refine AllReadyH.cons (o := ({ dst := none, op := Go.Op.store 103 (Go.Operand.tmp 5) (Go.Operand.tmp 25), type := 0, pos := "resolve.go:112", after := #[{ on := 2, ground := Go.Ground.data }, { on := 3, ground := Go.Ground.chain }, { on := 0, ground := Go.Ground.phase }, { on := 1, ground := Go.Ground.phase }, { on := 2, ground := Go.Ground.phase }, { on := 3, ground := Go.Ground.phase }], guard := none } : Oper)) rfl (fun K hK => ?_) AllReadyH.nil
        refine wp_store_row 103 (.tmp 5) (.tmp 25) rfl w.heap.size #[.string m.n, .string m.d, .bool m.st] rfl rfl 103 _ R6.b infoF rfl (one3 _ _ _) ?_
        have R7 := R6.setRow #[.string m.n, .string m.d, .bool m.st]
        refine hK.out _ _ ?_ (fun hHeld => ?_)
        exact ⟨(R7).c 0 rfl, (R7).c 1 rfl, (R7).c 2 rfl⟩
        clear hK K
        (try simp only [Act.put])
        refine wpAnyH_take (i := 5) (oi := ({ dst := some 6, op := Go.Op.assign (Go.Operand.const (Go.Value.bool true)), type := 4, pos := "resolve.go:112", after := #[{ on := 4, ground := Go.Ground.chain }, { on := 0, ground := Go.Ground.phase }, { on := 1, ground := Go.Ground.phase }, { on := 2, ground := Go.Ground.phase }, { on := 3, ground := Go.Ground.phase }, { on := 4, ground := Go.Ground.phase }], guard := none } : Oper)) (v := ?_) rfl (by kernel_rfl) (by kernel_rfl) (by kernel_rfl) (fun _ _ _ h => h) (Or.inl ⟨by rfl, ?_⟩) (by assumption) ?_
        rotate_left
        focus (intro w' hSw; (try dsimp only at hSw); go_split_ands; go_simp; try with_reducible rfl)
        (try simp only [Act.put, List.setIfInBounds_toArray, List.set_cons_zero, List.set_cons_succ])
        refine wpAnyH_done (by kernel_rfl) ?_ _
        go_wp2_with fail
        rw [Exit.noGoto_ret]
        refine bodyPost_ret (results_cells rfl _ _ w.heap.size 103 _ (0, 0) _ rfl R7.b Tryz.underlying103 rfl infoF) rfl ?_
        exact ⟨rfl, R7.ch⟩
    · obtain rfl : k = l.length := by omega
      rw [List.drop_length] at hno
      subst hno
      go_wp2_with fail
      have R5 := R.call (Ch.refl _).drew
      have T5 := T.call (Ch.refl _).drew
      refine wp_region_held_drew (S := fun w' => w'.cell? ⟨w.heap.size + 1, 0, none⟩ = some (.string ⟨#[]⟩) ∧ w'.cell? ⟨w.heap.size + 1, 1, none⟩ = some (.string ⟨#[]⟩) ∧ w'.cell? ⟨w.heap.size + 1, 2, none⟩ = some (.bool false)) (by kernel_rfl) (by exact ⟨(T5).c 0 rfl, (T5).c 1 rfl, (T5).c 2 rfl⟩) (fun hHeld => ?_)
      refine wpAnyH_take (i := 0) (oi := ({ dst := some 22, op := Go.Op.load 103 (Go.Operand.tmp 7), type := 103, pos := "resolve.go:110", after := #[{ on := 1, ground := Go.Ground.gcOnly Go.Departure.lateStores }], guard := none } : Oper)) (v := ?_) rfl (by kernel_rfl) (by kernel_rfl) (by kernel_rfl) (fun _ _ _ h => h) (Or.inl ⟨by rfl, ?_⟩) (by assumption) ?_
      rotate_left
      focus (intro w' hSw; (try dsimp only at hSw); go_split_ands; go_simp; try with_reducible rfl)
      (try simp only [Act.put, List.setIfInBounds_toArray, List.set_cons_zero, List.set_cons_succ])
      refine wpAnyH_take (i := 1) (oi := ({ dst := some 4, op := Go.Op.assign (Go.Operand.const (Go.Value.string { data := #[] })), type := 9, pos := "resolve.go:110", after := #[{ on := 0, ground := Go.Ground.textOnly Go.Departure.lateStores }], guard := none } : Oper)) (v := ?_) rfl (by kernel_rfl) (by kernel_rfl) (by kernel_rfl) (fun _ _ _ h => h) (Or.inl ⟨by rfl, ?_⟩) (by assumption) ?_
      rotate_left
      focus (intro w' hSw; (try dsimp only at hSw); go_split_ands; go_simp; try with_reducible rfl)
      (try simp only [Act.put, List.setIfInBounds_toArray, List.set_cons_zero, List.set_cons_succ])
      refine wpAnyH_ready (rs := [2]) (by kernel_rfl) (by simp) ?_
      refine AllReadyH.cons (o := ({ dst := none, op := Go.Op.store 103 (Go.Operand.tmp 5) (Go.Operand.tmp 22), type := 0, pos := "resolve.go:110", after := #[{ on := 0, ground := Go.Ground.data }, { on := 1, ground := Go.Ground.chain }, { on := 0, ground := Go.Ground.phase }, { on := 1, ground := Go.Ground.phase }], guard := none } : Oper)) rfl (fun K hK => ?_) AllReadyH.nil
      refine wp_store_row 103 (.tmp 5) (.tmp 22) rfl w.heap.size #[.string ⟨#[]⟩, .string ⟨#[]⟩, .bool false] rfl rfl 103 _ R5.b infoF hcs (one3 _ _ _) ?_
      have R7 := R5.setRow #[.string ⟨#[]⟩, .string ⟨#[]⟩, .bool false]
      have T7 := T5.farRow (g' := w.heap.size) #[.string ⟨#[]⟩, .string ⟨#[]⟩, .bool false] (by omega) (Nat.le_refl _)
      refine hK.out _ _ ?_ (fun hHeld => ?_)
      exact ⟨(T7).c 0 rfl, (T7).c 1 rfl, (T7).c 2 rfl⟩
      clear hK K
      (try simp only [Act.put])
      refine wpAnyH_take (i := 3) (oi := ({ dst := some 6, op := Go.Op.assign (Go.Operand.const (Go.Value.bool false)), type := 4, pos := "resolve.go:110", after := #[{ on := 2, ground := Go.Ground.chain }, { on := 0, ground := Go.Ground.phase }, { on := 1, ground := Go.Ground.phase }, { on := 2, ground := Go.Ground.phase }], guard := none } : Oper)) (v := ?_) rfl (by kernel_rfl) (by kernel_rfl) (by kernel_rfl) (fun _ _ _ h => h) (Or.inl ⟨by rfl, ?_⟩) (by assumption) ?_
      rotate_left
      focus (intro w' hSw; (try dsimp only at hSw); go_split_ands; go_simp; try with_reducible rfl)
      (try simp only [Act.put, List.setIfInBounds_toArray, List.set_cons_zero, List.set_cons_succ])
      refine wpAnyH_done (by kernel_rfl) ?_ _
      go_wp2_with fail
      rw [jump_retL]
      refine bodyPost_ret (results_cells rfl _ _ w.heap.size 103 _ (0, 0) _ rfl R7.b Tryz.underlying103 rfl infoF) rfl ?_
      exact ⟨rfl, R7.ch⟩
end Go.Proofs.YthmepecmeambmaaGreat
