/- Whether two members are the same. -/
/- Members, each once. -/
import Derived.Test.YthmepecmeambmaaGreatKLkS
import Derived.Deep.RegionHeld3
import Derived.ChangeKeysEq
namespace Go.Proofs.YthmepecmeambmaaGreat
open Go.RowKit
set_option linter.unusedVariables false

def RPa (_ : World) (cs : List Value) (p : ByteArray × ByteArray) : Prop := cs = [.string p.1, .string p.2]
theorem Sl.keepPa {w w' : World} {v : Value} {xs : List (ByteArray × ByteArray)} (h : Sl 2 RPa w v xs) (c : Ch w w') : Sl 2 RPa w' v xs := h.keep (fun _ _ x => x) c
theorem Sl.atPa {w : World} {ao : Option Addr} {n cap : Nat} {xs : List (ByteArray × ByteArray)} (h : Sl 2 RPa w (.slice ao n cap) xs) {i : Nat} {x : ByteArray × ByteArray} (hi : xs[i]? = some x) :
    ∃ b off, ao = some ⟨b, off, none⟩ ∧ w.cell? ⟨b, off + i * 2, none⟩ = some (.string x.1) ∧ w.cell? ⟨b, off + i * 2 + 1, none⟩ = some (.string x.2) := by
  obtain ⟨b, off, cs, ha, hr, hc⟩ := h.at hi
  have hr : cs = [.string x.1, .string x.2] := hr
  subst hr
  exact ⟨b, off, ha, hc 0 _ rfl, hc 1 _ rfl⟩
theorem cells9q : Tryz.prog.cellsOf 9 = 1 := by kernel_rfl
theorem part0 (x y : ByteArray) (W : World) : (part 9 #[Value.string x, .string y] 0).run Tryz.prog W = .ok (.string x) W := by kernel_rfl
theorem part1 (x y : ByteArray) (W : World) : (part 9 #[Value.string x, .string y] 1).run Tryz.prog W = .ok (.string y) W := by kernel_rfl
theorem eq9 (x y : ByteArray) (W : World) (d : Nat) : (Op.equalIn (d + 1) 9 (.string x) (.string y)).run Tryz.prog W = .ok (nq x y) W := by
  rw [← toList_nq]
  exact run_equalIn_string (P := Tryz.prog) (w := W) d 9 x y Tryz.underlying9
theorem eqIn (a b c e : ByteArray) (W : World) (d : Nat) : (Op.equalIn (d + 2) 229 (.agg #[.string a, .string b]) (.agg #[.string c, .string e])).run Tryz.prog W = .ok (nq a c && nq b e) W := by
  obtain ⟨i, hi, _⟩ := info_parts infS9
  rw [run_equalIn_array W (d + 1) _ _ Tryz.underlying229 hi, cells9q]
  have h9 := fun x y => eq9 x y W d
  have p0 := fun x y => part0 x y W
  have p1 := fun x y => part1 x y W
  have e2 : List.range 2 = [0, 1] := rfl
  rw [e2]
  simp only [Op.eqItems, Sem.run_bind, Nat.zero_mul, Nat.one_mul, p0, Result.andThen_ok, h9]
  cases nq a c
  · simp
  · simp only [Bool.not_true, Bool.true_and]
    cases hq : nq b e <;> simp [p1, h9, hq]
theorem infoPa : (Tryz.prog.info? 229).map (·.size) = some 2 := by kernel_rfl
theorem onePa (a b : ByteArray) : (#[Value.string a, .string b].all (·.oneCell')) = true := by kernel_rfl
theorem eqPair (a b c d : ByteArray) (W : World) : (binOp .eql 229 (.agg #[.string a, .string b]) (.agg #[.string c, .string d])).run Tryz.prog W = .ok (.bool (nq a c && nq b d)) W := by
  have h := eqIn a b c d W 9998
  go_simp
theorem anyPa_snoc (l : List (ByteArray × ByteArray)) (x n : ByteArray × ByteArray) : (l ++ [x]).any (fun y => nd2 y n) = (l.any (fun y => nd2 y n) || nd2 x n) := by simp [List.any_append]

set_option maxHeartbeats 4000000 in
theorem indexPa_any (n : ByteArray × ByteArray) (xs : List (ByteArray × ByteArray)) (v : Value) (w : World) (hv : Sl 2 RPa w v xs) :
    Calls Tryz.prog 325 #[v, .agg #[.string n.1, .string n.2]] w fun e w' => (∃ r : Int, e = .returned (.int .i64 r) ∧ decide (0 ≤ r) = xs.any (fun y => nd2 y n)) ∧ Ch w w' := by
  obtain ⟨ao, c, rfl, hc1, hc2⟩ := hv.form
  have HV : Hid (Sl 2 RPa w (.slice ao xs.length c) xs) := hv
  clear hv
  obtain ⟨n1, n2⟩ := n
  dsimp only
  obtain ⟨ans, hans⟩ : ∃ q, xs.any (fun y => nd2 y (n1, n2)) = q := ⟨_, rfl⟩
  rw [hans]
  refine Calls.mono (R := fun e w' => (∃ r : Int, e = .returned (.int .i64 r) ∧ Hid (decide (0 ≤ r) = ans)) ∧ Ch w w') ?_ (fun e w' ⟨⟨r, h1, h2⟩, h3⟩ => ⟨⟨r, h1, h2.out⟩, h3⟩)
  have HA : Hid (xs.any (fun y => nd2 y (n1, n2)) = ans) := hans
  clear hans
  have hB : Bo w w.heap.size 229 #[.string n1, .string n2] _ := Bo.new (Ch.refl w) _ _
  have HB : Hid (Bo w w.heap.size 229 #[.string n1, .string n2] (w.alloc (.cells #[.string n1, .string n2] 229))) := hB
  go_enter Tryz.func325, Tryz.ntmps325
  go_wp2_with fail
  go_loopw [8] (fun i wr => ∃ k : Nat, k ≤ xs.length ∧ i = .int .i64 k ∧ (xs.take k).any (fun y => nd2 y (n1, n2)) = false ∧ Ch (w.alloc (.cells #[.string n1, .string n2] 229)) wr) (fun i _ => xs.length - (intOf i).toNat)
  case atStart => exact ⟨0, Nat.zero_le _, rfl, by simp, Ch.refl _⟩
  case round =>
    clear hB
    obtain ⟨k, hk, rfl, hno, hcr⟩ := hrel
    have hcw := HB.out.ch.trans hcr
    by_cases hlt : k < xs.length
    · obtain ⟨⟨x1, x2⟩, hx⟩ : ∃ x, xs[k]? = some x := ⟨_, List.getElem?_eq_getElem hlt⟩
      obtain ⟨b', off, rfl, q0, q1⟩ := (HV.out.keepPa hcw).atPa hx
      have hq := fun W => eqPair n1 n2 x1 x2 W
      have hqe : (nq n1 x1 && nq n2 x2) = nd2 (x1, x2) (n1, n2) := by unfold nd2; rw [nq_comm n1, nq_comm n2]
      have HS : Hid ((xs.take (k + 1)).any (fun y => nd2 y (n1, n2)) = nd2 (x1, x2) (n1, n2)) := by
        obtain ⟨h1, h2⟩ := List.getElem?_eq_some_iff.1 hx
        show (xs.take (k + 1)).any (fun y => nd2 y (n1, n2)) = nd2 (x1, x2) (n1, n2)
        rw [List.take_succ_eq_append_getElem h1, h2, anyPa_snoc, hno, Bool.false_or]
      have HM : Hid ((x1, x2) ∈ xs) := List.mem_of_getElem? hx
      have HD : Hid (∀ w', Ch wr w' → w'.cell? ⟨w.heap.size, 0, none⟩ = some (.string n1) ∧ w'.cell? ⟨w.heap.size, 1, none⟩ = some (.string n2) ∧ w'.cell? ⟨b', off + k * 2, none⟩ = some (.string x1) ∧ w'.cell? ⟨b', off + k * 2 + 1, none⟩ = some (.string x2)) := fun w' c => ⟨(HB.out.call (hcr.trans c)).c 0 rfl, (HB.out.call (hcr.trans c)).c 1 rfl, cell_keep c q0, cell_keep c q1⟩
      dsimp only at q0 q1
      rw [hqe] at hq
      clear hx hno hqe q0 q1
      obtain ⟨bq, hbq⟩ : ∃ q, nd2 (x1, x2) (n1, n2) = q := ⟨_, rfl⟩
      rw [hbq] at HS
      have hq2 : ∀ W, (binOp .eql 229 (.agg #[.string n1, .string n2]) (.agg #[.string x1, .string x2])).run Tryz.prog W = .ok (.bool bq) W := fun W => by rw [hq W, hbq]
      have HBQ : Hid (nd2 (x1, x2) (n1, n2) = bq) := hbq
      clear hbq hq
      cases bq with
      | true =>
        go_wp2_with fail
        go_region_held3 (fun w' => w'.cell? ⟨w.heap.size, 0, none⟩ = some (.string n1) ∧ w'.cell? ⟨w.heap.size, 1, none⟩ = some (.string n2) ∧ w'.cell? ⟨b', off + k * 2, none⟩ = some (.string x1) ∧ w'.cell? ⟨b', off + k * 2 + 1, none⟩ = some (.string x2)) (first | (with_reducible exact HD.out _ (Ch.refl wr).drew) | fail) (first | fail)
        go_wp2_with fail
        go_ret
        refine ⟨⟨_, rfl, ?_⟩, hcw.trans (Ch.refl wr).drew⟩
        show decide _ = ans
        rw [← HA.out, List.any_eq_true.2 ⟨_, HM.out, HBQ.out⟩]
        simp
      | false =>
        go_wp2_with fail
        go_region_held3 (fun w' => w'.cell? ⟨w.heap.size, 0, none⟩ = some (.string n1) ∧ w'.cell? ⟨w.heap.size, 1, none⟩ = some (.string n2) ∧ w'.cell? ⟨b', off + k * 2, none⟩ = some (.string x1) ∧ w'.cell? ⟨b', off + k * 2 + 1, none⟩ = some (.string x2)) (first | (with_reducible exact HD.out _ (Ch.refl wr).drew) | fail) (first | fail)
        go_wp2_with fail
        go_roundw
        case rel => exact ⟨k + 1, by omega, by go_num, HS.out, hcr.trans (Ch.refl wr).drew⟩
        case measure => simp [intOf]; omega
    · obtain rfl : k = xs.length := by omega
      rw [List.take_length] at hno
      have HNO : Hid (xs.any (fun y => nd2 y (n1, n2)) = false) := hno
      clear hno
      go_wp2_with fail
      go_ret
      refine ⟨⟨_, rfl, ?_⟩, hcw⟩
      show decide _ = ans
      rw [← HA.out, HNO.out]
      rfl
set_option maxHeartbeats 1000000 in
theorem containsPa_any (n : ByteArray × ByteArray) (xs : List (ByteArray × ByteArray)) (v : Value) (w : World) (hv : Sl 2 RPa w v xs) :
    Calls Tryz.prog 287 #[v, .agg #[.string n.1, .string n.2]] w fun e w' => e = .returned (.bool (xs.any (fun y => nd2 y n))) ∧ Ch w w' := by
  have hca := (Ch.refl w).alloc (.cells #[.string n.1, .string n.2] 229)
  have hi := indexPa_any n xs v _ (hv.keepPa hca)
  obtain ⟨ao, c, rfl, hc1, hc2⟩ := hv.form
  clear hv
  obtain ⟨n1, n2⟩ := n
  dsimp only at *
  generalize xs.any (fun y => nd2 y (n1, n2)) = a at *
  have hB : Bo w w.heap.size 229 #[.string n1, .string n2] _ := Bo.new (Ch.refl w) _ _
  have b0 := hB.c 0 rfl
  have b1 := hB.c 1 rfl
  clear hB
  go_enter Tryz.func287, Tryz.ntmps287
  go_wp2_with (first
    | (go_at_call 325; (with_reducible refine hi.mono ?_); rintro e w3 ⟨⟨r, rfl, hr⟩, c3⟩)
    | fail)
  go_ret
  exact ⟨rfl, hca.trans c3⟩

theorem slPa (b off n c k : Nat) (hk : k ≤ c) (hn : n ≤ c) (hc : c ≤ 9223372036854775807) (W : World) : (Instr.slice 228 (.slice (some ⟨b, off, none⟩) n c) none (some (.int .i64 (k : Int))) none).run Tryz.prog W = .ok (.slice (some ⟨b, off, none⟩) k c) W := by
  have h1 : (0 : Int) ≤ (k : Int) := by omega
  have h2 : (k : Int) ≤ (c : Int) := by omega
  go_simp
set_option maxHeartbeats 8000000 in
theorem twicePa_any (xs : List (ByteArray × ByteArray)) (v : Value) (w : World) (hv : Sl 2 RPa w v xs) :
    Calls Tryz.prog 219 #[v] w fun e w' => e = .returned (.bool (tw nd2 [] xs)) ∧ Ch w w' := by
  obtain ⟨ao, c, rfl, hc1, hc2⟩ := hv.form
  have HV : Hid (Sl 2 RPa w (.slice ao xs.length c) xs) := hv
  clear hv
  obtain ⟨ans, hans⟩ : ∃ q, tw nd2 [] xs = q := ⟨_, rfl⟩
  rw [hans]
  have HA : Hid (tw nd2 (xs.take 0) (xs.drop 0) = ans) := hans
  clear hans
  go_enter Tryz.func219, Tryz.ntmps219
  go_wp2_with fail
  go_loopw [7] (fun i wr => ∃ k : Nat, k ≤ xs.length ∧ i = .int .i64 k ∧ tw nd2 (xs.take k) (xs.drop k) = ans ∧ Ch w wr) (fun i _ => xs.length - (intOf i).toNat)
  case atStart => exact ⟨0, Nat.zero_le _, rfl, HA.out, Ch.refl _⟩
  case round =>
    obtain ⟨k, hk, rfl, hno, hcr⟩ := hrel
    by_cases hlt : k < xs.length
    · obtain ⟨⟨x1, x2⟩, hx⟩ : ∃ x, xs[k]? = some x := ⟨_, List.getElem?_eq_getElem hlt⟩
      obtain ⟨b', off, rfl, q0, q1⟩ := (HV.out.keepPa hcr).atPa hx
      dsimp only at q0 q1
      rw [tw_step nd2 hx] at hno
      have hl : (xs.take k).length = k := by rw [List.length_take]; omega
      have HC : Hid (∀ w', Ch wr w' → Calls Tryz.prog 287 #[.slice (some ⟨b', off, none⟩) k c, .agg #[.string x1, .string x2]] w' fun e w2 => e = .returned (.bool ((xs.take k).any (fun y => nd2 y (x1, x2)))) ∧ Ch w' w2) := fun w' cc => containsPa_any (x1, x2) (xs.take k) _ w' ((HV.out.take k (by omega)).keepPa (hcr.trans cc))
      have hsl := fun W => slPa b' off xs.length c k (by omega) hc1 hc2 W
      have HN : Hid (((xs.take k).any (fun y => nd2 y (x1, x2)) || tw nd2 (xs.take (k + 1)) (xs.drop (k + 1))) = ans) := hno
      have hB : Bo wr wr.heap.size 229 #[.string x1, .string x2] _ := Bo.new (Ch.refl wr) _ _
      have HD : Hid (∀ w', Ch (wr.alloc (.cells #[.string x1, .string x2] 229)) w' → w'.cell? ⟨wr.heap.size, 0, none⟩ = some (.string x1) ∧ w'.cell? ⟨wr.heap.size, 1, none⟩ = some (.string x2)) := fun w' cc => ⟨(hB.call cc).c 0 rfl, (hB.call cc).c 1 rfl⟩
      have hca := hB.ch
      clear hx hno hl hB
      obtain ⟨bq, hbq⟩ : ∃ q, (xs.take k).any (fun y => nd2 y (x1, x2)) = q := ⟨_, rfl⟩
      rw [hbq] at HC HN
      clear hbq
      cases bq with
      | true =>
        go_wp2_with (first
          | (refine wpList_store_row rfl 229 (.tmp 4) (.tmp 11) rfl wr.heap.size #[.string x1, .string x2] rfl rfl 229 _ (heap_alloc_new _ _) infoPa rfl (onePa _ _) ?_; rw [setRow_alloc])
          | fail)
        go_region_held3 (fun w' => w'.cell? ⟨wr.heap.size, 0, none⟩ = some (.string x1) ∧ w'.cell? ⟨wr.heap.size, 1, none⟩ = some (.string x2)) (first | (with_reducible exact hS) | (with_reducible exact HD.out _ (Ch.refl _).drew) | fail) (first
          | (go_at_call 287; (with_reducible refine (HC.out _ (hca.trans (Ch.refl _).drew)).mono ?_); rintro e w3 ⟨rfl, c3⟩; have hS := HD.out w3 ((Ch.refl _).drew.trans c3); have hc3 := (hca.trans (Ch.refl _).drew).trans c3)
          | fail)
        go_wp2_with fail
        go_ret
        exact ⟨by rw [← HN.out]; rfl, hcr.trans hc3⟩
      | false =>
        go_wp2_with (first
          | (refine wpList_store_row rfl 229 (.tmp 4) (.tmp 11) rfl wr.heap.size #[.string x1, .string x2] rfl rfl 229 _ (heap_alloc_new _ _) infoPa rfl (onePa _ _) ?_; rw [setRow_alloc])
          | fail)
        go_region_held3 (fun w' => w'.cell? ⟨wr.heap.size, 0, none⟩ = some (.string x1) ∧ w'.cell? ⟨wr.heap.size, 1, none⟩ = some (.string x2)) (first | (with_reducible exact hS) | (with_reducible exact HD.out _ (Ch.refl _).drew) | fail) (first
          | (go_at_call 287; (with_reducible refine (HC.out _ (hca.trans (Ch.refl _).drew)).mono ?_); rintro e w3 ⟨rfl, c3⟩; have hS := HD.out w3 ((Ch.refl _).drew.trans c3); have hc3 := (hca.trans (Ch.refl _).drew).trans c3)
          | fail)
        go_wp2_with fail
        go_roundw
        case rel => exact ⟨k + 1, by omega, by go_num, by rw [← HN.out]; rfl, hcr.trans hc3⟩
        case measure => simp [intOf]; omega
    · obtain rfl : k = xs.length := by omega
      rw [List.take_length, tw_end] at hno
      subst hno
      go_wp2_with fail
      go_ret
      exact ⟨rfl, hcr⟩
end Go.Proofs.YthmepecmeambmaaGreat
namespace Go.Proofs.YthmepecmeambmaaGreat
open Go.RowKit
set_option linter.unusedVariables false

/-- One more, of k cells. -/
theorem Ow.pushK {α : Type} {k : Nat} {e t : TypeId} {R : World → List Value → α → Prop} {B : Nat} {w : World} {v : Value} {xs : List α} (h : Ow k e R B w v xs) (hk : 0 < k) {z : Value} {by_ : Nat} (hinf : (Tryz.prog.info? e).map (fun i => (i.zero, i.size, i.bytes)) = some (some z, k, by_)) (hz : z.cells.size = k) (hby : by_ ≤ 200) (ht : Tryz.prog.underlying t = some (.slice e))
    {ops : Array Oper} {rest : List Oper} {o : Oper} {a : Act} {Q : Exit → Act → World → Prop} (hgd : o.guard = none) (s x : Operand)
    (ho : o.op = .call { callee := .builtin .append, args := #[s, x], argTypes := #[t, t] }) (hs : a.eval s = v) (u : List Value) (hu : u.length = k) (d : α) (hd : ∀ w', R w' u d) (hR : ∀ w1 w2 cs a, R w1 cs a → R w2 cs a) (h1 : ∀ q ∈ u, q.oneCell' = true)
    (g c : Nat) (hx : a.eval x = .slice (some ⟨g, 0, none⟩) 1 c) (hg : w.heap[g]? = some (.cells u.toArray e)) (hL : xs.length ≤ 100000) (hB : B ≤ w.heap.size)
    (K : ∀ v' w', Ow k e R B w' v' (xs ++ [d]) → w.grownBy w' v.ownBlock → (∀ q, v.ownBlock = some q → B ≤ q) → wpList Tryz.prog ops Q rest (a.put o.dst v') w') : wpList Tryz.prog ops Q (o :: rest) a w := by
  obtain ⟨i0, hi, hz0, hz1, hz2⟩ := info_parts hinf
  obtain ⟨C, c1, c2, c3⟩ := h
  refine wpList_append_own_at _ hgd s x t ho B e i0 z k by_ ht hi hz0 hz1 hz2 hz hk v xs.length _ hs c2 ⟨g, 0, none⟩ 1 c u hx (by omega) (fun j q hj => ?_) h1 (by unfold maxLen; omega) ?_ hB ?_
  · have ea : (⟨g, 0, none⟩ : Addr).add j = ⟨g, j, none⟩ := by unfold Addr.add; split <;> simp_all
    rw [ea]
    simp only [World.cell?, hg]
    simpa using hj
  · have : (xs.length + 1) * by_ ≤ 100001 * 200 := Nat.mul_le_mul (by omega) hby
    omega
  · intro v' w' g1 g2 _ _
    refine K v' w' ⟨fun i => if i < xs.length then C i else u, fun i => by dsimp only; split; exact c1 i; exact hu, ?_, fun i a hia => ?_⟩ g2 (fun k hk => (c2.lt k hk).1)
    · rw [List.length_append]
      have e1 : u = (List.range 1).flatMap (fun _ => u) := by simp
      rw [e1, flat_app C (fun _ => u) xs.length 1] at g1
      exact g1
    · dsimp only
      by_cases hlt : i < xs.length
      · rw [if_pos hlt]
        rw [List.getElem?_append_left hlt] at hia
        exact hR _ _ _ _ (c3 i a hia)
      · rw [if_neg hlt]
        rw [List.getElem?_append_right (by omega)] at hia
        have : i - xs.length = 0 := by
          rcases Nat.eq_zero_or_pos (i - xs.length) with q | q
          · exact q
          · rw [List.getElem?_eq_none (by simp; omega)] at hia; cases hia
        rw [this] at hia
        cases hia
        exact hd w'
theorem infPa : (Tryz.prog.info? 229).map (fun i => (i.zero, i.size, i.bytes)) = some (some (.agg #[.string ⟨#[]⟩, .string ⟨#[]⟩]), 2, 32) := by kernel_rfl
theorem Ow.keepPa {B : Nat} {w w' : World} {v : Value} {xs : List (ByteArray × ByteArray)} (h : Ow 2 229 RPa B w v xs) (c : Ch w w') : Ow 2 229 RPa B w' v xs := h.keep (fun _ _ x => x) c
theorem infoF : (Tryz.prog.info? 103).map (·.size) = some 3 := by kernel_rfl
theorem oneF (a b : ByteArray) (c : Bool) : (#[Value.string a, .string b, .bool c].all (·.oneCell')) = true := by kernel_rfl

set_option maxHeartbeats 16000000 in
theorem membersOnce_any (c : Cls) (vi vf vm : Value) (vp : Value) (w : World) (hc : ClsAt w c vi vf vm) (hl1 : c.fs.length ≤ 12000) (hl2 : c.me.length ≤ 12000) :
    Calls Tryz.prog 158 #[vp, .agg #[.string c.n, .string c.s, .bool c.it, .bool c.ab, vi, vf, vm]] w fun e w' => e = .returned (.bool (k4 c)) ∧ Ch w w' := by
  have HF : Hid (Sl 3 RF w vf c.fs) := hc.2.1
  have HM : Hid (Sl 8 RM w vm c.me) := hc.2.2
  obtain ⟨ai, ci, rfl, _, _⟩ := hc.1.form
  obtain ⟨af, cf, rfl, _, _⟩ := hc.2.1.form
  obtain ⟨am, cm, rfl, _, _⟩ := hc.2.2.form
  clear hc
  have hB : Bo w w.heap.size 41 #[.string c.n, .string c.s, .bool c.it, .bool c.ab, .slice ai c.im.length ci, .slice af c.fs.length cf, .slice am c.me.length cm] _ := Bo.new (Ch.refl w) _ _
  have hca := hB.ch
  have HB : Hid (∀ w', Ch w w' → w'.heap[w.heap.size]? = some (.cells #[.string c.n, .string c.s, .bool c.it, .bool c.ab, .slice ai c.im.length ci, .slice af c.fs.length cf, .slice am c.me.length cm] 41) → w'.cell? ⟨w.heap.size, 6, none⟩ = some (.slice am c.me.length cm)) := fun w' _ h => (Bo.mk (w := w) (by assumption) (Nat.le_refl _) h).c 6 rfl
  have b5 := hB.c 5 rfl
  have hbx := hB.b
  clear hB
  obtain ⟨ans, hans⟩ : ∃ q, k4 c = q := ⟨_, rfl⟩
  rw [hans]
  have HA : Hid ((!tw nq [] (c.fs.map (·.n)) && !tw nd2 [] (c.me.map fun m => (m.n, m.d))) = ans) := hans
  clear hans
  go_enter Tryz.func158, Tryz.ntmps158
  go_wp2_with fail
  go_loopw [5, 14] (fun vl i wr => ∃ k : Nat, k ≤ c.fs.length ∧ i = .int .i64 k ∧ Ow 1 9 RS w.heap.size wr vl ((c.fs.take k).map (·.n)) ∧ Ch w wr ∧ wr.heap[w.heap.size]? = some (.cells #[.string c.n, .string c.s, .bool c.it, .bool c.ab, .slice ai c.im.length ci, .slice af c.fs.length cf, .slice am c.me.length cm] 41)) (fun _ i _ => c.fs.length - (intOf i).toNat)
  case atStart => exact ⟨0, Nat.zero_le _, rfl, by simpa using Ow.nil, hca, hbx⟩
  case round =>
    clear hca hbx b5
    obtain ⟨k, hk, rfl, hO, hcr, hbx⟩ := hrel
    by_cases hlt : k < c.fs.length
    · obtain ⟨x, hx⟩ : ∃ x, c.fs[k]? = some x := ⟨_, List.getElem?_eq_getElem hlt⟩
      obtain ⟨b, off, rfl, q0, q1, q2⟩ := (HF.out.keepF hcr).atF hx
      have hll : ((c.fs.take k).map (·.n)).length ≤ 100000 := by rw [List.length_map, List.length_take]; omega
      have hst : (c.fs.take (k + 1)).map (·.n) = (c.fs.take k).map (·.n) ++ [x.n] := by
        obtain ⟨h1, h2⟩ := List.getElem?_eq_some_iff.1 hx
        rw [List.take_succ_eq_append_getElem h1, h2, List.map_append]
        rfl
      have HS : Hid ((c.fs.take (k + 1)).map (·.n) = (c.fs.take k).map (·.n) ++ [x.n]) := hst
      clear hx hst
      generalize (c.fs.take k).map (·.n) = l1 at *
      obtain ⟨al, cl, rfl⟩ := hO.form
      have HBX : Hid (wr.heap[w.heap.size]? = some (.cells #[.string c.n, .string c.s, .bool c.it, .bool c.ab, .slice ai c.im.length ci, .slice (some ⟨b, off, none⟩) c.fs.length cf, .slice am c.me.length cm] 41)) := hbx
      clear hbx
      have hfb : Bo wr wr.heap.size 103 #[.string x.n, .string x.d, .bool x.st] _ := Bo.new (Ch.refl wr) _ _
      have r0 := hfb.c 0 rfl
      have hfc := hfb.ch
      clear hfb
      go_wp2_with (first
        | (refine wpList_store_row rfl 103 (.tmp 7) (.tmp 17) rfl wr.heap.size #[.string x.n, .string x.d, .bool x.st] rfl rfl 103 _ (heap_alloc_new _ _) infoF rfl (oneF _ _ _) ?_; rw [setRow_alloc])
        | (at_builtin; refine ((hO.keepS hfc).keepS ((Ch.refl _).alloc _)).push infS9 rfl (by omega) Tryz.underlying32 rfl (.tmp 18) (.tmp 21) rfl rfl (.string x.n) x.n (fun _ => rfl) (fun _ _ _ _ x => x) rfl (wr.heap.size + 1) 1 rfl (by have := heap_alloc_new (wr.alloc (.cells #[.string x.n, .string x.d, .bool x.st] 103)) (.cells #[.string x.n] 9); simpa using this) hll (by have := hcr.size; simp; omega) ?_; intro v4 w4 o4 g4 r4; have c4 : Ch w w4 := ((hcr.alloc _).alloc _).grown g4 r4; have b4 := (g4.block w.heap.size (by have := (Array.getElem?_eq_some_iff.1 HBX.out).1; simp; omega) (fun e => by obtain ⟨cu, hcu⟩ := (own_objG (w := wr) (base := w.heap.size) (e := 9) (size := 1) hO.choose_spec.2.1 e.symm).2; rw [HBX.out] at hcu; simp at hcu)).trans (kept_at (((Ch.refl wr).alloc _).alloc _) HBX.out))
        | fail)
      go_roundw
      case rel => exact ⟨k + 1, by omega, by go_num, by rw [HS.out]; exact o4, c4, b4⟩
      case measure => simp [intOf]; omega
    · obtain rfl : k = c.fs.length := by omega
      rw [List.take_length] at hO
      generalize hl0 : c.fs.map (·.n) = l1 at *
      have hnf : l1.length ≤ 12000 := by rw [← hl0, List.length_map]; exact hl1
      clear hl0
      have b6 := HB.out wr hcr hbx
      obtain ⟨al, cl, rfl⟩ := hO.form
      clear hlt hk
      go_wp2_with fail
      go_loopw [8, 27] (fun vl i wr => ∃ k : Nat, k ≤ c.me.length ∧ i = .int .i64 k ∧ Ow 2 229 RPa w.heap.size wr vl ((c.me.take k).map fun m => (m.n, m.d)) ∧ Ow 1 9 RS w.heap.size wr (.slice al l1.length cl) l1 ∧ Ch w wr) (fun _ i _ => c.me.length - (intOf i).toNat)
      case atStart => exact ⟨0, Nat.zero_le _, rfl, by simpa using Ow.nil, hO, hcr⟩
      case round =>
        clear hO hcr hbx b6
        obtain ⟨k, hk, rfl, hO, hL, hcr⟩ := hrel
        by_cases hlt : k < c.me.length
        · obtain ⟨x, hx⟩ : ∃ x, c.me[k]? = some x := ⟨_, List.getElem?_eq_getElem hlt⟩
          obtain ⟨b, off, vc, vh, rfl, s1, s2, q0, q1, q2, q3, q4, q5, q6, q7⟩ := (HM.out.keepM hcr).atM hx
          obtain ⟨ac, cc, rfl, _, _⟩ := s1.form
          obtain ⟨ah, chh, rfl, _, _⟩ := s2.form
          have hll : ((c.me.take k).map fun m => (m.n, m.d)).length ≤ 100000 := by rw [List.length_map, List.length_take]; omega
          have hst : ((c.me.take (k + 1)).map fun m => (m.n, m.d)) = ((c.me.take k).map fun m => (m.n, m.d)) ++ [(x.n, x.d)] := by
            obtain ⟨h1, h2⟩ := List.getElem?_eq_some_iff.1 hx
            rw [List.take_succ_eq_append_getElem h1, h2, List.map_append]
            rfl
          have HS : Hid (((c.me.take (k + 1)).map fun m => (m.n, m.d)) = ((c.me.take k).map fun m => (m.n, m.d)) ++ [(x.n, x.d)]) := hst
          clear hx hst s1 s2
          generalize ((c.me.take k).map fun m => (m.n, m.d)) = l2 at *
          obtain ⟨al2, cl2, rfl⟩ := hO.form
          have hfb : Bo wr wr.heap.size 66 #[.string x.n, .string x.d, .bool x.st, .bool x.ab, .int .i64 x.sk, .int .i64 x.lo, .slice ac x.code.length cc, .slice ah x.hs.length chh] _ := Bo.new (Ch.refl wr) _ _
          have r0 := hfb.c 0 rfl
          have r1 := hfb.c 1 rfl
          have hfc := hfb.ch
          clear hfb
          go_wp2_with (first
            | (refine wpList_store_row rfl 66 (.tmp 10) (.tmp 30) rfl wr.heap.size #[.string x.n, .string x.d, .bool x.st, .bool x.ab, .int .i64 x.sk, .int .i64 x.lo, .slice ac x.code.length cc, .slice ah x.hs.length chh] rfl rfl 66 _ (heap_alloc_new _ _) infoM rfl (one8 _ _ _ _ _ _ _ _ _ _ _ _) ?_; rw [setRow_alloc])
            | (at_builtin; refine ((hO.keepPa hfc).keepPa ((Ch.refl _).alloc _)).pushK (by omega) infPa rfl (by omega) Tryz.underlying228 rfl (.tmp 31) (.tmp 37) rfl rfl [.string x.n, .string x.d] rfl (x.n, x.d) (fun _ => rfl) (fun _ _ _ _ x => x) (by simp [Value.oneCell']) (wr.heap.size + 1) 1 rfl (by have := heap_alloc_new (wr.alloc (.cells #[.string x.n, .string x.d, .bool x.st, .bool x.ab, .int .i64 x.sk, .int .i64 x.lo, .slice ac x.code.length cc, .slice ah x.hs.length chh] 66)) (.cells #[.string x.n, .string x.d] 229); simpa using this) hll (by have := hcr.size; simp; omega) ?_; intro v4 w4 o4 g4 r4; have c4 : Ch w w4 := ((hcr.alloc _).alloc _).grown g4 r4; have l4 : Ow 1 9 RS w.heap.size w4 (.slice al l1.length cl) l1 := ((hL.keepS hfc).keepS ((Ch.refl _).alloc _)).grown (T := 229) g4 (fun g hg => (own_objG ((hO.keepPa hfc).keepPa ((Ch.refl _).alloc _)).choose_spec.2.1 hg).2) (by decide) (fun _ _ x => x))
            | fail)
          go_roundw
          case rel => exact ⟨k + 1, by omega, by go_num, by rw [HS.out]; exact o4, l4, c4⟩
          case measure => simp [intOf]; omega
        · obtain rfl : k = c.me.length := by omega
          rw [List.take_length] at hO
          generalize hl9 : (c.me.map fun m => (m.n, m.d)) = l2 at *
          have ht1 := twiceS_any l1 _ wr hL.sl
          have ht2 := twicePa_any l2 _ wr hO.sl
          obtain ⟨al2, cl2, rfl⟩ := hO.form
          clear hl9
          generalize tw nq [] l1 = t1 at *
          generalize tw nd2 [] l2 = t2 at *
          cases t1 <;>
          · go_wp2_with (first
              | (go_at_call 218; (with_reducible refine ht1.mono ?_); rintro e w' ⟨rfl, hw⟩; have hw := hw.symm; subst hw)
              | (go_at_call 219; (with_reducible refine ht2.mono ?_); rintro e w3 ⟨rfl, c3⟩)
              | fail)
            go_ret
            first | exact ⟨by rw [← HA.out]; rfl, hcr⟩ | exact ⟨by rw [← HA.out]; rfl, hcr.trans c3⟩ | exact ⟨by rw [← HA.out]; cases t2 <;> rfl, hcr.trans c3⟩
end Go.Proofs.YthmepecmeambmaaGreat
