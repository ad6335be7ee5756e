/- How much there is of a class. -/
import Derived.Test.YthmepecmeambmaaGreatKKp
import Derived.Deep.RegionHeld
namespace Go.Proofs.YthmepecmeambmaaGreat
open Go.RowKit
set_option linter.unusedVariables false

/-- A number that is held: where it is small, it is exact. -/
def Okk (m : Int) (t : Nat) : Prop := 0 ≤ m ∧ (m ≤ 12000 → m = (t : Int))
def Ok (m : Int) (t : Nat) : Prop := Okk m t ∧ m ≤ 1099511627776
def OkR (e : Ending) (t : Nat) : Prop := ∃ m, e = .returned (.int .i64 m) ∧ Ok m t
theorem Okk.nat (n : Nat) : Okk (n : Int) n := ⟨Int.natCast_nonneg _, fun _ => rfl⟩
theorem Okk.one : Okk 1 1 := ⟨by decide, fun _ => rfl⟩
theorem Ok.one : Ok 1 1 := ⟨Okk.one, by decide⟩
theorem Ok.okk {m : Int} {t : Nat} (h : Ok m t) : Okk m t := h.1

set_option maxHeartbeats 2000000 in
theorem sum_list (n : Int) (B : Nat) (z : List Int) (w : World) (hn : 0 ≤ n ∧ n ≤ 1099511627776) (hl : z.length ≤ 10) (hc : ∀ k x, z[k]? = some x → w.cell? ⟨B, k, none⟩ = some (.int .i64 x) ∧ 0 ≤ x) :
    Calls Tryz.prog 58 #[.int .i64 n, .slice (some ⟨B, 0, none⟩) z.length z.length] w fun e w' => (∃ m, e = .returned (.int .i64 m) ∧ 0 ≤ m ∧ m ≤ 1099511627776 ∧ (m ≤ 12000 → m = n + z.sum)) ∧ w' = w := by
  have HC : Hid (∀ k x, z[k]? = some x → w.cell? ⟨B, k, none⟩ = some (.int .i64 x) ∧ 0 ≤ x) := hc
  clear hc
  obtain ⟨len, hlen⟩ : ∃ len, z.length = len := ⟨_, rfl⟩
  rw [hlen] at hl ⊢
  have HL : Hid (z.length = len) := hlen
  clear hlen
  refine Calls.mono (R := fun e w' => (∃ m, e = .returned (.int .i64 m) ∧ Hid (0 ≤ m ∧ m ≤ 1099511627776 ∧ (m ≤ 12000 → m = n + z.sum))) ∧ w' = w) ?_ (fun e w' ⟨⟨m, h1, h2⟩, h3⟩ => ⟨⟨m, h1, h2.out⟩, h3⟩)
  go_enter Tryz.func58, Tryz.ntmps58
  go_wp2
  go_loop [0, 5] (fun nv i => ∃ (k : Nat) (m : Int), k ≤ len ∧ nv = .int .i64 m ∧ i = .int .i64 k ∧ 0 ≤ m ∧ m ≤ 1099511627776 ∧ (m ≤ 12000 → m = n + (z.take k).sum)) (fun _ i => len - (intOf i).toNat)
  case atStart => exact ⟨0, n, by omega, rfl, rfl, hn.1, hn.2, fun _ => by simp⟩
  case round =>
    obtain ⟨k, m, hk, rfl, rfl, m1, m2, hm3⟩ := hrel
    have M3 : Hid (m ≤ 12000 → m = n + (z.take k).sum) := hm3
    clear hm3
    by_cases hlt : k < len
    · obtain ⟨zk, hzk⟩ : ∃ x, z[k]? = some x := ⟨_, List.getElem?_eq_getElem (by rw [HL.out]; exact hlt)⟩
      have HZ : Hid (z[k]? = some zk) := hzk
      obtain ⟨d0, d1⟩ := HC.out k zk hzk
      clear hzk
      have ad : (⟨B, 0, none⟩ : Addr).add k = ⟨B, k, none⟩ := by unfold Addr.add; split <;> simp_all
      have t0 : decide ((1099511627776 : Int) < m) = false := by simp; omega
      have w1 : IntKind.i64.wrap (1099511627776 - m) = 1099511627776 - m := by rw [IntKind.wrap_i64]; omega
      by_cases hz : 1099511627776 - m < zk
      · go_wp2
        go_ret
        exact ⟨⟨_, rfl, by omega, by omega, fun h => by omega⟩, rfl⟩
      · have t1 : decide (1099511627776 - m < zk) = false := by simp; omega
        have w2 : IntKind.i64.wrap (m + zk) = m + zk := by rw [IntKind.wrap_i64]; omega
        go_wp2
        refine ⟨⟨k + 1, m + zk, by omega, rfl, rfl, by omega, by omega, fun h => ?_⟩, by simp [intOf]; omega⟩
        have h1 := M3.out (by omega)
        obtain ⟨hlt', hz'⟩ := List.getElem?_eq_some_iff.1 HZ.out
        rw [List.take_succ_eq_append_getElem hlt', List.sum_append, hz']
        simp
        omega
    · obtain rfl : k = len := by omega
      go_wp2
      go_ret
      refine ⟨⟨_, rfl, m1, m2, fun h => ?_⟩, rfl⟩
      have := M3.out h
      rwa [List.take_of_length_le (by rw [HL.out]; exact Nat.le_refl _)] at this

theorem alloc_at (w : World) (o : Obj) (B : Nat) (h : B = w.heap.size) : (w.alloc o).heap[B]? = some o := by subst h; exact heap_alloc_new _ _
theorem alloc_at' (w : World) (o : Obj) (B : Nat) (h : B = w.heap.size) : (w.alloc o).drew.heap[B]? = some o := by subst h; exact heap_alloc_new _ _
theorem sum1 (n a : Int) (t ta B : Nat) (w : World) (hB : w.heap[B]? = some (.cells #[.int .i64 a] 3)) (hn : Ok n t) (ha : Okk a ta) :
    Calls Tryz.prog 58 #[.int .i64 n, .slice (some ⟨B, 0, none⟩) 1 1] w fun e w' => OkR e (t + ta) ∧ w' = w := by
  refine (sum_list n B [a] _ ⟨hn.1.1, hn.2⟩ (by simp) (fun k x hk => ?_)).mono (fun e w' ⟨⟨m, he, h0, h1, h2⟩, hw⟩ => ⟨⟨m, he, ⟨h0, fun h => ?_⟩, h1⟩, hw⟩)
  · rw [cell_of_row _ _ _ _ _ _ hB]
    match k, hk with
    | 0, hk => cases hk; exact ⟨rfl, ha.1⟩
  · have e := h2 h
    simp at e
    have := hn.1.1; have := ha.1
    have := hn.1.2 (by omega); have := ha.2 (by omega)
    omega
theorem sum2 (n a b : Int) (t ta tb B : Nat) (w : World) (hB : w.heap[B]? = some (.cells #[.int .i64 a, .int .i64 b] 3)) (hn : Ok n t) (ha : Okk a ta) (hb : Okk b tb) :
    Calls Tryz.prog 58 #[.int .i64 n, .slice (some ⟨B, 0, none⟩) 2 2] w fun e w' => OkR e (t + (ta + tb)) ∧ w' = w := by
  refine (sum_list n B [a, b] _ ⟨hn.1.1, hn.2⟩ (by simp) (fun k x hk => ?_)).mono (fun e w' ⟨⟨m, he, h0, h1, h2⟩, hw⟩ => ⟨⟨m, he, ⟨h0, fun h => ?_⟩, h1⟩, hw⟩)
  · rw [cell_of_row _ _ _ _ _ _ hB]
    match k, hk with
    | 0, hk => cases hk; exact ⟨rfl, ha.1⟩
    | 1, hk => cases hk; exact ⟨rfl, hb.1⟩
  · have e := h2 h
    simp at e
    have := hn.1.1; have := ha.1; have := hb.1
    have := hn.1.2 (by omega); have := ha.2 (by omega); have := hb.2 (by omega)
    omega
theorem sum3 (n a b c : Int) (t ta tb tc B : Nat) (w : World) (hB : w.heap[B]? = some (.cells #[.int .i64 a, .int .i64 b, .int .i64 c] 3)) (hn : Ok n t) (ha : Okk a ta) (hb : Okk b tb) (hc : Okk c tc) :
    Calls Tryz.prog 58 #[.int .i64 n, .slice (some ⟨B, 0, none⟩) 3 3] w fun e w' => OkR e (t + (ta + tb + tc)) ∧ w' = w := by
  refine (sum_list n B [a, b, c] _ ⟨hn.1.1, hn.2⟩ (by simp) (fun k x hk => ?_)).mono (fun e w' ⟨⟨m, he, h0, h1, h2⟩, hw⟩ => ⟨⟨m, he, ⟨h0, fun h => ?_⟩, h1⟩, hw⟩)
  · rw [cell_of_row _ _ _ _ _ _ hB]
    match k, hk with
    | 0, hk => cases hk; exact ⟨rfl, ha.1⟩
    | 1, hk => cases hk; exact ⟨rfl, hb.1⟩
    | 2, hk => cases hk; exact ⟨rfl, hc.1⟩
  · have e := h2 h
    simp at e
    have := hn.1.1; have := ha.1; have := hb.1; have := hc.1
    have := hn.1.2 (by omega); have := ha.2 (by omega); have := hb.2 (by omega); have := hc.2 (by omega)
    omega
theorem sum4 (n a b c d : Int) (t ta tb tc td B : Nat) (w : World) (hB : w.heap[B]? = some (.cells #[.int .i64 a, .int .i64 b, .int .i64 c, .int .i64 d] 3)) (hn : Ok n t) (ha : Okk a ta) (hb : Okk b tb) (hc : Okk c tc) (hd : Okk d td) :
    Calls Tryz.prog 58 #[.int .i64 n, .slice (some ⟨B, 0, none⟩) 4 4] w fun e w' => OkR e (t + (ta + tb + tc + td)) ∧ w' = w := by
  refine (sum_list n B [a, b, c, d] _ ⟨hn.1.1, hn.2⟩ (by simp) (fun k x hk => ?_)).mono (fun e w' ⟨⟨m, he, h0, h1, h2⟩, hw⟩ => ⟨⟨m, he, ⟨h0, fun h => ?_⟩, h1⟩, hw⟩)
  · rw [cell_of_row _ _ _ _ _ _ hB]
    match k, hk with
    | 0, hk => cases hk; exact ⟨rfl, ha.1⟩
    | 1, hk => cases hk; exact ⟨rfl, hb.1⟩
    | 2, hk => cases hk; exact ⟨rfl, hc.1⟩
    | 3, hk => cases hk; exact ⟨rfl, hd.1⟩
  · have e := h2 h
    simp at e
    have := hn.1.1; have := ha.1; have := hb.1; have := hc.1; have := hd.1
    have := hn.1.2 (by omega); have := ha.2 (by omega); have := hb.2 (by omega); have := hc.2 (by omega); have := hd.2 (by omega)
    omega

/-- Sums of what stands ahead. -/
def tsum {α : Type} (f : α → Nat) (xs : List α) (k : Nat) : Nat := ((xs.take k).map f).sum
theorem tsum_zero {α : Type} (f : α → Nat) (xs : List α) : tsum f xs 0 = 0 := by simp [tsum]
theorem tsum_succ {α : Type} (f : α → Nat) {xs : List α} {k : Nat} {a : α} (h : xs[k]? = some a) : tsum f xs (k + 1) = tsum f xs k + f a := by
  obtain ⟨hlt, ha⟩ := List.getElem?_eq_some_iff.1 h
  unfold tsum
  rw [List.take_succ_eq_append_getElem hlt, List.map_append, List.sum_append, ha]
  simp
theorem tsum_all {α : Type} (f : α → Nat) (xs : List α) : tsum f xs xs.length = (xs.map f).sum := by unfold tsum; rw [List.take_length]

def insT (x : Ins) : Nat := 1 + (x.c.size + x.n.size + x.d.size)
def mthT (m : Mth) : Nat := 1 + (m.n.size + m.d.size + m.code.length + m.hs.length) + (m.code.map insT).sum + (m.hs.map fun h => h.c.size).sum
def clsT (c : Cls) : Nat := 1 + (c.n.size + c.s.size) + (c.im.map fun s => 1 + s.size).sum + (c.fs.map fun f => 1 + f.n.size + f.d.size).sum + (c.me.map mthT).sum

set_option maxHeartbeats 1000000 in
theorem insT_any (x : Ins) (w : World) : Calls Tryz.prog 59 #[x.v] w fun e w' => OkR e (insT x) ∧ Ch w w' := by
  unfold Ins.v insT
  generalize x.op = a1
  generalize x.a = a2
  generalize x.b = a3
  generalize x.c = a4
  generalize x.n = a5
  generalize x.d = a6
  go_enter Tryz.func59, Tryz.ntmps59
  go_wp2_with (first
    | (go_at_call 58; (with_reducible refine (sum3 _ _ _ _ _ _ _ _ _ _ (alloc_at _ _ _ (by simp)) Ok.one (Okk.nat _) (Okk.nat _) (Okk.nat _)).mono ?_); rintro e w3 ⟨⟨m, rfl, hm⟩, hx⟩; subst hx))
  go_ret
  exact ⟨⟨m, rfl, hm⟩, ((Ch.refl w).alloc _).alloc _⟩

set_option maxHeartbeats 4000000 in
theorem mthT_any (m : Mth) (vc vh : Value) (w : World) (hc : Sl 6 RI w vc m.code) (hh : Sl 4 RH w vh m.hs) :
    Calls Tryz.prog 141 #[.agg #[.string m.n, .string m.d, .bool m.st, .bool m.ab, .int .i64 m.sk, .int .i64 m.lo, vc, vh]] w fun e w' => OkR e (mthT m) ∧ Ch w w' := by
  obtain ⟨ac, cc, rfl, hc1, hc2⟩ := hc.form
  obtain ⟨ah, ch, rfl, hh1, hh2⟩ := hh.form
  obtain ⟨B0, hB0⟩ : ∃ t, t = 1 + (m.n.size + m.d.size + m.code.length + m.hs.length) := ⟨_, rfl⟩
  have HM : Hid (mthT m = B0 + (m.code.map insT).sum + (m.hs.map fun h => h.c.size).sum) := by show _ = _; rw [hB0]; rfl
  have hbox : Ch w (w.alloc (.cells (mthC m (.slice ac m.code.length cc) (.slice ah m.hs.length ch)) 66)) := (Ch.refl w).alloc _
  have HB : Hid ((w.alloc (.cells (mthC m (.slice ac m.code.length cc) (.slice ah m.hs.length ch)) 66)).heap[w.heap.size]? = some (.cells (mthC m (.slice ac m.code.length cc) (.slice ah m.hs.length ch)) 66)) := heap_alloc_new _ _
  go_enter Tryz.func141, Tryz.ntmps141
  go_wp2_with (first
    | (go_at_call 58; (with_reducible refine (sum4 _ _ _ _ _ _ _ _ _ _ _ _ (alloc_at _ _ _ (by simp)) Ok.one (Okk.nat _) (Okk.nat _) (Okk.nat _) (Okk.nat _)).mono ?_); rintro e w3 ⟨⟨m0, rfl, hm0⟩, hx⟩; subst hx))
  rw [← hB0] at hm0
  go_loopw [3, 4] (fun nv i wr => ∃ (k : Nat) (q : Int), k ≤ m.code.length ∧ i = .int .i64 k ∧ nv = .int .i64 q ∧ Ok q (B0 + tsum insT m.code k) ∧ Ch (w.alloc (.cells (mthC m (.slice ac m.code.length cc) (.slice ah m.hs.length ch)) 66)) wr) (fun _ i _ => m.code.length - (intOf i).toNat)
  case atStart => exact ⟨0, m0, Nat.zero_le _, rfl, rfl, by rw [tsum_zero]; exact hm0, (Ch.refl _).alloc _⟩
  case round =>
    obtain ⟨k, q, hk, rfl, rfl, hq, hcr⟩ := hrel
    obtain ⟨e0, e1, e2, e3, e4, e5, e6, e7⟩ := mthC_at (kept_at hcr HB.out)
    by_cases hlt : k < m.code.length
    · obtain ⟨x, hx⟩ : ∃ a, m.code[k]? = some a := ⟨_, List.getElem?_eq_getElem hlt⟩
      obtain ⟨b, off, hao, d0, d1, d2, d3, d4, d5⟩ := (hc.keepI (hbox.trans hcr)).atI hx
      have hbi := fun w0 => insT_any x w0
      unfold Ins.v at hbi
      have HX : Hid (m.code[k]? = some x) := hx
      clear hx hB0
      subst hao
      go_wp2_with (first
        | (go_at_call 59; (with_reducible refine (hbi _).mono ?_); rintro e w3 ⟨⟨m1, rfl, hm1⟩, hc3⟩)
        | (go_at_call 58; (with_reducible refine (sum1 _ _ _ _ _ _ (alloc_at _ _ _ (by simp)) hq (Ok.okk hm1)).mono ?_); rintro e w4 ⟨⟨m2, rfl, hm2⟩, hx⟩; subst hx))
      go_roundw
      case rel => exact ⟨k + 1, m2, by omega, by go_num, rfl, by rw [tsum_succ _ HX.out, ← Nat.add_assoc]; exact hm2, (hcr.trans hc3).alloc _⟩
      case measure => simp [intOf]; omega
    · obtain rfl : k = m.code.length := by omega
      have hq1 := hq
      rw [tsum_all] at hq1
      go_wp2
      go_loopw [3, 5] (fun nv i wr2 => ∃ (k : Nat) (q : Int), k ≤ m.hs.length ∧ i = .int .i64 k ∧ nv = .int .i64 q ∧ Ok q (B0 + (m.code.map insT).sum + tsum (fun h => h.c.size) m.hs k) ∧ Ch (w.alloc (.cells (mthC m (.slice ac m.code.length cc) (.slice ah m.hs.length ch)) 66)) wr2) (fun _ i _ => m.hs.length - (intOf i).toNat)
      case atStart => exact ⟨0, q, Nat.zero_le _, rfl, rfl, by rw [tsum_zero]; exact hq1, hcr⟩
      case round =>
        clear e0 e1 e2 e3 e4 e5 e6 e7 hq hq1 hcr
        obtain ⟨k, q, hk, rfl, rfl, hq, hcr⟩ := hrel
        obtain ⟨e0, e1, e2, e3, e4, e5, e6, e7⟩ := mthC_at (kept_at hcr HB.out)
        by_cases hlt : k < m.hs.length
        · obtain ⟨x, hx⟩ : ∃ a, m.hs[k]? = some a := ⟨_, List.getElem?_eq_getElem hlt⟩
          obtain ⟨b, off, hao, d0, d1, d2, d3⟩ := (hh.keepH (hbox.trans hcr)).atH hx
          have HX : Hid (m.hs[k]? = some x) := hx
          clear hx hB0
          subst hao
          go_wp2_with (first
            | (go_at_call 58; (with_reducible refine (sum1 _ _ _ _ _ _ (alloc_at _ _ _ (by simp)) hq (Okk.nat _)).mono ?_); rintro e w4 ⟨⟨m2, rfl, hm2⟩, hx⟩; subst hx))
          go_roundw
          case rel => exact ⟨k + 1, m2, by omega, by go_num, rfl, by rw [tsum_succ _ HX.out, ← Nat.add_assoc]; exact hm2, hcr.alloc _⟩
          case measure => simp [intOf]; omega
        · obtain rfl : k = m.hs.length := by omega
          rw [tsum_all] at hq
          go_wp2
          go_ret
          exact ⟨⟨q, rfl, by rw [HM.out]; exact hq⟩, hbox.trans hcr⟩
end Go.Proofs.YthmepecmeambmaaGreat
