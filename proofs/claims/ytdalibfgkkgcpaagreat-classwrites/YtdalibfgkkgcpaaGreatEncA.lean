/- The encoder's writer: numbers, texts. -/
import Derived.Test.YtdalibfgkkgcpaaGreatEnc
import Derived.Deep.RegionLaw
namespace Go.Proofs.YtdalibfgkkgcpaaGreat
open Go.RowKit
set_option linter.unusedVariables false
attribute [local go_sem ↓] Go.wp_at_zero Go.wp_at_succ

theorem byte_at (n : Int) (j : Nat) : IntKind.u8.wrap (n / 2 ^ (8 * (j : Int)).toNat) = n / 256 ^ j % 256 := by
  have e : (8 * (j : Int)).toNat = 8 * j := by omega
  rw [IntKind.wrap_u8, e, Int.pow_mul]
  rfl
theorem wrap8 (j : Nat) (hj : j ≤ 3) : IntKind.i64.wrap (8 * (j : Int)) = 8 * (j : Int) := by
  rw [IntKind.wrap_i64]; omega

variable {B r M : Nat} {v : Value} {bs : List Int} {w : World}
theorem En.set {v1 : Value} {news : List Int} {w1 : World} (h : En B w r M v bs) (hown1 : w1.ownsRow B 5 1 v1 (bs.length + news.length) (bs.map (Value.int .u8) ++ news.map (Value.int .u8))) (hgrow : w.grownBy w1 v.ownBlock) :
    En B (w1.setCell ⟨r, 0, none⟩ v1) r M v1 (bs ++ news) ∧ Kp B [5, 63] w (w1.setCell ⟨r, 0, none⟩ v1) := by
  have hb : w1.heap[r]? = some (.cells #[v, .bool false, .map (some M)] 63) := (hgrow.block r h.lt (Ne.symm h.ne)).trans h.blk
  have hne : v1.ownBlock ≠ some r := fun e => by
    obtain ⟨_, cur, hc⟩ := own_obj hown1 e
    rw [hb] at hc
    simp at hc
  refine ⟨⟨?_, ?_, h.br⟩, ?_⟩
  · simp [World.setCell, Array.getElem?_modify, hb]
  · rw [List.length_append, List.map_append]
    exact ownsRow_same hown1 (fun g hg => Below.heap_setCell _ _ _ _ (fun e => hne (by rw [hg, e])))
  · exact ((Kp.refl B [5, 63] w).grown h.own (by decide) hgrow).turn h.br hb (fun cs t fr e => by simp at e; rw [← e.2.1]; decide) (grown_setCell _ _ _ _)

/-- The encoder at r behind a call: its bytes; what has stayed. -/
def Wrote (B r M : Nat) (bs : List Int) (w w' : World) : Prop := ∃ v, En B w' r M v bs ∧ Kp B [5, 63] w w'
theorem Wrote.trans {a b c : World} {bs1 bs2 : List Int} (h : Wrote B r M bs1 a b) (k : Wrote B r M bs2 b c) : Wrote B r M bs2 a c := by
  obtain ⟨_, _, h1⟩ := h
  obtain ⟨v, h2, h3⟩ := k
  exact ⟨v, h2, h1.trans h3⟩

set_option maxHeartbeats 1000000 in
theorem wnumber_ok (n lo hi : Int) (size : Nat) (r : Nat) (v0 : Value) (bs : List Int) (w : World) (h : En B w r M v0 bs) (h1 : lo ≤ n) (h2 : n ≤ hi) (hs : size ≤ 4) (hl : bs.length + size ≤ 140737488355328) (hB : B ≤ w.heap.size) :
    Calls Tryz.prog 61 #[.pointer (some ⟨r, 0, none⟩), .int .i64 n, .int .i64 lo, .int .i64 hi, .int .i64 size] w fun e w' => e = .returned (.pointer (some ⟨r, 0, none⟩)) ∧ Wrote B r M (bs ++ be n size) w w' := by
  obtain ⟨i0, hi0, hz0, hz1, hz2⟩ := info_parts Tryz.info5
  have t1 : decide (n < lo) = false := by simp; omega
  have t2 : decide (hi < n) = false := by simp; omega
  go_enter Tryz.func61, Tryz.ntmps61
  go_wp2_with fail
  refine (bad_any h).mono ?_
  rintro e w' ⟨rfl, hw'⟩
  have hw' := hw'.symm
  subst hw'
  go_wp2
  go_loopw [11] (fun i wr => ∃ (k : Nat) (q : Int) (v : Value) (ws : List Int), k ≤ size ∧ q + 1 = k ∧ i = .int .i64 q ∧ En B wr r M v (bs ++ ws) ∧ ws ++ be n k = be n size ∧ ws.length + k = size ∧ Kp B [5, 63] w wr) (fun i _ => (intOf i + 1).toNat)
  case atStart => exact ⟨size, (size : Int) - 1, v0, [], Nat.le_refl _, by omega, rfl, by simpa using h, rfl, by simp, Kp.refl _ _ _⟩
  case round =>
    obtain ⟨k, q, v, ws, hk, hq, rfl, hw, hbe, hwl, hch⟩ := hrel
    match k, hk, hq, hbe, hwl with
    | 0, hk, hq, hbe, hwl =>
      obtain rfl : q = -1 := by omega
      go_wp2
      go_ret
      simp [be] at hbe
      subst hbe
      exact ⟨rfl, v, hw, hch⟩
    | j + 1, hk, hq, hbe, hwl =>
      obtain rfl : q = (j : Int) := by omega
      have c0 := hw.c0
      have cf := hw.fz 0
      obtain ⟨m, hm⟩ : ∃ m, n / 256 ^ j % 256 = m := ⟨_, rfl⟩
      have hby := byte_at n j
      rw [hm] at hby
      have HM : Hid (n / 256 ^ j % 256 = m) := hm
      clear hm
      have hw8 := wrap8 j (by omega)
      have hj0 : (0 : Int) ≤ (j : Int) := Int.natCast_nonneg _
      have hrl := hw.lt
      have hBr : B ≤ wr.heap.size := Nat.le_trans hB hch.size
      have hfz1 : (wr.alloc (.cells #[.int .u8 m] 5)).drew.frozen? ⟨r, 0, none⟩ = false := (World.frozen?_alloc_old _ _ _ (Nat.ne_of_lt hrl)).trans cf
      have hcc1 : (wr.alloc (.cells #[.int .u8 m] 5)).drew.cell? ⟨r, 0, none⟩ = some v := (World.cell?_alloc_old _ _ _ (Nat.ne_of_lt hrl)).trans c0
      have HK : Hid (Kp B [5, 63] w wr) := hch
      clear hch
      go_wp2
      go_region_law ((refine step_append_lies _ (by rfl) _ _ _ (by rfl) B 5 i0 _ 1 1 Tryz.underlying29 hi0 hz0 hz1 hz2 rfl (by omega) v (bs ++ ws).length _ (by rfl) ((hw.own.alloc _).drew) ⟨wr.heap.size, 0, none⟩ 1 1 [.int .u8 m] (by rfl) (by rfl) (World.news_of_block (cs := #[.int .u8 m]) (t := 5) (fr := (0, 0)) (heap_alloc_new wr _)) (by simp [Value.oneCell']) (by omega) (by unfold maxLen; simp; omega) (by simp; omega) (by simp; omega) (wr.heap.size + 1) (by simp) ?_; intro g1 cap1 w1 hown1 hgrow hat hlt; have hfz : w1.frozen? ⟨r, 0, none⟩ = false := (hgrow.frozen_far _ (by simp; omega) (Ne.symm hw.ne)).trans hfz1; have hcc : w1.cell? ⟨r, 0, none⟩ = some v := (hgrow.cell_far _ (by simp; omega) (Ne.symm hw.ne)).trans hcc1))
      all_goals
        obtain ⟨R1, R2⟩ := En.set (w := (wr.alloc (.cells #[.int .u8 m] 5)).drew) (news := [m]) (hw.keep (((Ch.refl wr).alloc _).drew)) hown1 hgrow
        clear hown1
        have hla : (bs ++ ws).length = bs.length + ws.length := by simp
        rw [hla] at R2
        go_wp2
        go_roundw
        case rel => exact ⟨j, (j : Int) - 1, _, ws ++ [m], by omega, by omega, rfl, by simpa using R1, by rw [← hbe, be, HM.out]; simp, by simp; omega, ((HK.out.alloc _).drew).trans R2⟩
        case measure => simp [intOf]

theorem wu1_ok (n : Int) (h : En B w r M v bs) (h0 : 0 ≤ n ∧ n ≤ 255) (hl : bs.length + 1 ≤ 140737488355328) (hB : B ≤ w.heap.size) :
    Calls Tryz.prog 102 #[.pointer (some ⟨r, 0, none⟩), .int .i64 n] w fun e w' => e = .returned (.pointer (some ⟨r, 0, none⟩)) ∧ Wrote B r M (bs ++ be n 1) w w' := by
  have hn := wnumber_ok n 0 255 1 r v bs w h h0.1 h0.2 (by omega) hl hB
  go_enter Tryz.func102, Tryz.ntmps102
  go_wp2_with fail
  refine hn.mono ?_
  rintro e w' ⟨rfl, h1⟩
  go_wp2
  go_ret
  exact ⟨rfl, h1⟩
theorem wu2_ok (n : Int) (h : En B w r M v bs) (h0 : 0 ≤ n ∧ n ≤ 65535) (hl : bs.length + 2 ≤ 140737488355328) (hB : B ≤ w.heap.size) :
    Calls Tryz.prog 25 #[.pointer (some ⟨r, 0, none⟩), .int .i64 n] w fun e w' => e = .returned (.pointer (some ⟨r, 0, none⟩)) ∧ Wrote B r M (bs ++ be n 2) w w' := by
  have hn := wnumber_ok n 0 65535 2 r v bs w h h0.1 h0.2 (by omega) hl hB
  go_enter Tryz.func25, Tryz.ntmps25
  go_wp2_with fail
  refine hn.mono ?_
  rintro e w' ⟨rfl, h1⟩
  go_wp2
  go_ret
  exact ⟨rfl, h1⟩
theorem wi4_ok (n : Int) (h : En B w r M v bs) (h0 : -2147483648 ≤ n ∧ n ≤ 2147483647) (hl : bs.length + 4 ≤ 140737488355328) (hB : B ≤ w.heap.size) :
    Calls Tryz.prog 24 #[.pointer (some ⟨r, 0, none⟩), .int .i64 n] w fun e w' => e = .returned (.pointer (some ⟨r, 0, none⟩)) ∧ Wrote B r M (bs ++ be n 4) w w' := by
  have hn := wnumber_ok n (-2147483648) 2147483647 4 r v bs w h h0.1 h0.2 (by omega) hl hB
  go_enter Tryz.func24, Tryz.ntmps24
  go_wp2_with fail
  refine hn.mono ?_
  rintro e w' ⟨rfl, h1⟩
  go_wp2
  go_ret
  exact ⟨rfl, h1⟩

/-- The bytes of a text. -/
def sb (s : ByteArray) : List Int := s.data.toList.map fun b => (b.toNat : Int)
theorem sb_length (s : ByteArray) : (sb s).length = s.size := by rw [sb, List.length_map, Array.length_toList]; rfl
theorem sb_cells (s : ByteArray) : (sb s).map (Value.int .u8) = Lib.strCells s := by simp [sb, Lib.strCells]
theorem sb_bd (s : ByteArray) : ∀ x ∈ sb s, 0 ≤ x ∧ x < 256 := by
  intro x hx
  simp only [sb, List.mem_map] at hx
  obtain ⟨b, _, rfl⟩ := hx
  have := b.toNat_lt
  omega

theorem append_string_at {P : Program} (w : World) (base : Nat) (t u ty e : TypeId) (i : TypeInfo) (ht : P.underlying t = some (.slice e)) (hu : P.underlying u = some .string) (hi : P.info? e = some i) (hz : i.zero = some (.int .u8 0))
    (hsize : i.size = 1) (hby : i.bytes = 1) (v : Value) (n : Nat) (xs : List Value) (hown : w.ownsRow base e 1 v n xs) (s : ByteArray) (h63 : n + s.size ≤ maxLen) (hbytes : n + s.size ≤ 140737488355328) (hbase : base ≤ w.heap.size) :
    ∃ v' w', (Builtin.append_ #[t, u] ty #[v, .string s]).run P w = .ok v' w' ∧ w'.ownsRow base e 1 v' (n + s.size) (xs ++ Lib.strCells s) ∧ w.grownBy w' v.ownBlock ∧ (v'.ownBlock = v.ownBlock ∨ v'.ownBlock = some w.heap.size) := by
  obtain ⟨v', w', hr, h2, h3, h4⟩ := Lib.run_append_own_string (P := P) w base t u ty e i ht hu hi hz hsize hby v n xs hown s h63 hbytes hbase
  refine ⟨v', w', hr, h2, h3, ?_⟩
  have hsmall : n + s.size ≤ 9223372036854775807 := by simp only [maxLen] at h63; omega
  rcases hown.2 with ⟨rfl, rfl⟩ | ⟨g, cap, cur, rfl, hbg, hg, hnc, hcm, hcs, htake⟩
  · by_cases hm : s.size = 0
    · left; rw [h4.2 ⟨rfl, hm⟩]
    · have hr' := run_append_nil_string (P := P) w t u ty e i (.int .u8 0) ht hu hi hz s (by omega) (by omega) (by rw [hby]; omega)
      rw [hr] at hr'
      injection hr' with h5 h6
      right; rw [h5]; rfl
  · by_cases hroom : n + s.size ≤ cap
    · have hcs' : cur.size = cap := by simpa using hcs
      have hr' := Lib.run_append_room_string (P := P) w t u ty e i ht hu hi hsize g n cap cur hg s hroom (by omega)
      rw [hr] at hr'
      injection hr' with h5 h6
      left; rw [h5]; rfl
    · have hxl : xs.length = n := by simpa using hown.1
      have holds : ∀ j u, xs[j]? = some u → w.cell? ((⟨g, 0, none⟩ : Addr).add j) = some u := hown.cells (g := g) rfl
      have hr' := Lib.run_append_grow_string (P := P) w t u ty e i (.int .u8 0) ht hu hi hz ⟨g, 0, none⟩ n cap xs (by rw [hsize]; simpa using hxl) holds s (by omega) (by omega) (by rw [hby]; exact growslice_fits (by omega) (by omega))
      rw [hr] at hr'
      injection hr' with h5 h6
      right; rw [h5]; rfl

theorem wpList_append_string_at {P : Program} {w : World} {ops : Array Oper} {rest : List Oper} {o : Oper} {a : Act} {Q : Exit → Act → World → Prop} (hgd : o.guard = none) (sl x : Operand) (t u : TypeId)
    (ho : o.op = .call { callee := .builtin .append, args := #[sl, x], argTypes := #[t, u] })
    (base : Nat) (e : TypeId) (i : TypeInfo) (ht : P.underlying t = some (.slice e)) (hu : P.underlying u = some .string) (hi : P.info? e = some i) (hz : i.zero = some (.int .u8 0))
    (hsize : i.size = 1) (hby : i.bytes = 1)
    (v : Value) (n : Nat) (xs : List Value) (hs : a.eval sl = v) (hown : w.ownsRow base e 1 v n xs) (s : ByteArray) (hx : a.eval x = .string s)
    (h63 : n + s.size ≤ maxLen) (hbytes : n + s.size ≤ 140737488355328) (hbase : base ≤ w.heap.size)
    (h : ∀ v' w', w'.ownsRow base e 1 v' (n + s.size) (xs ++ Lib.strCells s) → w.grownBy w' v.ownBlock → (v'.ownBlock = v.ownBlock ∨ v'.ownBlock = some w.heap.size) → wpList P ops Q rest (a.put o.dst v') w') : wpList P ops Q (o :: rest) a w := by
  refine wpList_plain hgd fun K hK => ?_
  obtain ⟨v', w', hr, h2, h3, h4⟩ := append_string_at (P := P) w base t u o.type e i ht hu hi hz hsize hby v n xs hown s h63 hbytes hbase
  unfold Oper.wp execOp
  simp only [ho, resolve, invoke, builtin, Sem.run_bind, Sem.run_pure, Result.andThen_ok, List.map_toArray, List.map_cons, List.map_nil, hs, hx, hr]
  exact hK _ _ (h v' w' h2 h3 h4)


set_option maxHeartbeats 1000000 in
theorem wtext_ok (s : ByteArray) (h : En B w r M v bs) (hs : s.size ≤ 65535) (hl : bs.length + s.size + 2 ≤ 140737488355328) (hB : B ≤ w.heap.size) :
    Calls Tryz.prog 26 #[.pointer (some ⟨r, 0, none⟩), .string s] w fun e w' => e = .returned (.pointer (some ⟨r, 0, none⟩)) ∧ Wrote B r M (bs ++ (be s.size 2 ++ sb s)) w w' := by
  obtain ⟨i0, hi, hz0, hz1, hz2⟩ := info_parts Tryz.info5
  have hn := wu2_ok s.size h ⟨by omega, by omega⟩ (by omega) hB
  go_enter Tryz.func26, Tryz.ntmps26
  go_wp2_with fail
  refine hn.mono ?_
  rintro e w1 ⟨rfl, v1, h1, hk1⟩
  clear hn
  have hb := bad_any h1
  go_wp2_with fail
  refine hb.mono ?_
  rintro e w2 ⟨rfl, hw2⟩
  have hw2 := hw2.symm
  subst hw2
  clear hb
  have c0 := h1.c0
  have cf := h1.fz 0
  have hrl := h1.lt
  have hown1 := h1.own
  have hB1 : B ≤ w1.heap.size := Nat.le_trans hB hk1.size
  obtain ⟨L, hL⟩ : ∃ L, (bs ++ be s.size 2).length = L := ⟨_, rfl⟩
  rw [hL] at hown1
  have hL2 : L = bs.length + 2 := by rw [← hL]; simp [be]
  have hL3 : L + s.size ≤ 140737488355328 := by omega
  have HL : Hid ((bs ++ be s.size 2).length = L) := hL
  clear hL hL2
  go_wp2_with (first | (at_builtin; refine wpList_append_string_at rfl (.tmp 15) (.tmp 16) 29 9 rfl B 5 i0 Tryz.underlying29 Tryz.underlying9 hi hz0 hz1 hz2 v1 L _ rfl hown1 s rfl (by unfold maxLen; omega) hL3 hB1 ?_; intro v2 w2 hown2 hgrow hat; clear hat; obtain ⟨ao2, c2, rfl⟩ := own_form hown2; have hcc := (hgrow.cell_far ⟨r, 0, none⟩ hrl (Ne.symm h1.ne)).trans c0; have hff := (hgrow.frozen_far ⟨r, 0, none⟩ hrl (Ne.symm h1.ne)).trans cf))
  go_ret
  rw [← sb_cells] at hown2
  obtain ⟨R1, R2⟩ := h1.set (v1 := .slice ao2 (L + s.size) c2) (news := sb s) (by rw [sb_length, HL.out]; exact hown2) hgrow
  exact ⟨rfl, _, by rw [← List.append_assoc]; exact R1, hk1.trans R2⟩
end Go.Proofs.YtdalibfgkkgcpaaGreat
