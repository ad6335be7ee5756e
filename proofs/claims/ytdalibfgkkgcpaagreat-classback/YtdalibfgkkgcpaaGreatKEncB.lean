/- The encoder's writer: its bytes. -/
/- The encoder's writer: numbers, texts. -/
/- The encoder: texts by their places, yes and no. -/
import Derived.Test.YtdalibfgkkgcpaaGreatKKp
import Derived.Deep.AppendLies
import Derived.Deep.RegionHeld3
import Derived.Deep.DrawnRows
import Derived.Laws.AppendOwnNone
import Derived.Lib.SliceRun
import Derived.Lib.AppendStr
import Derived.Deep.RegionLaw
import Derived.Test.YtdalibfgkkgcpaaGreatKPoolE
namespace Go.Proofs.YtdalibfgkkgcpaaGreat
open Go.RowKit
set_option linter.unusedVariables false

/-- The lowest bytes of a number, the greatest first. -/
def be (n : Int) : Nat → List Int
  | 0 => []
  | k + 1 => n / 256 ^ k % 256 :: be n k
theorem be_len (n : Int) (k : Nat) : (be n k).length = k := by induction k with
  | zero => rfl
  | succ k ih => simp [be, ih]

/-- A slice value whose elements are these bytes. -/
def Row (w : World) (sv : Value) (bs : List Int) : Prop :=
  (sv = .slice none 0 0 ∧ bs = []) ∨ ∃ a cap, sv = .slice (some a) bs.length cap ∧ ∀ j u, (bs.map (Value.int .u8))[j]? = some u → w.cell? (a.add j) = some u
theorem row_of_owns {w : World} {base : Nat} {v : Value} {bs : List Int} (h : w.ownsRow base 5 1 v bs.length (bs.map (Value.int .u8))) : Row w v bs := by
  rcases h.2 with ⟨hv, h0⟩ | ⟨g, cap, cur, hv, hb, hg, hc1, hc2, hc3, ht⟩
  · exact Or.inl ⟨hv, List.eq_nil_of_length_eq_zero h0⟩
  · refine Or.inr ⟨_, cap, hv, fun j u hj => ?_⟩
    have hadd : (⟨g, 0, none⟩ : Addr).add j = ⟨g, j, none⟩ := by unfold Addr.add; split <;> simp_all
    rw [hadd]
    simp only [World.cell?, hg]
    have hjl : j < bs.length := by
      rcases Nat.lt_or_ge j bs.length with hlt | hge
      · exact hlt
      · rw [List.getElem?_eq_none (by simpa using hge)] at hj; cases hj
    have e1 : (cur.toList.take (bs.length * 1))[j]? = (bs.map (Value.int .u8))[j]? := by rw [ht]
    rw [List.getElem?_take_of_lt (by omega)] at e1
    rw [hj] at e1
    simpa using e1

/-- The encoder at block r: its bytes; the map of places. -/
structure En (B : Nat) (w : World) (r M : Nat) (v : Value) (bs : List Int) : Prop where
  blk : w.heap[r]? = some (.cells #[v, .bool false, .map (some M)] 63)
  own : w.ownsRow B 5 1 v bs.length (bs.map (Value.int .u8))
  br : B ≤ r
variable {B r M : Nat} {v : Value} {bs : List Int} {w : World}
theorem En.c0 (h : En B w r M v bs) : w.cell? ⟨r, 0, none⟩ = some v := by simp [World.cell?, h.blk]
theorem En.c1 (h : En B w r M v bs) : w.cell? ⟨r, 1, none⟩ = some (.bool false) := by simp [World.cell?, h.blk]
theorem En.c2 (h : En B w r M v bs) : w.cell? ⟨r, 2, none⟩ = some (.map (some M)) := by simp [World.cell?, h.blk]
theorem En.fz (h : En B w r M v bs) (o : Nat) : w.frozen? ⟨r, o, none⟩ = false := by simp [World.frozen?, h.blk]
theorem En.lt (h : En B w r M v bs) : r < w.heap.size := (Array.getElem?_eq_some_iff.1 h.blk).1
theorem En.ne (h : En B w r M v bs) : v.ownBlock ≠ some r := fun e => by
  obtain ⟨_, cur, hc⟩ := own_obj h.own e
  rw [h.blk] at hc
  simp at hc
theorem En.keep {w' : World} (h : En B w r M v bs) (c : Ch w w') : En B w' r M v bs := ⟨kept_at c h.blk, ownsRow_keep h.own c, h.br⟩

theorem bad_any (h : En B w r M v bs) : Calls Tryz.prog 62 #[.pointer (some ⟨r, 0, none⟩)] w fun e w' => e = .returned (.bool false) ∧ w' = w := by
  have h1 := h.c1
  go_enter Tryz.func62, Tryz.ntmps62
  go_wp2
  go_ret
  exact ⟨rfl, rfl⟩

theorem nil47 (w : World) (a : Option Addr) (n c n' c' : Nat) : (binOp .eql 29 (.slice a n c) (.slice none n' c')).run Tryz.prog w = .ok (.bool a.isNone) w := Lib.run_eql_slice_nil w _ _ a n c n' c' Tryz.underlying29
theorem bclone_nil (w : World) : Calls Tryz.prog 66 #[.slice none 0 0] w fun e w' => e = .returned (.slice none 0 0) ∧ w' = w := by
  have hq := nil47
  go_enter Tryz.func66, Tryz.ntmps66
  go_wp2
  go_ret
  exact ⟨rfl, rfl⟩
set_option maxHeartbeats 400000 in
theorem bclone_some (a : Addr) (n cap : Nat) (bs : List Int) (w : World) (hn : bs.length = n) (hcell : ∀ j u, (bs.map (Value.int .u8))[j]? = some u → w.cell? (a.add j) = some u) (hb : n ≤ 140737488355328) :
    Calls Tryz.prog 66 #[.slice (some a) n cap] w fun e w' => ∃ v, e = .returned v ∧ w'.ownsRow w.heap.size 5 1 v n (bs.map (Value.int .u8)) ∧ Ch w w' := by
  obtain ⟨i0, hi, hz0, hz1, hz2⟩ := info_parts Tryz.info5
  have hq := nil47
  have hown := World.ownsRow_made (base := w.heap.size) (e := 5) (size := 1) w #[] 0 (Nat.le_refl _) (Nat.zero_le _) rfl
  go_enter Tryz.func66, Tryz.ntmps66
  go_wp2_with (first | (at_builtin; refine wpList_append_own _ rfl _ _ 29 rfl w.heap.size 5 i0 (.int .u8 0) 1 1 Tryz.underlying29 hi hz0 hz1 hz2 rfl (by decide) _ _ _ rfl hown a n cap (bs.map (Value.int .u8)) rfl ?c1 ?c2 ?c3 ?c4 ?c5 ?c6 ?_))
  case c1 => simp [hn]
  case c2 => intro j u hj; rw [World.cell?_alloc_lt _ _ _ (World.block_lt_of_cell? _ _ (hcell j u hj))]; exact hcell j u hj
  case c3 => intro u hu; simp at hu; obtain ⟨x, _, rfl⟩ := hu; rfl
  case c4 => unfold maxLen; omega
  case c5 => omega
  case c6 => simp
  intro v' w1 hown' hgrow _
  go_wp2
  go_ret
  refine ⟨v', rfl, by simpa using hown', ?_⟩
  exact ((Ch.refl _).alloc _).grown hgrow (fun k hk => by simp [Value.ownBlock] at hk; omega)
theorem bclone_any (sv : Value) (bs : List Int) (w : World) (h : Row w sv bs) (hb : bs.length ≤ 140737488355328) :
    Calls Tryz.prog 66 #[sv] w fun e w' => ∃ v, e = .returned v ∧ w'.ownsRow w.heap.size 5 1 v bs.length (bs.map (Value.int .u8)) ∧ Ch w w' := by
  rcases h with ⟨rfl, rfl⟩ | ⟨a, cap, rfl, hc⟩
  · exact (bclone_nil w).mono fun e w' ⟨h1, h2⟩ => by subst h2; exact ⟨_, h1, World.ownsRow_nil _ _ _ _, Ch.refl _⟩
  · exact bclone_some a bs.length cap bs w rfl hc hb
set_option maxHeartbeats 400000 in
theorem bytes_any (h : En B w r M v bs) (hl : bs.length ≤ 140737488355328) :
    Calls Tryz.prog 28 #[.pointer (some ⟨r, 0, none⟩)] w fun e w' => ∃ v', e = .returned v' ∧ w'.ownsRow w.heap.size 5 1 v' bs.length (bs.map (Value.int .u8)) ∧ Ch w w' := by
  have h0 := h.c0
  go_enter Tryz.func28, Tryz.ntmps28
  go_wp2_with fail
  refine (bclone_any v bs _ (row_of_owns h.own) hl).mono ?_
  rintro e w1 ⟨v', rfl, hown, hch⟩
  go_wp2
  go_ret
  exact ⟨v', rfl, hown, hch⟩
end Go.Proofs.YtdalibfgkkgcpaaGreat
namespace Go.Proofs.YtdalibfgkkgcpaaGreat
open Go.RowKit
set_option linter.unusedVariables false
attribute [local go_sem ↓] Go.wp_at_zero Go.wp_at_succ

theorem byte_at (n : Int) (j : Nat) : IntKind.u8.wrap (n / 2 ^ (8 * (j : Int)).toNat) = n / 256 ^ j % 256 := by
  have e : (8 * (j : Int)).toNat = 8 * j := by omega
  rw [IntKind.wrap_u8, e, Int.pow_mul]
  rfl
theorem wrap8 (j : Nat) (hj : j ≤ 3) : IntKind.i64.wrap (8 * (j : Int)) = 8 * (j : Int) := by
  rw [IntKind.wrap_i64]; omega

variable {B r M : Nat} {v : Value} {bs : List Int} {w : World}
theorem En.set {v1 : Value} {news : List Int} {w1 : World} (h : En B w r M v bs) (hown1 : w1.ownsRow B 5 1 v1 (bs.length + news.length) (bs.map (Value.int .u8) ++ news.map (Value.int .u8))) (hgrow : w.grownBy w1 v.ownBlock) :
    En B (w1.setCell ⟨r, 0, none⟩ v1) r M v1 (bs ++ news) ∧ Kp B [5, 63] w (w1.setCell ⟨r, 0, none⟩ v1) := by
  have hb : w1.heap[r]? = some (.cells #[v, .bool false, .map (some M)] 63) := (hgrow.block r h.lt (Ne.symm h.ne)).trans h.blk
  have hne : v1.ownBlock ≠ some r := fun e => by
    obtain ⟨_, cur, hc⟩ := own_obj hown1 e
    rw [hb] at hc
    simp at hc
  refine ⟨⟨?_, ?_, h.br⟩, ?_⟩
  · simp [World.setCell, Array.getElem?_modify, hb]
  · rw [List.length_append, List.map_append]
    exact ownsRow_same hown1 (fun g hg => Below.heap_setCell _ _ _ _ (fun e => hne (by rw [hg, e])))
  · exact ((Kp.refl B [5, 63] w).grown h.own (by decide) hgrow).turn h.br hb (fun cs t fr e => by simp at e; rw [← e.2.1]; decide) (grown_setCell _ _ _ _)

/-- The encoder at r behind a call: its bytes; what has stayed. -/
def Wrote (B r M : Nat) (bs : List Int) (w w' : World) : Prop := ∃ v, En B w' r M v bs ∧ Kp B [5, 63] w w'
theorem Wrote.trans {a b c : World} {bs1 bs2 : List Int} (h : Wrote B r M bs1 a b) (k : Wrote B r M bs2 b c) : Wrote B r M bs2 a c := by
  obtain ⟨_, _, h1⟩ := h
  obtain ⟨v, h2, h3⟩ := k
  exact ⟨v, h2, h1.trans h3⟩

set_option maxHeartbeats 1000000 in
theorem wnumber_ok (n lo hi : Int) (size : Nat) (r : Nat) (v0 : Value) (bs : List Int) (w : World) (h : En B w r M v0 bs) (h1 : lo ≤ n) (h2 : n ≤ hi) (hs : size ≤ 4) (hl : bs.length + size ≤ 140737488355328) (hB : B ≤ w.heap.size) :
    Calls Tryz.prog 61 #[.pointer (some ⟨r, 0, none⟩), .int .i64 n, .int .i64 lo, .int .i64 hi, .int .i64 size] w fun e w' => e = .returned (.pointer (some ⟨r, 0, none⟩)) ∧ Wrote B r M (bs ++ be n size) w w' := by
  obtain ⟨i0, hi0, hz0, hz1, hz2⟩ := info_parts Tryz.info5
  have t1 : decide (n < lo) = false := by simp; omega
  have t2 : decide (hi < n) = false := by simp; omega
  go_enter Tryz.func61, Tryz.ntmps61
  go_wp2_with fail
  refine (bad_any h).mono ?_
  rintro e w' ⟨rfl, hw'⟩
  have hw' := hw'.symm
  subst hw'
  go_wp2
  go_loopw [11] (fun i wr => ∃ (k : Nat) (q : Int) (v : Value) (ws : List Int), k ≤ size ∧ q + 1 = k ∧ i = .int .i64 q ∧ En B wr r M v (bs ++ ws) ∧ ws ++ be n k = be n size ∧ ws.length + k = size ∧ Kp B [5, 63] w wr) (fun i _ => (intOf i + 1).toNat)
  case atStart => exact ⟨size, (size : Int) - 1, v0, [], Nat.le_refl _, by omega, rfl, by simpa using h, rfl, by simp, Kp.refl _ _ _⟩
  case round =>
    obtain ⟨k, q, v, ws, hk, hq, rfl, hw, hbe, hwl, hch⟩ := hrel
    match k, hk, hq, hbe, hwl with
    | 0, hk, hq, hbe, hwl =>
      obtain rfl : q = -1 := by omega
      go_wp2
      go_ret
      simp [be] at hbe
      subst hbe
      exact ⟨rfl, v, hw, hch⟩
    | j + 1, hk, hq, hbe, hwl =>
      obtain rfl : q = (j : Int) := by omega
      have c0 := hw.c0
      have cf := hw.fz 0
      obtain ⟨m, hm⟩ : ∃ m, n / 256 ^ j % 256 = m := ⟨_, rfl⟩
      have hby := byte_at n j
      rw [hm] at hby
      have HM : Hid (n / 256 ^ j % 256 = m) := hm
      clear hm
      have hw8 := wrap8 j (by omega)
      have hj0 : (0 : Int) ≤ (j : Int) := Int.natCast_nonneg _
      have hrl := hw.lt
      have hBr : B ≤ wr.heap.size := Nat.le_trans hB hch.size
      have hfz1 : (wr.alloc (.cells #[.int .u8 m] 5)).drew.frozen? ⟨r, 0, none⟩ = false := (World.frozen?_alloc_old _ _ _ (Nat.ne_of_lt hrl)).trans cf
      have hcc1 : (wr.alloc (.cells #[.int .u8 m] 5)).drew.cell? ⟨r, 0, none⟩ = some v := (World.cell?_alloc_old _ _ _ (Nat.ne_of_lt hrl)).trans c0
      have HK : Hid (Kp B [5, 63] w wr) := hch
      clear hch
      go_wp2
      go_region_law ((refine step_append_lies _ (by rfl) _ _ _ (by rfl) B 5 i0 _ 1 1 Tryz.underlying29 hi0 hz0 hz1 hz2 rfl (by omega) v (bs ++ ws).length _ (by rfl) ((hw.own.alloc _).drew) ⟨wr.heap.size, 0, none⟩ 1 1 [.int .u8 m] (by rfl) (by rfl) (World.news_of_block (cs := #[.int .u8 m]) (t := 5) (fr := (0, 0)) (heap_alloc_new wr _)) (by simp [Value.oneCell']) (by omega) (by unfold maxLen; simp; omega) (by simp; omega) (by simp; omega) (wr.heap.size + 1) (by simp) ?_; intro g1 cap1 w1 hown1 hgrow hat hlt; have hfz : w1.frozen? ⟨r, 0, none⟩ = false := (hgrow.frozen_far _ (by simp; omega) (Ne.symm hw.ne)).trans hfz1; have hcc : w1.cell? ⟨r, 0, none⟩ = some v := (hgrow.cell_far _ (by simp; omega) (Ne.symm hw.ne)).trans hcc1))
      all_goals
        obtain ⟨R1, R2⟩ := En.set (w := (wr.alloc (.cells #[.int .u8 m] 5)).drew) (news := [m]) (hw.keep (((Ch.refl wr).alloc _).drew)) hown1 hgrow
        clear hown1
        have hla : (bs ++ ws).length = bs.length + ws.length := by simp
        rw [hla] at R2
        go_wp2
        go_roundw
        case rel => exact ⟨j, (j : Int) - 1, _, ws ++ [m], by omega, by omega, rfl, by simpa using R1, by rw [← hbe, be, HM.out]; simp, by simp; omega, ((HK.out.alloc _).drew).trans R2⟩
        case measure => simp [intOf]

theorem wu1_ok (n : Int) (h : En B w r M v bs) (h0 : 0 ≤ n ∧ n ≤ 255) (hl : bs.length + 1 ≤ 140737488355328) (hB : B ≤ w.heap.size) :
    Calls Tryz.prog 102 #[.pointer (some ⟨r, 0, none⟩), .int .i64 n] w fun e w' => e = .returned (.pointer (some ⟨r, 0, none⟩)) ∧ Wrote B r M (bs ++ be n 1) w w' := by
  have hn := wnumber_ok n 0 255 1 r v bs w h h0.1 h0.2 (by omega) hl hB
  go_enter Tryz.func102, Tryz.ntmps102
  go_wp2_with fail
  refine hn.mono ?_
  rintro e w' ⟨rfl, h1⟩
  go_wp2
  go_ret
  exact ⟨rfl, h1⟩
theorem wu2_ok (n : Int) (h : En B w r M v bs) (h0 : 0 ≤ n ∧ n ≤ 65535) (hl : bs.length + 2 ≤ 140737488355328) (hB : B ≤ w.heap.size) :
    Calls Tryz.prog 25 #[.pointer (some ⟨r, 0, none⟩), .int .i64 n] w fun e w' => e = .returned (.pointer (some ⟨r, 0, none⟩)) ∧ Wrote B r M (bs ++ be n 2) w w' := by
  have hn := wnumber_ok n 0 65535 2 r v bs w h h0.1 h0.2 (by omega) hl hB
  go_enter Tryz.func25, Tryz.ntmps25
  go_wp2_with fail
  refine hn.mono ?_
  rintro e w' ⟨rfl, h1⟩
  go_wp2
  go_ret
  exact ⟨rfl, h1⟩
theorem wi4_ok (n : Int) (h : En B w r M v bs) (h0 : -2147483648 ≤ n ∧ n ≤ 2147483647) (hl : bs.length + 4 ≤ 140737488355328) (hB : B ≤ w.heap.size) :
    Calls Tryz.prog 24 #[.pointer (some ⟨r, 0, none⟩), .int .i64 n] w fun e w' => e = .returned (.pointer (some ⟨r, 0, none⟩)) ∧ Wrote B r M (bs ++ be n 4) w w' := by
  have hn := wnumber_ok n (-2147483648) 2147483647 4 r v bs w h h0.1 h0.2 (by omega) hl hB
  go_enter Tryz.func24, Tryz.ntmps24
  go_wp2_with fail
  refine hn.mono ?_
  rintro e w' ⟨rfl, h1⟩
  go_wp2
  go_ret
  exact ⟨rfl, h1⟩

/-- The bytes of a text. -/
def sb (s : ByteArray) : List Int := s.data.toList.map fun b => (b.toNat : Int)
theorem sb_length (s : ByteArray) : (sb s).length = s.size := by rw [sb, List.length_map, Array.length_toList]; rfl
theorem sb_cells (s : ByteArray) : (sb s).map (Value.int .u8) = Lib.strCells s := by simp [sb, Lib.strCells]
theorem sb_bd (s : ByteArray) : ∀ x ∈ sb s, 0 ≤ x ∧ x < 256 := by
  intro x hx
  simp only [sb, List.mem_map] at hx
  obtain ⟨b, _, rfl⟩ := hx
  have := b.toNat_lt
  omega

theorem append_string_at {P : Program} (w : World) (base : Nat) (t u ty e : TypeId) (i : TypeInfo) (ht : P.underlying t = some (.slice e)) (hu : P.underlying u = some .string) (hi : P.info? e = some i) (hz : i.zero = some (.int .u8 0))
    (hsize : i.size = 1) (hby : i.bytes = 1) (v : Value) (n : Nat) (xs : List Value) (hown : w.ownsRow base e 1 v n xs) (s : ByteArray) (h63 : n + s.size ≤ maxLen) (hbytes : n + s.size ≤ 140737488355328) (hbase : base ≤ w.heap.size) :
    ∃ v' w', (Builtin.append_ #[t, u] ty #[v, .string s]).run P w = .ok v' w' ∧ w'.ownsRow base e 1 v' (n + s.size) (xs ++ Lib.strCells s) ∧ w.grownBy w' v.ownBlock ∧ (v'.ownBlock = v.ownBlock ∨ v'.ownBlock = some w.heap.size) := by
  obtain ⟨v', w', hr, h2, h3, h4⟩ := Lib.run_append_own_string (P := P) w base t u ty e i ht hu hi hz hsize hby v n xs hown s h63 hbytes hbase
  refine ⟨v', w', hr, h2, h3, ?_⟩
  have hsmall : n + s.size ≤ 9223372036854775807 := by simp only [maxLen] at h63; omega
  rcases hown.2 with ⟨rfl, rfl⟩ | ⟨g, cap, cur, rfl, hbg, hg, hnc, hcm, hcs, htake⟩
  · by_cases hm : s.size = 0
    · left; rw [h4.2 ⟨rfl, hm⟩]
    · have hr' := run_append_nil_string (P := P) w t u ty e i (.int .u8 0) ht hu hi hz s (by omega) (by omega) (by rw [hby]; omega)
      rw [hr] at hr'
      injection hr' with h5 h6
      right; rw [h5]; rfl
  · by_cases hroom : n + s.size ≤ cap
    · have hcs' : cur.size = cap := by simpa using hcs
      have hr' := Lib.run_append_room_string (P := P) w t u ty e i ht hu hi hsize g n cap cur hg s hroom (by omega)
      rw [hr] at hr'
      injection hr' with h5 h6
      left; rw [h5]; rfl
    · have hxl : xs.length = n := by simpa using hown.1
      have holds : ∀ j u, xs[j]? = some u → w.cell? ((⟨g, 0, none⟩ : Addr).add j) = some u := hown.cells (g := g) rfl
      have hr' := Lib.run_append_grow_string (P := P) w t u ty e i (.int .u8 0) ht hu hi hz ⟨g, 0, none⟩ n cap xs (by rw [hsize]; simpa using hxl) holds s (by omega) (by omega) (by rw [hby]; exact growslice_fits (by omega) (by omega))
      rw [hr] at hr'
      injection hr' with h5 h6
      right; rw [h5]; rfl

theorem wpList_append_string_at {P : Program} {w : World} {ops : Array Oper} {rest : List Oper} {o : Oper} {a : Act} {Q : Exit → Act → World → Prop} (hgd : o.guard = none) (sl x : Operand) (t u : TypeId)
    (ho : o.op = .call { callee := .builtin .append, args := #[sl, x], argTypes := #[t, u] })
    (base : Nat) (e : TypeId) (i : TypeInfo) (ht : P.underlying t = some (.slice e)) (hu : P.underlying u = some .string) (hi : P.info? e = some i) (hz : i.zero = some (.int .u8 0))
    (hsize : i.size = 1) (hby : i.bytes = 1)
    (v : Value) (n : Nat) (xs : List Value) (hs : a.eval sl = v) (hown : w.ownsRow base e 1 v n xs) (s : ByteArray) (hx : a.eval x = .string s)
    (h63 : n + s.size ≤ maxLen) (hbytes : n + s.size ≤ 140737488355328) (hbase : base ≤ w.heap.size)
    (h : ∀ v' w', w'.ownsRow base e 1 v' (n + s.size) (xs ++ Lib.strCells s) → w.grownBy w' v.ownBlock → (v'.ownBlock = v.ownBlock ∨ v'.ownBlock = some w.heap.size) → wpList P ops Q rest (a.put o.dst v') w') : wpList P ops Q (o :: rest) a w := by
  refine wpList_plain hgd fun K hK => ?_
  obtain ⟨v', w', hr, h2, h3, h4⟩ := append_string_at (P := P) w base t u o.type e i ht hu hi hz hsize hby v n xs hown s h63 hbytes hbase
  unfold Oper.wp execOp
  simp only [ho, resolve, invoke, builtin, Sem.run_bind, Sem.run_pure, Result.andThen_ok, List.map_toArray, List.map_cons, List.map_nil, hs, hx, hr]
  exact hK _ _ (h v' w' h2 h3 h4)


set_option maxHeartbeats 1000000 in
theorem wtext_ok (s : ByteArray) (h : En B w r M v bs) (hs : s.size ≤ 65535) (hl : bs.length + s.size + 2 ≤ 140737488355328) (hB : B ≤ w.heap.size) :
    Calls Tryz.prog 26 #[.pointer (some ⟨r, 0, none⟩), .string s] w fun e w' => e = .returned (.pointer (some ⟨r, 0, none⟩)) ∧ Wrote B r M (bs ++ (be s.size 2 ++ sb s)) w w' := by
  obtain ⟨i0, hi, hz0, hz1, hz2⟩ := info_parts Tryz.info5
  have hn := wu2_ok s.size h ⟨by omega, by omega⟩ (by omega) hB
  go_enter Tryz.func26, Tryz.ntmps26
  go_wp2_with fail
  refine hn.mono ?_
  rintro e w1 ⟨rfl, v1, h1, hk1⟩
  clear hn
  have hb := bad_any h1
  go_wp2_with fail
  refine hb.mono ?_
  rintro e w2 ⟨rfl, hw2⟩
  have hw2 := hw2.symm
  subst hw2
  clear hb
  have c0 := h1.c0
  have cf := h1.fz 0
  have hrl := h1.lt
  have hown1 := h1.own
  have hB1 : B ≤ w1.heap.size := Nat.le_trans hB hk1.size
  obtain ⟨L, hL⟩ : ∃ L, (bs ++ be s.size 2).length = L := ⟨_, rfl⟩
  rw [hL] at hown1
  have hL2 : L = bs.length + 2 := by rw [← hL]; simp [be]
  have hL3 : L + s.size ≤ 140737488355328 := by omega
  have HL : Hid ((bs ++ be s.size 2).length = L) := hL
  clear hL hL2
  go_wp2_with (first | (at_builtin; refine wpList_append_string_at rfl (.tmp 15) (.tmp 16) 29 9 rfl B 5 i0 Tryz.underlying29 Tryz.underlying9 hi hz0 hz1 hz2 v1 L _ rfl hown1 s rfl (by unfold maxLen; omega) hL3 hB1 ?_; intro v2 w2 hown2 hgrow hat; clear hat; obtain ⟨ao2, c2, rfl⟩ := own_form hown2; have hcc := (hgrow.cell_far ⟨r, 0, none⟩ hrl (Ne.symm h1.ne)).trans c0; have hff := (hgrow.frozen_far ⟨r, 0, none⟩ hrl (Ne.symm h1.ne)).trans cf))
  go_ret
  rw [← sb_cells] at hown2
  obtain ⟨R1, R2⟩ := h1.set (v1 := .slice ao2 (L + s.size) c2) (news := sb s) (by rw [sb_length, HL.out]; exact hown2) hgrow
  exact ⟨rfl, _, by rw [← List.append_assoc]; exact R1, hk1.trans R2⟩
end Go.Proofs.YtdalibfgkkgcpaaGreat
namespace Go.Proofs.YtdalibfgkkgcpaaGreat
open Go.RowKit
set_option linter.unusedVariables false

def pB (L : List (List UInt8)) (s : List UInt8) : List Int := be (plc L s) 2
def yB (b : Bool) : List Int := be (if b then 1 else 0) 1
theorem pB_len (L : List (List UInt8)) (s : List UInt8) : (pB L s).length = 2 := be_len _ _
theorem plc_bd {L : List (List UInt8)} (hL : L.length ≤ 500) (s : List UInt8) : 0 ≤ plc L s ∧ plc L s ≤ 65535 := by
  unfold plc
  split
  · have := List.idxOf_le_length (l := L) (a := s)
    omega
  · omega

/-- How an encoder stands: its bytes, and the map below B. -/
structure Es (B r M : Nat) (L : List (List UInt8)) (w0 w : World) (bs : List Int) : Prop where
  en : ∃ v, En B w r M v bs
  mp : Mp w M L
  mb : M < B
  bw : B ≤ w.heap.size
  kp : Kp B [5, 63] w0 w
  ll : L.length ≤ 500
  len : bs.length ≤ 2000000
variable {B r M : Nat} {L : List (List UInt8)} {w0 w : World} {bs : List Int}
theorem Es.wrote {w' : World} {bs' : List Int} (h : Es B r M L w0 w bs) (k : Wrote B r M bs' w w') (hl : bs'.length ≤ 2000000) : Es B r M L w0 w' bs' := by
  obtain ⟨v, h1, h2⟩ := k
  exact ⟨⟨v, h1⟩, h.mp.keep (h2.block M h.mp.lt (Or.inl h.mb)), h.mb, Nat.le_trans h.bw h2.size, h.kp.trans h2, h.ll, hl⟩
theorem Es.chr {w' : World} (h : Es B r M L w0 w bs) (c : Ch w w') : Es B r M L w0 w' bs := by
  obtain ⟨v, h1⟩ := h.en
  exact ⟨⟨v, h1.keep c⟩, h.mp.keep (c.block M h.mp.lt), h.mb, Nat.le_trans h.bw c.size, h.kp.chr c, h.ll, h.len⟩
/-- Its words, with what has stayed since the call. -/
def Put (B r M : Nat) (L : List (List UInt8)) (w0 : World) (bs : List Int) (w w' : World) : Prop := Es B r M L w0 w' bs ∧ Kp B [5, 63] w w'
theorem Es.u1 (h : Es B r M L w0 w bs) (n : Int) (h0 : 0 ≤ n ∧ n ≤ 255) (hl : bs.length + 1 ≤ 2000000) :
    Calls Tryz.prog 102 #[.pointer (some ⟨r, 0, none⟩), .int .i64 n] w fun e w' => e = .returned (.pointer (some ⟨r, 0, none⟩)) ∧ Put B r M L w0 (bs ++ be n 1) w w' := by
  obtain ⟨v, h1⟩ := h.en
  exact (wu1_ok n h1 h0 (by omega) h.bw).mono fun e w' ⟨a, b⟩ => ⟨a, h.wrote b (by rw [List.length_append, be_len]; omega), by obtain ⟨_, _, k⟩ := b; exact k⟩
theorem Es.u2 (h : Es B r M L w0 w bs) (n : Int) (h0 : 0 ≤ n ∧ n ≤ 65535) (hl : bs.length + 2 ≤ 2000000) :
    Calls Tryz.prog 25 #[.pointer (some ⟨r, 0, none⟩), .int .i64 n] w fun e w' => e = .returned (.pointer (some ⟨r, 0, none⟩)) ∧ Put B r M L w0 (bs ++ be n 2) w w' := by
  obtain ⟨v, h1⟩ := h.en
  exact (wu2_ok n h1 h0 (by omega) h.bw).mono fun e w' ⟨a, b⟩ => ⟨a, h.wrote b (by rw [List.length_append, be_len]; omega), by obtain ⟨_, _, k⟩ := b; exact k⟩
theorem Es.i4 (h : Es B r M L w0 w bs) (n : Int) (h0 : -2147483648 ≤ n ∧ n ≤ 2147483647) (hl : bs.length + 4 ≤ 2000000) :
    Calls Tryz.prog 24 #[.pointer (some ⟨r, 0, none⟩), .int .i64 n] w fun e w' => e = .returned (.pointer (some ⟨r, 0, none⟩)) ∧ Put B r M L w0 (bs ++ be n 4) w w' := by
  obtain ⟨v, h1⟩ := h.en
  exact (wi4_ok n h1 h0 (by omega) h.bw).mono fun e w' ⟨a, b⟩ => ⟨a, h.wrote b (by rw [List.length_append, be_len]; omega), by obtain ⟨_, _, k⟩ := b; exact k⟩
theorem Es.text (h : Es B r M L w0 w bs) (s : ByteArray) (hs : s.size ≤ 65535) (hl : bs.length + (s.size + 2) ≤ 2000000) :
    Calls Tryz.prog 26 #[.pointer (some ⟨r, 0, none⟩), .string s] w fun e w' => e = .returned (.pointer (some ⟨r, 0, none⟩)) ∧ Put B r M L w0 (bs ++ (be s.size 2 ++ sb s)) w w' := by
  obtain ⟨v, h1⟩ := h.en
  exact (wtext_ok s h1 hs (by omega) h.bw).mono fun e w' ⟨a, b⟩ => ⟨a, h.wrote b (by rw [List.length_append, List.length_append, be_len, sb_length]; omega), by obtain ⟨_, _, k⟩ := b; exact k⟩
theorem Es.c2 (h : Es B r M L w0 w bs) : w.cell? ⟨r, 2, none⟩ = some (.map (some M)) := by obtain ⟨v, h1⟩ := h.en; exact h1.c2

theorem Es.yes (h : Es B r M L w0 w bs) (b : Bool) (hl : bs.length + 1 ≤ 2000000) :
    Calls Tryz.prog 64 #[.pointer (some ⟨r, 0, none⟩), .bool b] w fun e w' => e = .returned (.tuple #[]) ∧ Put B r M L w0 (bs ++ yB b) w w' := by
  unfold yB
  cases b
  · have hu := h.u1 0 (by omega) hl
    go_enter Tryz.func64, Tryz.ntmps64
    go_wp2_with (first
      | (go_at_call 102; (with_reducible refine hu.mono ?_); rintro e w2 ⟨rfl, hp⟩))
    go_end0
    exact ⟨rfl, hp⟩
  · have hu := h.u1 1 (by omega) hl
    go_enter Tryz.func64, Tryz.ntmps64
    go_wp2_with (first
      | (go_at_call 102; (with_reducible refine hu.mono ?_); rintro e w2 ⟨rfl, hp⟩))
    refine bodyPost_ret (results_none rfl _ _ _) rfl ?_
    exact ⟨rfl, hp⟩
/-- What an encoder does not turn. -/
def Safe (B : Nat) (w : World) (b : Nat) : Prop := b < B ∨ ∃ cs t fr, w.heap[b]? = some (.cells cs t fr) ∧ t ∉ ([5, 63] : List TypeId)
theorem Safe.keep {w' : World} {b : Nat} (h : Safe B w b) (hb : b < w.heap.size) (k : Kp B [5, 63] w w') : w'.heap[b]? = w.heap[b]? := k.block b hb h

set_option maxRecDepth 100000 in
set_option maxHeartbeats 4000000 in
theorem Es.texts (h : Es B r M L w0 w bs) (xs : List ByteArray) (v : Value) (hv : Sl 1 RS w v xs) (hsafe : ∀ b off n c, v = .slice (some ⟨b, off, none⟩) n c → 0 < xs.length → Safe B w b) (hsz : ∀ s ∈ xs, s.size ≤ 100000) (hl : bs.length + 2 * xs.length ≤ 2000000) :
    Calls Tryz.prog 63 #[.pointer (some ⟨r, 0, none⟩), v] w fun e w' => e = .returned (.tuple #[]) ∧ Put B r M L w0 (bs ++ (xs.map bl).flatMap (pB L)) w w' := by
  obtain ⟨ao, cv, rfl, hv1, hv2⟩ := hv.form
  obtain ⟨goal, hgoal⟩ : ∃ l, bs ++ (xs.map bl).flatMap (pB L) = l := ⟨_, rfl⟩
  rw [hgoal]
  go_enter Tryz.func63, Tryz.ntmps63
  go_wp2
  go_loopw [8] (fun i wr => ∃ (k : Nat) (bs' : List Int), k ≤ xs.length ∧ i = .int .i64 k ∧ Put B r M L w0 bs' w wr ∧ bs' ++ ((xs.map bl).drop k).flatMap (pB L) = goal ∧ bs'.length + 2 * (xs.length - k) ≤ 2000000) (fun i _ => xs.length - (intOf i).toNat)
  case atStart => exact ⟨0, bs, Nat.zero_le _, rfl, ⟨h, Kp.refl _ _ _⟩, by simpa using hgoal, by omega⟩
  case round =>
    clear hgoal
    obtain ⟨k, bs', hk, rfl, ⟨hE, hK⟩, hd, hbl⟩ := hrel
    by_cases hlt : k < xs.length
    · obtain ⟨x, hx⟩ : ∃ a, xs[k]? = some a := ⟨_, List.getElem?_eq_getElem hlt⟩
      have hxs := hsz x (List.mem_of_getElem? hx)
      have hxm : (xs.map bl)[k]? = some (bl x) := by rw [List.getElem?_map, hx]; rfl
      rw [flat_step (pB L) hxm, ← List.append_assoc] at hd
      obtain ⟨b, off, hao, d00⟩ := hv.atS hx
      subst hao
      have hbl0 : b < w.heap.size := World.block_lt_of_cell? _ _ d00
      have d0 : wr.cell? ⟨b, off + k, none⟩ = some (.string x) := by
        rw [World.cell?_of_block (w := w) ((hsafe b off _ _ rfl (by omega)).keep hbl0 hK)]
        exact d00
      have lk : (Instr.lookup 56 (.map (some M)) (.string x) false).run Tryz.prog wr.drew = .ok (.int .i64 (plc L (bl x))) wr.drew := ((Mp.keep (w' := wr.drew) hE.mp rfl).look x hxs).2
      have hu := (hE.chr (Ch.refl wr).drew).u2 (plc L (bl x)) (plc_bd hE.ll _) (by omega)
      have c2 := hE.c2
      have HT : Hid (∀ w', Ch wr w' → w'.cell? ⟨r, 2, none⟩ = some (.map (some M))) := fun w' hw => cell_keep hw c2
      unfold pB at hd
      have HD : Hid ((bs' ++ be (plc L (bl x)) 2) ++ ((xs.map bl).drop (k + 1)).flatMap (fun s => be (plc L s) 2) = goal) := hd
      have HK : Hid (Kp B [5, 63] w wr) := hK
      clear hd hx hxm d00 hE hK h hv hsafe
      generalize plc L (bl x) = pc at *
      go_wp2_with fail
      go_region_held (fun w' => w'.cell? ⟨r, 2, none⟩ = some (.map (some M))) (first | assumption | (refine HT.out _ ?_; repeat (first | exact Ch.refl _ | refine Ch.drew ?_ | refine Ch.alloc ?_ _ | refine Ch.trans ?_ (by assumption)))) (first
        | (go_at_call 25; (with_reducible refine hu.mono ?_); rintro e w3 ⟨rfl, hp3⟩; have c3 := Es.c2 hp3.1))
      all_goals
        go_wp2
        go_roundw
        case rel => exact ⟨k + 1, _, by omega, by go_num, ⟨hp3.1, (HK.out.chr (Ch.refl wr).drew).trans hp3.2⟩, (by unfold pB; exact HD.out), by rw [List.length_append, be_len]; omega⟩
        case measure => simp [intOf]; omega
    · obtain rfl : k = xs.length := by omega
      rw [flat_end (pB L) (by simp), List.append_nil] at hd
      subst hd
      go_wp2
      go_end0
      exact ⟨rfl, hE, hK⟩
end Go.Proofs.YtdalibfgkkgcpaaGreat
