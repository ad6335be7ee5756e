/- Items that came in: few enough to be looked at; their bytes; written. -/
import Derived.Test.YtgjddpfijnmeeaaItA
import Derived.Deep.RegionWith
namespace Go.Proofs.Ytgjddpfijnmeeaa
open Go.RowKit
set_option linter.unusedVariables false
attribute [local go_sem ↓] Go.wp_at_zero Go.wp_at_succ

/-- Items that came in, cell by cell. -/
def Items (w : World) (a : Option Addr) (len : Nat) (K N : Nat → Int) (S : Nat → ByteArray) : Prop :=
  0 < len → ∃ b off, a = some ⟨b, off, none⟩ ∧ ∀ i, i < len → w.cell? ⟨b, off + i * 3, none⟩ = some (.int .i64 (K i)) ∧ w.cell? ⟨b, off + i * 3 + 1, none⟩ = some (.int .i64 (N i)) ∧ w.cell? ⟨b, off + i * 3 + 2, none⟩ = some (.string (S i))
theorem Items.keep {w w' : World} {a : Option Addr} {len : Nat} {K N : Nat → Int} {S : Nat → ByteArray} (h : Items w a len K N S) (c : Ch (fun _ => False) w w') : Items w' a len K N S := by
  intro hp
  obtain ⟨b, off, ha, hc⟩ := h hp
  refine ⟨b, off, ha, fun i hi => ?_⟩
  obtain ⟨h1, h2, h3⟩ := hc i hi
  have hb := c.block b (World.block_lt_of_cell? _ _ h1) (fun x => x)
  exact ⟨(World.cell?_of_block hb).trans h1, (World.cell?_of_block hb).trans h2, (World.cell?_of_block hb).trans h3⟩

def tot (S : Nat → ByteArray) : Nat → Nat
  | 0 => 0
  | k + 1 => tot S k + (S k).size + 4

def SmallRes (e : Ending) (t : Nat) : Prop := ∃ b, e = .returned (.bool b) ∧ (b = true → t ≤ 2000)
set_option maxHeartbeats 1000000 in
theorem small_any (a : Option Addr) (len cap : Nat) (K N : Nat → Int) (S : Nat → ByteArray) (w : World) (h : Items w a len K N S) (hS : ∀ i, i < len → (S i).size ≤ 9223372036854775807) (hlen : len ≤ cap) (hcap : cap ≤ 9223372036854775807) :
    Calls Try.prog 7 #[.slice a len cap] w fun e w' => SmallRes e (tot S len) ∧ Ch (fun _ => False) w w' := by
  go_enter Try.func7, Try.ntmps7
  go_wp2
  go_loopw [3, 4] (fun n i wr => ∃ (k : Nat) (m : Int), k ≤ len ∧ i = .int .i64 k ∧ n = .int .i64 m ∧ 0 ≤ m ∧ m ≤ 1099511627776 ∧ (m ≤ 2000 → m = tot S k) ∧ Ch (fun _ => False) w wr) (fun _ i _ => len - (intOf i).toNat)
  case atStart => exact ⟨0, 0, Nat.zero_le _, rfl, rfl, by omega, by omega, fun _ => rfl, Ch.refl _ _⟩
  case round =>
    obtain ⟨k, m, hk, rfl, rfl, hm0, hm1, hmt, hcr⟩ := hrel
    by_cases hlt : k < len
    · by_cases hm2 : m ≤ 2000
      · obtain ⟨b, off, rfl, hc⟩ := (h.keep hcr) (by omega)
        obtain ⟨c0, c1, c2⟩ := hc k hlt
        have hs := hS k hlt
        have t1 : decide ((k : Int) < (len : Int)) = true := by simp; omega
        have hmt := hmt hm2
        have HM : Hid (m = (tot S k : Int)) := hmt
        clear hmt hc
        generalize hsz : (S k).size = z at *
        have HZ : Hid ((S k).size = z) := hsz
        go_wp2_with fail
        refine (sum_any m z wr.heap.size _ hm0 hm2 (by omega) (by omega) (by simp) (by simp)).mono ?_
        rintro e w2 ⟨⟨m2, rfl, hx0, hx1, hx2⟩, hw2⟩
        have hw2 := hw2.symm
        subst hw2
        have HX : Hid (m2 ≤ 2000 → m2 = m + z + 4) := hx2
        clear hx2
        go_wp2
        go_roundw
        case rel =>
          refine ⟨k + 1, m2, by omega, by go_num, rfl, hx0, hx1, fun hh => ?_, hcr.alloc _⟩
          have e1 := HX.out hh
          have e2 := HM.out
          have e3 := HZ.out
          simp only [tot]
          omega
        case measure => simp [intOf]; omega
      · have t1 : decide ((k : Int) < (len : Int)) = true := by simp; omega
        have t2 : decide (m ≤ 2000) = false := by simp; omega
        clear hmt
        go_wp2
        go_ret
        exact ⟨⟨false, rfl, by simp⟩, hcr⟩
    · obtain rfl : k = len := by omega
      have t1 : decide ((k : Int) < (k : Int)) = false := by simp
      have HM : Hid (m ≤ 2000 → m = (tot S k : Int)) := hmt
      clear hmt
      go_wp2
      go_ret
      refine ⟨⟨decide (m ≤ 2000), rfl, fun hb => ?_⟩, hcr⟩
      have h2 : m ≤ 2000 := of_decide_eq_true hb
      have h3 := HM.out h2
      omega

/-- What an item is written as. -/
def itemB (k n : Int) (s : ByteArray) : List Int := if k = 1 then be n 1 else if k = 2 then be n 2 else if k = 3 then be n 4 else if k = 4 then be s.size 2 ++ sb s else []
def itemOk (k n : Int) (s : ByteArray) : Bool := if k = 1 then inR 0 255 n else if k = 2 then inR 0 65535 n else if k = 3 then inR (-2147483648) 2147483647 n else if k = 4 then decide (s.size ≤ 65535) else true

theorem Wt.append {w w1 : World} {r : Nat} {v v1 : Value} {bs news : List Int} (hw : Wt w r v bs false) (hown1 : w1.ownsRow 0 5 1 v1 (bs.length + news.length) (bs.map (Value.int .u8) ++ news.map (Value.int .u8))) (hgrow : w.grownBy w1 v.ownBlock) (hl : bs.length + news.length ≤ 140737488355328) :
    Wt (w1.setCell ⟨r, 0, none⟩ v1) r v1 (bs ++ news) false := by
  have hb : w1.heap[r]? = some (.cells #[v, .bool false] 27 (0, 0)) := (hgrow.block r hw.lt (Ne.symm hw.ne)).trans hw.blk
  have hne : v1.ownBlock ≠ some r := by
    intro e
    rcases hown1.2 with ⟨hv, _⟩ | ⟨g, cap, cur, hv, hg, hh, _⟩
    · rw [hv] at e; cases e
    · rw [hv] at e
      have : g = r := by simpa [Value.ownBlock] using e
      subst this
      rw [hb] at hh
      simp at hh
  refine ⟨?_, ?_, by simpa using hl⟩
  · simp [World.setCell, Array.getElem?_modify, hb]
  · rw [List.length_append, List.map_append]
    exact ownsRow_same hown1 (fun g hg => Below.heap_setCell _ _ _ _ (fun e => hne (by rw [hg, e])))

set_option maxHeartbeats 1000000 in
theorem wtext_any (s : ByteArray) (r : Nat) (v0 : Value) (bs : List Int) (b : Bool) (w : World) (h : Wt w r v0 bs b) (hl : bs.length + s.size + 2 ≤ 140737488355328) :
    Calls Try.prog 28 #[.pointer (some ⟨r, 0, none⟩), .string s] w fun e w' => e = .returned (.pointer (some ⟨r, 0, none⟩)) ∧ Wrote w w' r v0 (wroteB b (decide (s.size ≤ 65535)) bs (be s.size 2 ++ sb s)) (wroteF b (decide (s.size ≤ 65535))) := by
  obtain ⟨i0, hi, hz0, hz1, hz2⟩ := info_parts Try.info5
  have hn := wu2_any s.size r v0 bs b w h (by omega)
  have hin : inR 0 65535 (s.size : Int) = decide (s.size ≤ 65535) := by simp [inR]; omega
  rw [hin] at hn
  go_enter Try.func28, Try.ntmps28
  go_wp2_with fail
  refine hn.mono ?_
  rintro e w1 ⟨rfl, v1, h1, hc1, hg1⟩
  go_wp2_with fail
  refine (bad_any r v1 _ _ _ h1).mono ?_
  rintro e w2 ⟨rfl, hw2⟩
  have hw2 := hw2.symm
  subst hw2
  by_cases hb : wroteF b (decide (s.size ≤ 65535)) = true
  · rw [hb] at h1 ⊢
    go_wp2
    go_ret
    refine ⟨rfl, v1, ?_, hc1, hg1⟩
    rw [hb]
    cases b with
    | true => simpa [wroteB] using h1
    | false =>
      have : decide (s.size ≤ 65535) = false := by simpa [wroteF] using hb
      rw [this] at h1 ⊢
      simpa [wroteB] using h1
  · have hb2 : wroteF b (decide (s.size ≤ 65535)) = false := by simpa using hb
    have hbf : b = false ∧ decide (s.size ≤ 65535) = true := by simpa [wroteF] using hb2
    obtain ⟨rfl, hd⟩ := hbf
    rw [hd] at h1 ⊢
    have e1 : wroteB false true bs (be s.size 2) = bs ++ be s.size 2 := rfl
    have e2 : wroteF false true = false := rfl
    rw [e1, e2] at h1
    rw [e2]
    have c0 := h1.c0
    have cf := h1.fz 0
    have hrl := h1.lt
    have hown1 := h1.own
    obtain ⟨L, hL⟩ : ∃ L, (bs ++ be s.size 2).length = L := ⟨_, rfl⟩
    rw [hL] at hown1
    have hL2 : L = bs.length + 2 := by rw [← hL]; simp [be]
    have hL3 : L + s.size ≤ 140737488355328 := by omega
    have HL : Hid ((bs ++ be s.size 2).length = L) := hL
    clear hL hL2
    go_wp2_with (first | (at_builtin; refine wpList_append_string_at rfl (.tmp 15) (.tmp 16) 25 9 rfl 0 5 i0 Try.underlying25 Try.underlying9 hi hz0 hz1 hz2 v1 L _ rfl hown1 s rfl (by unfold maxLen; omega) hL3 (Nat.zero_le _) ?_; intro v2 w2 hown2 hgrow hat; obtain ⟨ao2, c2, rfl⟩ := own_form hown2; have hcc := (hgrow.cell_far ⟨r, 0, none⟩ hrl (Ne.symm h1.ne)).trans c0; have hff := (hgrow.frozen_far ⟨r, 0, none⟩ hrl (Ne.symm h1.ne)).trans cf))
    go_ret
    have hl2 : (bs ++ be s.size 2).length + (sb s).length ≤ 140737488355328 := by rw [sb_length]; simp [be]; omega
    rw [← sb_cells] at hown2
    have R := h1.append (v1 := .slice ao2 (L + s.size) c2) (news := sb s) (by rw [sb_length, HL.out]; exact hown2) hgrow hl2
    refine ⟨rfl, .slice ao2 (L + s.size) c2, ?_, ?_, ?_⟩
    · have e3 : wroteB false true bs (be s.size 2 ++ sb s) = bs ++ be s.size 2 ++ sb s := by simp [wroteB]
      rw [hd, e3, e2]; exact R
    · exact Ch.setCell (S := fun b => b = r ∨ v0.ownBlock = some b) (hc1.grown hgrow (fun k hk => (hg1 k hk).imp Or.inr id)) (Or.inl (Or.inl rfl)) _
    · intro g hgg
      rcases hat with hat | hat
      · exact hg1 g (by rw [← hat]; exact hgg)
      · rw [hat] at hgg
        have : w1.heap.size = g := by simpa using hgg
        have := hc1.size
        exact Or.inr (by omega)


theorem wtext_nil (s : ByteArray) (w : World) : Calls Try.prog 28 #[.pointer none, .string s] w fun e w' => e = .returned (.pointer none) ∧ w' = w := by
  go_enter Try.func28, Try.ntmps28
  go_wp2_with fail
  refine (wu2_nil _ _).mono ?_
  rintro e w' ⟨rfl, rfl⟩
  go_wp2_with fail
  refine (bad_nil _).mono ?_
  rintro e w' ⟨rfl, rfl⟩
  go_wp2
  go_ret
  exact ⟨rfl, rfl⟩

theorem Wrote.from_alloc {w w' : World} {o : Obj} {r : Nat} {v0 : Value} {bs : List Int} {b : Bool} (h : Wrote (w.alloc o) w' r v0 bs b) : Wrote w w' r v0 bs b := by
  obtain ⟨v, h1, h2, h3⟩ := h
  refine ⟨v, h1, ?_, fun g hg => ?_⟩
  · have := ((Ch.refl (fun b => b = r ∨ v0.ownBlock = some b) w).alloc o).trans h2
    exact this
  · rcases h3 g hg with h | h
    · exact Or.inl h
    · simp at h; exact Or.inr (by omega)

set_option maxHeartbeats 2000000 in
theorem write_any (k n : Int) (s : ByteArray) (r : Nat) (v0 : Value) (bs : List Int) (b : Bool) (w : World) (h : Wt w r v0 bs b) (hl : bs.length + s.size + 4 ≤ 140737488355328) :
    Calls Try.prog 9 #[.pointer (some ⟨r, 0, none⟩), .agg #[.int .i64 k, .int .i64 n, .string s]] w fun e w' => e = .returned (.pointer (some ⟨r, 0, none⟩)) ∧ Wrote w w' r v0 (wroteB b (itemOk k n s) bs (itemB k n s)) (wroteF b (itemOk k n s)) := by
  have ha := h.alloc (.cells #[.int .i64 k, .int .i64 n, .string s] 31)
  by_cases k1 : k = 1
  · subst k1
    have hn := wu1_any n r v0 bs b _ ha (by omega)
    have e1 : itemOk 1 n s = inR 0 255 n := by simp [itemOk]
    have e2 : itemB 1 n s = be n 1 := by simp [itemB]
    rw [e1, e2]
    clear e1 e2
    go_enter Try.func9, Try.ntmps9
    go_wp2_with fail
    refine hn.mono ?_
    rintro e w1 ⟨rfl, h1⟩
    go_wp2
    go_ret
    exact ⟨rfl, h1.from_alloc⟩
  by_cases k2 : k = 2
  · subst k2
    have hn := wu2_any n r v0 bs b _ ha (by omega)
    have e1 : itemOk 2 n s = inR 0 65535 n := by simp [itemOk]
    have e2 : itemB 2 n s = be n 2 := by simp [itemB]
    rw [e1, e2]
    clear e1 e2
    go_enter Try.func9, Try.ntmps9
    go_wp2_with fail
    refine hn.mono ?_
    rintro e w1 ⟨rfl, h1⟩
    go_wp2
    go_ret
    exact ⟨rfl, h1.from_alloc⟩
  by_cases k3 : k = 3
  · subst k3
    have hn := wi4_any n r v0 bs b _ ha (by omega)
    have e1 : itemOk 3 n s = inR (-2147483648) 2147483647 n := by simp [itemOk]
    have e2 : itemB 3 n s = be n 4 := by simp [itemB]
    rw [e1, e2]
    clear e1 e2
    go_enter Try.func9, Try.ntmps9
    go_wp2_with fail
    refine hn.mono ?_
    rintro e w1 ⟨rfl, h1⟩
    go_wp2
    go_ret
    exact ⟨rfl, h1.from_alloc⟩
  by_cases k4 : k = 4
  · subst k4
    have hn := wtext_any s r v0 bs b _ ha (by omega)
    have e1 : itemOk 4 n s = decide (s.size ≤ 65535) := by simp [itemOk]
    have e2 : itemB 4 n s = be s.size 2 ++ sb s := by simp [itemB]
    rw [e1, e2]
    clear e1 e2
    go_enter Try.func9, Try.ntmps9
    go_wp2_with fail
    refine hn.mono ?_
    rintro e w1 ⟨rfl, h1⟩
    go_wp2
    go_ret
    exact ⟨rfl, h1.from_alloc⟩
  have q1 : (k == 1) = false := by simp [k1]
  have q2 : (k == 2) = false := by simp [k2]
  have q3 : (k == 3) = false := by simp [k3]
  have q4 : (k == 4) = false := by simp [k4]
  have e1 : itemOk k n s = true := by simp [itemOk, k1, k2, k3, k4]
  have e2 : itemB k n s = [] := by simp [itemB, k1, k2, k3, k4]
  rw [e1, e2]
  clear e1 e2 k1 k2 k3 k4
  go_enter Try.func9, Try.ntmps9
  go_wp2
  go_ret
  refine ⟨rfl, v0, ?_, (Ch.refl _ _).alloc _, fun g hg => Or.inl hg⟩
  cases b with
  | true => simpa [wroteB, wroteF] using ha
  | false => simpa [wroteB, wroteF] using ha

set_option maxHeartbeats 2000000 in
theorem write_nil (k n : Int) (s : ByteArray) (w : World) :
    Calls Try.prog 9 #[.pointer none, .agg #[.int .i64 k, .int .i64 n, .string s]] w fun e w' => e = .returned (.pointer none) ∧ Ch (fun _ => False) w w' := by
  by_cases k1 : k = 1
  · subst k1
    go_enter Try.func9, Try.ntmps9
    go_wp2_with fail
    refine (wu1_nil _ _).mono ?_
    rintro e w1 ⟨rfl, rfl⟩
    go_wp2
    go_ret
    exact ⟨rfl, (Ch.refl _ _).alloc _⟩
  by_cases k2 : k = 2
  · subst k2
    go_enter Try.func9, Try.ntmps9
    go_wp2_with fail
    refine (wu2_nil _ _).mono ?_
    rintro e w1 ⟨rfl, rfl⟩
    go_wp2
    go_ret
    exact ⟨rfl, (Ch.refl _ _).alloc _⟩
  by_cases k3 : k = 3
  · subst k3
    go_enter Try.func9, Try.ntmps9
    go_wp2_with fail
    refine (wi4_nil _ _).mono ?_
    rintro e w1 ⟨rfl, rfl⟩
    go_wp2
    go_ret
    exact ⟨rfl, (Ch.refl _ _).alloc _⟩
  by_cases k4 : k = 4
  · subst k4
    go_enter Try.func9, Try.ntmps9
    go_wp2_with fail
    refine (wtext_nil _ _).mono ?_
    rintro e w1 ⟨rfl, rfl⟩
    go_wp2
    go_ret
    exact ⟨rfl, (Ch.refl _ _).alloc _⟩
  have q1 : (k == 1) = false := by simp [k1]
  have q2 : (k == 2) = false := by simp [k2]
  have q3 : (k == 3) = false := by simp [k3]
  have q4 : (k == 4) = false := by simp [k4]
  clear k1 k2 k3 k4
  go_enter Try.func9, Try.ntmps9
  go_wp2
  go_ret
  exact ⟨rfl, (Ch.refl _ _).alloc _⟩

/-- The bytes of an item, as the law's own function tells them. -/
def Bytes (w w' : World) (e : Ending) (bs : List Int) (ok : Bool) : Prop := ∃ v, e = .returned (.tuple #[v, .bool ok]) ∧ w'.ownsRow w.heap.size 5 1 v bs.length (bs.map (Value.int .u8)) ∧ Ch (fun _ => False) w w'

theorem Bytes.mk {w w1 : World} {o : Obj} {v1 : Value} {bs : List Int} {ok ok' : Bool} {size : Nat} (hl : bs.length = size) (hown : w1.ownsRow (w.alloc o).heap.size 5 1 v1 size (bs.map (Value.int .u8))) (hch : Ch (fun _ => False) (w.alloc o).drew w1) (hok : ok' = ok) (nq : Nat) :
    Bytes w (w1.drewN nq) (.returned (.tuple #[v1, .bool ok'])) bs ok := by
  subst hok
  refine ⟨v1, rfl, ?_, ?_⟩
  · rw [hl]
    have : w1.ownsRow w.heap.size 5 1 v1 size (bs.map (Value.int .u8)) := ownsRow_base hown (by simp)
    exact this
  · exact (((((Ch.refl (fun _ => False) w).alloc o).drew).chain hch (fun _ _ x => x))).drewN nq

set_option maxHeartbeats 2000000 in
theorem bytesI_1 (n : Int) (s : ByteArray) (w : World) :
    Calls Try.prog 10 #[.agg #[.int .i64 1, .int .i64 n, .string s]] w fun e w' => Bytes w w' e (be n 1) (inR 0 255 n) := by
  by_cases hn : 0 ≤ n
  · have t1 : decide (0 ≤ n) = true := by simp [hn]
    go_enter Try.func10, Try.ntmps10
    go_wp2
    go_region_held (fun w' => w'.cell? ⟨w.heap.size, 1, none⟩ = some (.int .i64 n)) (first | go_keep | (simp [World.cell?, hb1])) (first
      | (go_at_call 29; refine (u_any n 1 1 _ (by omega) rfl).mono ?_; rintro e w1 ⟨v1, rfl, hown, hch⟩; have hb1 := (hch.block w.heap.size (by simp) (fun x => x)).trans (heap_alloc_new w _)))
    go_wp2
    go_ret2
    exact Bytes.mk (nq := 0) (by simp [be]) hown hch (by rw [Bool.eq_iff_iff]; simp only [inR, Bool.and_eq_true, decide_eq_true_eq]; omega)
  · have t1 : decide (0 ≤ n) = false := by simp [hn]
    go_enter Try.func10, Try.ntmps10
    go_wp2
    first | (go_region_with (first
      | (go_at_call 29; refine (u_any n 1 1 _ (by omega) rfl).mono ?_; rintro e w1 ⟨v1, rfl, hown, hch⟩; have hb1 := (hch.block w.heap.size (by simp) (fun x => x)).trans (heap_alloc_new w _); have hb2 : w1.cell? ⟨w.heap.size, 1, none⟩ = some (.int .i64 n) := by simp [World.cell?, hb1]))) | fail
    all_goals
      go_wp2
      go_ret2
      exact Bytes.mk (nq := 0) (by simp [be]) hown hch (by rw [Bool.eq_iff_iff]; simp [inR]; omega)

set_option maxHeartbeats 2000000 in
theorem bytesI_2 (n : Int) (s : ByteArray) (w : World) :
    Calls Try.prog 10 #[.agg #[.int .i64 2, .int .i64 n, .string s]] w fun e w' => Bytes w w' e (be n 2) (inR 0 65535 n) := by
  by_cases hn : 0 ≤ n
  · have t1 : decide (0 ≤ n) = true := by simp [hn]
    go_enter Try.func10, Try.ntmps10
    go_wp2
    go_region_held (fun w' => w'.cell? ⟨w.heap.size, 1, none⟩ = some (.int .i64 n)) (first | go_keep | (simp [World.cell?, hb1])) (first
      | (go_at_call 29; refine (u_any n 2 2 _ (by omega) rfl).mono ?_; rintro e w1 ⟨v1, rfl, hown, hch⟩; have hb1 := (hch.block w.heap.size (by simp) (fun x => x)).trans (heap_alloc_new w _)))
    go_wp2
    go_ret2
    exact Bytes.mk (nq := 0) (by simp [be]) hown hch (by rw [Bool.eq_iff_iff]; simp only [inR, Bool.and_eq_true, decide_eq_true_eq]; omega)
  · have t1 : decide (0 ≤ n) = false := by simp [hn]
    go_enter Try.func10, Try.ntmps10
    go_wp2
    first | (go_region_with (first
      | (go_at_call 29; refine (u_any n 2 2 _ (by omega) rfl).mono ?_; rintro e w1 ⟨v1, rfl, hown, hch⟩; have hb1 := (hch.block w.heap.size (by simp) (fun x => x)).trans (heap_alloc_new w _); have hb2 : w1.cell? ⟨w.heap.size, 1, none⟩ = some (.int .i64 n) := by simp [World.cell?, hb1]))) | fail
    all_goals
      go_wp2
      go_ret2
      exact Bytes.mk (nq := 0) (by simp [be]) hown hch (by rw [Bool.eq_iff_iff]; simp [inR]; omega)

set_option maxHeartbeats 2000000 in
theorem bytesI_3 (n : Int) (s : ByteArray) (w : World) :
    Calls Try.prog 10 #[.agg #[.int .i64 3, .int .i64 n, .string s]] w fun e w' => Bytes w w' e (be n 4) (inR (-2147483648) 2147483647 n) := by
  by_cases hn : (-2147483648) ≤ n
  · have t1 : decide ((-2147483648) ≤ n) = true := by simp [hn]
    go_enter Try.func10, Try.ntmps10
    go_wp2
    go_region_held (fun w' => w'.cell? ⟨w.heap.size, 1, none⟩ = some (.int .i64 n)) (first | go_keep | (simp [World.cell?, hb1])) (first
      | (go_at_call 29; refine (u_any n 4 4 _ (by omega) rfl).mono ?_; rintro e w1 ⟨v1, rfl, hown, hch⟩; have hb1 := (hch.block w.heap.size (by simp) (fun x => x)).trans (heap_alloc_new w _)))
    go_wp2
    go_ret2
    exact Bytes.mk (nq := 0) (by simp [be]) hown hch (by rw [Bool.eq_iff_iff]; simp only [inR, Bool.and_eq_true, decide_eq_true_eq]; omega)
  · have t1 : decide ((-2147483648) ≤ n) = false := by simp [hn]
    go_enter Try.func10, Try.ntmps10
    go_wp2
    first | (go_region_with (first
      | (go_at_call 29; refine (u_any n 4 4 _ (by omega) rfl).mono ?_; rintro e w1 ⟨v1, rfl, hown, hch⟩; have hb1 := (hch.block w.heap.size (by simp) (fun x => x)).trans (heap_alloc_new w _); have hb2 : w1.cell? ⟨w.heap.size, 1, none⟩ = some (.int .i64 n) := by simp [World.cell?, hb1]))) | fail
    all_goals
      go_wp2
      go_ret2
      exact Bytes.mk (nq := 0) (by simp [be]) hown hch (by rw [Bool.eq_iff_iff]; simp [inR]; omega)

set_option maxHeartbeats 2000000 in
theorem bytesI_4 (n : Int) (s : ByteArray) (w : World) (hs : s.size ≤ 140737488355320) :
    Calls Try.prog 10 #[.agg #[.int .i64 4, .int .i64 n, .string s]] w fun e w' => Bytes w w' e (be s.size 2 ++ sb s) (decide (s.size ≤ 65535)) := by
  go_enter Try.func10, Try.ntmps10
  go_wp2
  go_region_held (fun w' => w'.cell? ⟨w.heap.size, 2, none⟩ = some (.string s)) (first | go_keep | (simp [World.cell?, hb1])) (first
    | (go_at_call 30; refine (refText_any s _ hs).mono ?_; rintro e w1 ⟨v1, rfl, hown, hch⟩; have hb1 := (hch.block w.heap.size (by simp) (fun x => x)).trans (heap_alloc_new w _)))
  go_wp2
  go_ret2
  exact Bytes.mk (nq := 0) (by rw [List.length_append, sb_length]; simp [be]; omega) hown hch (by simp; omega)

theorem bytesI_0 (k n : Int) (s : ByteArray) (w : World) (k1 : ¬ k = 1) (k2 : ¬ k = 2) (k3 : ¬ k = 3) (k4 : ¬ k = 4) :
    Calls Try.prog 10 #[.agg #[.int .i64 k, .int .i64 n, .string s]] w fun e w' => Bytes w w' e [] true := by
  have q1 : (k == 1) = false := by simp [k1]
  have q2 : (k == 2) = false := by simp [k2]
  have q3 : (k == 3) = false := by simp [k3]
  have q4 : (k == 4) = false := by simp [k4]
  clear k1 k2 k3 k4
  go_enter Try.func10, Try.ntmps10
  go_wp2
  go_ret2
  exact ⟨.slice none 0 0, rfl, World.ownsRow_nil _ _ _ _, (Ch.refl _ _).alloc _⟩

theorem bytesI_any (k n : Int) (s : ByteArray) (w : World) (hs : s.size ≤ 140737488355320) :
    Calls Try.prog 10 #[.agg #[.int .i64 k, .int .i64 n, .string s]] w fun e w' => Bytes w w' e (itemB k n s) (itemOk k n s) := by
  by_cases k1 : k = 1
  · subst k1; simpa [itemB, itemOk] using bytesI_1 n s w
  by_cases k2 : k = 2
  · subst k2; simpa [itemB, itemOk] using bytesI_2 n s w
  by_cases k3 : k = 3
  · subst k3; simpa [itemB, itemOk] using bytesI_3 n s w
  by_cases k4 : k = 4
  · subst k4; simpa [itemB, itemOk] using bytesI_4 n s w hs
  simpa [itemB, itemOk, k1, k2, k3, k4] using bytesI_0 k n s w k1 k2 k3 k4

end Go.Proofs.Ytgjddpfijnmeeaa
