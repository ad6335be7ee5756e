/- The contracts of the writer's numbers. -/
import Derived.Test.YtgjddpfijnmeeaaWrite
import Derived.Deep.RegionLaw
namespace Go.Proofs.Ytgjddpfijnmeeaa
open Go.RowKit
attribute [local go_sem ↓] Go.wp_at_zero Go.wp_at_succ

/-- The last k bytes of a number, the greatest first. -/
def be (n : Int) : Nat → List Int
  | 0 => []
  | k + 1 => (n / 256 ^ k % 256) :: be n k

theorem byte_at (n : Int) (j : Nat) : IntKind.u8.wrap (n / 2 ^ (8 * (j : Int)).toNat) = n / 256 ^ j % 256 := by
  have e : (8 * (j : Int)).toNat = 8 * j := by omega
  rw [IntKind.wrap_u8, e, Int.pow_mul]
  rfl
theorem wrap8 (j : Nat) (hj : j ≤ 3) : IntKind.i64.wrap (8 * (j : Int)) = 8 * (j : Int) := by
  rw [IntKind.wrap_i64]; omega

theorem wnumber_nil (n lo hi size : Int) (w : World) : Calls Try.prog 33 #[.pointer none, .int .i64 n, .int .i64 lo, .int .i64 hi, .int .i64 size] w fun e w' => e = .returned (.pointer none) ∧ w' = w := by
  go_enter Try.func33, Try.ntmps33
  go_wp2_with fail
  refine (bad_nil _).mono ?_
  rintro e w' ⟨rfl, rfl⟩
  go_wp2
  go_ret
  exact ⟨rfl, rfl⟩

theorem wnumber_bad (n lo hi size : Int) (r : Nat) (v : Value) (bs : List Int) (w : World) (h : Wt w r v bs true) : Calls Try.prog 33 #[.pointer (some ⟨r, 0, none⟩), .int .i64 n, .int .i64 lo, .int .i64 hi, .int .i64 size] w fun e w' => e = .returned (.pointer (some ⟨r, 0, none⟩)) ∧ w' = w := by
  go_enter Try.func33, Try.ntmps33
  go_wp2_with fail
  refine (bad_any r v bs true _ h).mono ?_
  rintro e w' ⟨rfl, rfl⟩
  go_wp2
  go_ret
  exact ⟨rfl, rfl⟩

theorem Wt.spoil {w : World} {r : Nat} {v : Value} {bs : List Int} {b : Bool} (h : Wt w r v bs b) : Wt ((w.setCell ⟨r, 0, none⟩ (.slice none 0 0)).setCell ⟨r, 1, none⟩ (.bool true)) r (.slice none 0 0) [] true := by
  refine ⟨?_, World.ownsRow_nil _ _ _ _, by simp⟩
  simp [World.setCell, Array.getElem?_modify, h.blk]

theorem wnumber_out (n lo hi size : Int) (r : Nat) (v : Value) (bs : List Int) (w : World) (h : Wt w r v bs false) (hr : n < lo ∨ hi < n) : Calls Try.prog 33 #[.pointer (some ⟨r, 0, none⟩), .int .i64 n, .int .i64 lo, .int .i64 hi, .int .i64 size] w fun e w' => e = .returned (.pointer (some ⟨r, 0, none⟩)) ∧ Wt w' r (.slice none 0 0) [] true ∧ Ch (· = r) w w' := by
  have c0 := h.c0
  have c1 := h.c1
  have cf := h.fz 0
  have cf1 := h.fz 1
  rcases hr with hr | hr
  all_goals
    go_enter Try.func33, Try.ntmps33
    go_wp2_with fail
    refine (bad_any r v bs false _ h).mono ?_
    rintro e w' ⟨rfl, hw'⟩
    have hw' := hw'.symm
    subst hw'
    go_wp2
    all_goals
      go_ret
      exact ⟨rfl, h.spoil, Ch.setCell (S := (· = r)) (Ch.setCell (S := (· = r)) (Ch.refl _ _) (Or.inl rfl) _) (Or.inl rfl) _⟩

theorem Wt.push {wr w1 : World} {o : Obj} {r g1 cap1 : Nat} {v : Value} {bs : List Int} {m : Int} (hw : Wt wr r v bs false)
    (hown1 : w1.ownsRow 0 5 1 (.slice (some ⟨g1, 0, none⟩) (bs.length + 1) cap1) (bs.length + 1) (bs.map (Value.int .u8) ++ [.int .u8 m])) (hgrow : (wr.alloc o).drew.grownBy w1 v.ownBlock) (hl : bs.length + 1 ≤ 140737488355328) :
    Wt (w1.setCell ⟨r, 0, none⟩ (.slice (some ⟨g1, 0, none⟩) (bs.length + 1) cap1)) r (.slice (some ⟨g1, 0, none⟩) (bs.length + 1) cap1) (bs ++ [m]) false := by
  have hb : w1.heap[r]? = some (.cells #[v, .bool false] 27 (0, 0)) := by
    rw [hgrow.block r (by have := hw.lt; simp; omega) (Ne.symm hw.ne)]
    exact (Below.heap_alloc wr o r hw.lt).trans hw.blk
  have hne : g1 ≠ r := by
    rintro rfl
    rcases hown1.2 with ⟨hv, _⟩ | ⟨g, cap, cur, hv, hg, hh, _⟩
    · cases hv
    · have : g1 = g ∧ cap1 = cap := by simpa using hv
      obtain ⟨rfl, rfl⟩ := this
      rw [hb] at hh
      simp at hh
  refine ⟨?_, ?_, by simpa using hl⟩
  · simp [World.setCell, Array.getElem?_modify, hb]
  · have e : (bs ++ [m]).length = bs.length + 1 := by simp
    have e2 : (bs ++ [m]).map (Value.int .u8) = bs.map (Value.int .u8) ++ [.int .u8 m] := by simp
    rw [e, e2]
    refine ownsRow_same hown1 (fun g hg => Below.heap_setCell _ _ _ _ ?_)
    have e3 : g1 = g := by simpa [Value.ownBlock] using hg
    exact e3 ▸ hne

set_option maxHeartbeats 1000000 in
theorem wnumber_ok (n lo hi : Int) (size : Nat) (r : Nat) (v0 : Value) (bs : List Int) (w : World) (h : Wt w r v0 bs false) (h1 : lo ≤ n) (h2 : n ≤ hi) (hs : size ≤ 4) (hl : bs.length + size ≤ 140737488355328) :
    Calls Try.prog 33 #[.pointer (some ⟨r, 0, none⟩), .int .i64 n, .int .i64 lo, .int .i64 hi, .int .i64 size] w fun e w' => e = .returned (.pointer (some ⟨r, 0, none⟩)) ∧ ∃ v, Wt w' r v (bs ++ be n size) false ∧ Ch (fun b => b = r ∨ v0.ownBlock = some b) w w' ∧ (∀ g, v.ownBlock = some g → v0.ownBlock = some g ∨ w.heap.size ≤ g) := by
  obtain ⟨i0, hi0, hz0, hz1, hz2⟩ := info_parts Try.info5
  have t1 : decide (n < lo) = false := by simp; omega
  have t2 : decide (hi < n) = false := by simp; omega
  go_enter Try.func33, Try.ntmps33
  go_wp2_with fail
  refine (bad_any r v0 bs false _ h).mono ?_
  rintro e w' ⟨rfl, hw'⟩
  have hw' := hw'.symm
  subst hw'
  go_wp2
  go_loopw [11] (fun i wr => ∃ (k : Nat) (q : Int) (v : Value) (ws : List Int), k ≤ size ∧ q + 1 = k ∧ i = .int .i64 q ∧ Wt wr r v (bs ++ ws) false ∧ ws ++ be n k = be n size ∧ ws.length + k = size ∧ Ch (fun b => b = r ∨ v0.ownBlock = some b) w wr ∧ (∀ g, v.ownBlock = some g → v0.ownBlock = some g ∨ w.heap.size ≤ g)) (fun i _ => (intOf i + 1).toNat)
  case atStart => exact ⟨size, (size : Int) - 1, v0, [], Nat.le_refl _, by omega, rfl, by simpa using h, rfl, by simp, Ch.refl _ _, fun g hg => Or.inl hg⟩
  case round =>
    obtain ⟨k, q, v, ws, hk, hq, rfl, hw, hbe, hwl, hch, hg⟩ := hrel
    match k, hk, hq, hbe, hwl with
    | 0, hk, hq, hbe, hwl =>
      obtain rfl : q = -1 := by omega
      go_wp2
      go_ret
      simp [be] at hbe
      subst hbe
      exact ⟨rfl, v, hw, hch, hg⟩
    | j + 1, hk, hq, hbe, hwl =>
      obtain rfl : q = (j : Int) := by omega
      have c0 := hw.c0
      have cf := hw.fz 0
      obtain ⟨m, hm⟩ : ∃ m, n / 256 ^ j % 256 = m := ⟨_, rfl⟩
      have hby := byte_at n j
      rw [hm] at hby
      have HM : Hid (n / 256 ^ j % 256 = m) := hm
      clear hm
      have hw8 := wrap8 j (by omega)
      have hj0 : (0 : Int) ≤ (j : Int) := Int.natCast_nonneg _
      have hrl := hw.lt
      have hfz1 : (wr.alloc (.cells #[.int .u8 m] 5)).drew.frozen? ⟨r, 0, none⟩ = false := (World.frozen?_alloc_old _ _ _ (Nat.ne_of_lt hrl)).trans cf
      have hcc1 : (wr.alloc (.cells #[.int .u8 m] 5)).drew.cell? ⟨r, 0, none⟩ = some v := (World.cell?_alloc_old _ _ _ (Nat.ne_of_lt hrl)).trans c0
      go_wp2
      go_region_law ((refine step_append_lies _ (by rfl) _ _ _ (by rfl) 0 5 i0 _ 1 1 Try.underlying25 hi0 hz0 hz1 hz2 rfl (by omega) v (bs ++ ws).length _ (by rfl) ((hw.own.alloc _).drew) ⟨wr.heap.size, 0, none⟩ 1 1 [.int .u8 m] (by rfl) (by rfl) (World.news_of_block (cs := #[.int .u8 m]) (t := 5) (fr := (0, 0)) (heap_alloc_new wr _)) (by simp [Value.oneCell']) (by omega) (by unfold maxLen; simp; omega) (by simp; omega) (by simp) (wr.heap.size + 1) (by simp) ?_; intro g1 cap1 w1 hown1 hgrow hat hlt; have hfz : w1.frozen? ⟨r, 0, none⟩ = false := (hgrow.frozen_far _ (by simp; omega) (Ne.symm hw.ne)).trans hfz1; have hcc : w1.cell? ⟨r, 0, none⟩ = some v := (hgrow.cell_far _ (by simp; omega) (Ne.symm hw.ne)).trans hcc1))
      all_goals
        have hwl1 : (bs ++ ws).length + 1 ≤ 140737488355328 := by simp; omega
        have R := hw.push hown1 hgrow hwl1
        clear hown1
        go_wp2
        go_roundw
        case rel =>
          refine ⟨j, (j : Int) - 1, _, ws ++ [m], by omega, by omega, rfl, by simpa using R, ?_, by simp; omega, ?_, ?_⟩
          · rw [← hbe, be, HM.out]; simp
          · exact Ch.setCell (S := fun b => b = r ∨ v0.ownBlock = some b) ((hch.alloc _).drew.grown hgrow (fun k hk => (hg k hk).imp Or.inr id)) (Or.inl (Or.inl rfl)) _
          · intro g hgg
            have e : g1 = g := by simpa [Value.ownBlock] using hgg
            subst e
            rcases hat with hat | hat
            · exact hg _ hat
            · have := hch.size; exact Or.inr (by omega)
        case measure => simp [intOf]


/-- The writer at r behind a call: its bytes, bad; what else may have turned. -/
def Wrote (w w' : World) (r : Nat) (v0 : Value) (bs : List Int) (b : Bool) : Prop :=
  ∃ v, Wt w' r v bs b ∧ Ch (fun b => b = r ∨ v0.ownBlock = some b) w w' ∧ (∀ g, v.ownBlock = some g → v0.ownBlock = some g ∨ w.heap.size ≤ g)
def inR (lo hi n : Int) : Bool := decide (lo ≤ n) && decide (n ≤ hi)
def wroteB (b ok : Bool) (bs news : List Int) : List Int := if b then bs else if ok then bs ++ news else []
def wroteF (b ok : Bool) : Bool := b || !ok

/-- A writer's number, in whatever state. -/
theorem wnumber_any (n lo hi : Int) (size : Nat) (r : Nat) (v0 : Value) (bs : List Int) (b : Bool) (w : World) (h : Wt w r v0 bs b) (hs : size ≤ 4) (hl : bs.length + size ≤ 140737488355328) :
    Calls Try.prog 33 #[.pointer (some ⟨r, 0, none⟩), .int .i64 n, .int .i64 lo, .int .i64 hi, .int .i64 size] w fun e w' => e = .returned (.pointer (some ⟨r, 0, none⟩)) ∧ Wrote w w' r v0 (wroteB b (inR lo hi n) bs (be n size)) (wroteF b (inR lo hi n)) := by
  cases b with
  | true => exact (wnumber_bad n lo hi size r v0 bs w h).mono fun e w' ⟨h1, h2⟩ => by subst h2; exact ⟨h1, v0, by simpa [wroteB, wroteF] using h, Ch.refl _ _, fun g hg => Or.inl hg⟩
  | false =>
    by_cases hr : lo ≤ n ∧ n ≤ hi
    · exact (wnumber_ok n lo hi size r v0 bs w h hr.1 hr.2 hs hl).mono fun e w' ⟨h1, v, h2, h3, h4⟩ => ⟨h1, v, by simpa [wroteB, wroteF, inR, hr] using h2, h3, h4⟩
    · have hf : inR lo hi n = false := by simp [inR]; omega
      exact (wnumber_out n lo hi size r v0 bs w h (by omega)).mono fun e w' ⟨h1, h2, h3⟩ => ⟨h1, .slice none 0 0, by simpa [wroteB, wroteF, hf] using h2, h3.mono (fun k _ hk => Or.inl hk), fun g hg => by cases hg⟩

theorem wu1_any (n : Int) (r : Nat) (v0 : Value) (bs : List Int) (b : Bool) (w : World) (h : Wt w r v0 bs b) (hl : bs.length + 1 ≤ 140737488355328) :
    Calls Try.prog 27 #[.pointer (some ⟨r, 0, none⟩), .int .i64 n] w fun e w' => e = .returned (.pointer (some ⟨r, 0, none⟩)) ∧ Wrote w w' r v0 (wroteB b (inR 0 255 n) bs (be n 1)) (wroteF b (inR 0 255 n)) := by
  have hn := wnumber_any n 0 255 1 r v0 bs b w h (by omega) hl
  go_enter Try.func27, Try.ntmps27
  go_wp2_with fail
  refine hn.mono ?_
  rintro e w' ⟨rfl, h1⟩
  go_wp2
  go_ret
  exact ⟨rfl, h1⟩

theorem wu1_nil (n : Int) (w : World) :
    Calls Try.prog 27 #[.pointer none, .int .i64 n] w fun e w' => e = .returned (.pointer none) ∧ w' = w := by
  go_enter Try.func27, Try.ntmps27
  go_wp2_with fail
  refine (wnumber_nil _ _ _ _ _).mono ?_
  rintro e w' ⟨rfl, rfl⟩
  go_wp2
  go_ret
  exact ⟨rfl, rfl⟩

theorem wu2_any (n : Int) (r : Nat) (v0 : Value) (bs : List Int) (b : Bool) (w : World) (h : Wt w r v0 bs b) (hl : bs.length + 2 ≤ 140737488355328) :
    Calls Try.prog 26 #[.pointer (some ⟨r, 0, none⟩), .int .i64 n] w fun e w' => e = .returned (.pointer (some ⟨r, 0, none⟩)) ∧ Wrote w w' r v0 (wroteB b (inR 0 65535 n) bs (be n 2)) (wroteF b (inR 0 65535 n)) := by
  have hn := wnumber_any n 0 65535 2 r v0 bs b w h (by omega) hl
  go_enter Try.func26, Try.ntmps26
  go_wp2_with fail
  refine hn.mono ?_
  rintro e w' ⟨rfl, h1⟩
  go_wp2
  go_ret
  exact ⟨rfl, h1⟩

theorem wu2_nil (n : Int) (w : World) :
    Calls Try.prog 26 #[.pointer none, .int .i64 n] w fun e w' => e = .returned (.pointer none) ∧ w' = w := by
  go_enter Try.func26, Try.ntmps26
  go_wp2_with fail
  refine (wnumber_nil _ _ _ _ _).mono ?_
  rintro e w' ⟨rfl, rfl⟩
  go_wp2
  go_ret
  exact ⟨rfl, rfl⟩

theorem wi4_any (n : Int) (r : Nat) (v0 : Value) (bs : List Int) (b : Bool) (w : World) (h : Wt w r v0 bs b) (hl : bs.length + 4 ≤ 140737488355328) :
    Calls Try.prog 24 #[.pointer (some ⟨r, 0, none⟩), .int .i64 n] w fun e w' => e = .returned (.pointer (some ⟨r, 0, none⟩)) ∧ Wrote w w' r v0 (wroteB b (inR (-2147483648) 2147483647 n) bs (be n 4)) (wroteF b (inR (-2147483648) 2147483647 n)) := by
  have hn := wnumber_any n (-2147483648) 2147483647 4 r v0 bs b w h (by omega) hl
  go_enter Try.func24, Try.ntmps24
  go_wp2_with fail
  refine hn.mono ?_
  rintro e w' ⟨rfl, h1⟩
  go_wp2
  go_ret
  exact ⟨rfl, h1⟩

theorem wi4_nil (n : Int) (w : World) :
    Calls Try.prog 24 #[.pointer none, .int .i64 n] w fun e w' => e = .returned (.pointer none) ∧ w' = w := by
  go_enter Try.func24, Try.ntmps24
  go_wp2_with fail
  refine (wnumber_nil _ _ _ _ _).mono ?_
  rintro e w' ⟨rfl, rfl⟩
  go_wp2
  go_ret
  exact ⟨rfl, rfl⟩

end Go.Proofs.Ytgjddpfijnmeeaa
