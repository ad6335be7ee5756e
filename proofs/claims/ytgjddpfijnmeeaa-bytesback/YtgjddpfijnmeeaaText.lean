/- The contracts of the reader's texts, of a nil reader, and of the document's own reading of numbers. -/
import Derived.Test.YtgjddpfijnmeeaaAwake
namespace Go.Proofs.Ytgjddpfijnmeeaa
open Go.RowKit
set_option linter.unusedVariables false

theorem u1_nil (w : World) : Calls Try.prog 16 #[.pointer none] w fun e w' => e = .returned (.int .i64 0) ∧ w' = w := by
  go_enter Try.func16, Try.ntmps16
  go_wp2_with fail
  have hn : Calls Try.prog 32 #[.pointer none, .int .i64 1] w fun e w' => e = .returned (.int .u32 0) ∧ w' = w := by
    go_enter Try.func32, Try.ntmps32
    go_wp2_with fail
    go_step3
    go_wp2
    rw [Exit.noGoto_ret]
    go_ret
    exact ⟨rfl, rfl⟩
  refine hn.mono ?_
  rintro e w' ⟨rfl, rfl⟩
  go_wp2
  go_ret
  exact ⟨rfl, rfl⟩
theorem text_nil (w : World) : Calls Try.prog 19 #[.pointer none] w fun e w' => e = .returned (.string ⟨#[]⟩) ∧ w' = w := by
  go_enter Try.func19, Try.ntmps19
  go_wp2_with fail
  go_step3
  go_wp2
  rw [Exit.noGoto_ret]
  go_ret
  exact ⟨rfl, rfl⟩
theorem err_nil (w : World) : Calls Try.prog 20 #[.pointer none] w fun e w' => e = .returned (.tuple #[.int .i64 0, .int .i64 0]) ∧ w' = w := by
  go_enter Try.func20, Try.ntmps20
  go_wp2
  go_ret2
  exact ⟨rfl, rfl⟩
theorem at_nil (w : World) : Calls Try.prog 21 #[.pointer none] w fun e w' => e = .returned (.int .i64 0) ∧ w' = w := by
  go_enter Try.func21, Try.ntmps21
  go_wp2
  go_ret
  exact ⟨rfl, rfl⟩
theorem left_nil (w : World) : Calls Try.prog 22 #[.pointer none] w fun e w' => e = .returned (.int .i64 0) ∧ w' = w := by
  go_enter Try.func22, Try.ntmps22
  go_wp2
  go_ret
  exact ⟨rfl, rfl⟩

theorem Rd.back {w : World} {r : Nat} {v : Value} {bs : List Int} {a : Nat} {f : Bool} (h : Rd w r v bs a f) (b : Nat) (hb : b ≤ bs.length) :
    Rd ((w.setCell ⟨r, 1, none⟩ (.int .i64 b)).setCell ⟨r, 2, none⟩ (.bool true)) r v bs b true := (h.set1 b hb).set2 true

set_option maxHeartbeats 1000000 in
/-- No length can be read. -/
theorem text_fail1 (r : Nat) (v : Value) (bs : List Int) (a : Nat) (f : Bool) (w : World) (h : Rd w r v bs a f) (hs : (if f then 0 else (bs.length : Int) - a) < 2) :
    Calls Try.prog 19 #[.pointer (some ⟨r, 0, none⟩)] w fun e w' => e = .returned (.string ⟨#[]⟩) ∧ Rd w' r v bs a true ∧ Ch (· = r) w w' := by
  have c1 := h.c1
  have hn := u2_fail r v bs a f w h hs
  clear hs
  go_enter Try.func19, Try.ntmps19
  go_wp2_with fail
  refine wp_scope_once 0 (by rfl) ?_
  go_wp2_with fail
  refine hn.mono ?_
  rintro e w1 ⟨rfl, h1, hc⟩
  have d1 := h1.c1
  have d2 := h1.c2
  have f1 := h1.fz 1
  have f2 := h1.fz 2
  go_wp2_with fail
  go_step3
  refine And.intro rfl ?_
  change Code.wp Try.prog _ _ _ _
  go_wp2
  rw [Exit.noGoto_ret]
  go_ret
  exact ⟨rfl, h1.back a h.le, Ch.setCell (S := (· = r)) (Ch.setCell (S := (· = r)) hc (Or.inl rfl) _) (Or.inl rfl) _⟩

set_option maxHeartbeats 1000000 in
/-- A length is read, and the bytes end ahead of the text's end. -/
theorem text_fail2 (r : Nat) (v : Value) (bs : List Int) (a : Nat) (w : World) (h : Rd w r v bs a false) (hle : a + 2 ≤ bs.length) (hs : (bs.length : Int) - (a + 2) < num ((bs.drop a).take 2)) :
    Calls Try.prog 19 #[.pointer (some ⟨r, 0, none⟩)] w fun e w' => e = .returned (.string ⟨#[]⟩) ∧ Rd w' r v bs a true ∧ Ch (· = r) w w' := by
  have c1 := h.c1
  have hn := u2_ok r v bs a w h hle
  generalize num ((bs.drop a).take 2) = n at hn hs
  obtain ⟨l, hl⟩ : ∃ l : Int, (if false = true then 0 else (bs.length : Int) - ((a + 2 : Nat) : Int)) = l := ⟨_, rfl⟩
  have hs2 : l < n := by rw [← hl]; simp; omega
  have HL : Hid ((if false = true then 0 else (bs.length : Int) - ((a + 2 : Nat) : Int)) = l) := hl
  clear hl hs
  go_enter Try.func19, Try.ntmps19
  go_wp2_with fail
  refine wp_scope_once 0 (by rfl) ?_
  go_wp2_with fail
  refine hn.mono ?_
  rintro e w1 ⟨rfl, h1, hc⟩
  have d1 := h1.c1
  have d2 := h1.c2
  go_wp2_with fail
  refine (left_any' r v bs (a + 2) false _ h1 l HL.out).mono ?_
  rintro e w2 ⟨rfl, nq, rfl⟩
  have f1 := (h1.drewN nq).fz 1
  have f2 := (h1.drewN nq).fz 2
  go_wp2_with fail
  go_step3
  refine And.intro rfl ?_
  change Code.wp Try.prog _ _ _ _
  go_wp2
  rw [Exit.noGoto_ret]
  go_ret
  exact ⟨rfl, (h1.drewN nq).back a h.le, Ch.setCell (S := (· = r)) (Ch.setCell (S := (· = r)) (hc.drewN nq) (Or.inl rfl) _) (Or.inl rfl) _⟩

theorem row_sub {w : World} {g cap : Nat} {bs : List Int} {lo n c : Nat} (hlo : lo + n ≤ bs.length) (h : ∀ k, k < bs.length → w.cell? ⟨g, k, none⟩ = some (.int .u8 (bs.getD k 0))) :
    Row w (.slice (some ⟨g, lo, none⟩) n c) ((bs.drop lo).take n) := by
  have hl : ((bs.drop lo).take n).length = n := by rw [List.length_take, List.length_drop]; omega
  refine Or.inr ⟨⟨g, lo, none⟩, c, by rw [hl], fun j u hj => ?_⟩
  have hadd : (⟨g, lo, none⟩ : Addr).add j = ⟨g, lo + j, none⟩ := by unfold Addr.add; split <;> simp_all
  have hjl : j < n := by
    rcases Nat.lt_or_ge j n with hlt | hge
    · exact hlt
    · rw [List.getElem?_eq_none (by rw [List.length_map, hl]; exact hge)] at hj; cases hj
  rw [hadd, h (lo + j) (by omega)]
  rw [List.getElem?_map, List.getElem?_take_of_lt hjl, List.getElem?_drop] at hj
  rw [List.getElem?_eq_getElem (by omega)] at hj
  simp at hj
  rw [← hj]
  simp [List.getD, List.getElem?_eq_getElem (show lo + j < bs.length by omega)]

theorem row_cut {w : World} {g cap : Nat} {bs : List Int} {lo n c : Nat} (hlo : lo + n ≤ bs.length) (hcap : bs.length ≤ cap) (h : ∀ k, k < bs.length → w.cell? ⟨g, k, none⟩ = some (.int .u8 (bs.getD k 0))) :
    Row w (.slice (if cap = lo then some ⟨g, 0, none⟩ else some ⟨g, lo, none⟩) n c) ((bs.drop lo).take n) := by
  split
  · have hn : n = 0 := by omega
    subst hn
    exact Or.inr ⟨⟨g, 0, none⟩, c, by simp, fun j u hj => by simp at hj⟩
  · exact row_sub (cap := cap) hlo h

set_option maxHeartbeats 1000000 in
theorem text_ok (r : Nat) (v : Value) (bs : List Int) (a n : Nat) (w : World) (h : Rd w r v bs a false) (hle : a + 2 ≤ bs.length) (hN : num ((bs.drop a).take 2) = (n : Int)) (hs : a + 2 + n ≤ bs.length) :
    Calls Try.prog 19 #[.pointer (some ⟨r, 0, none⟩)] w fun e w' => e = .returned (.string (strOfNums ((bs.drop (a + 2)).take n))) ∧ Rd w' r v bs (a + 2 + n) false ∧ Ch (· = r) w w' := by
  have c1 := h.c1
  have hlen := h.len
  have hn := u2_ok r v bs a w h hle
  rw [hN] at hn
  clear hN
  obtain ⟨g, cap, rfl, hc1, hc2, _, hcell⟩ := h.form (by omega)
  obtain ⟨l, hl⟩ : ∃ l : Int, (if false = true then 0 else (bs.length : Int) - ((a + 2 : Nat) : Int)) = l := ⟨_, rfl⟩
  have hs2 : decide (l < (n : Int)) = false := by rw [← hl]; simp; omega
  have HL : Hid ((if false = true then 0 else (bs.length : Int) - ((a + 2 : Nat) : Int)) = l) := hl
  clear hl
  go_enter Try.func19, Try.ntmps19
  go_wp2_with fail
  go_step3
  go_wp2_with fail
  refine hn.mono ?_
  rintro e w1 ⟨rfl, h1, hc⟩
  have d0 := h1.c0
  have d1 := h1.c1
  have d2 := h1.c2
  go_wp2_with fail
  refine (left_any' r _ bs (a + 2) false _ h1 l HL.out).mono ?_
  rintro e w2 ⟨rfl, nq, rfl⟩
  have f1 := (h1.drewN nq).fz 1
  go_wp2
  have h3 : Rd ((w1.drewN nq).setCell ⟨r, 1, none⟩ (.int .i64 ((a : Int) + 2 + n))) r (.slice (some ⟨g, 0, none⟩) bs.length cap) bs (a + 2 + n) false := (h1.drewN nq).set1 (a + 2 + n) hs
  have hc3 : Ch (· = r) w ((w1.drewN nq).setCell ⟨r, 1, none⟩ (.int .i64 ((a : Int) + 2 + n))) := Ch.setCell (S := (· = r)) (hc.drewN nq) (Or.inl rfl) _
  generalize (w1.drewN nq).setCell ⟨r, 1, none⟩ (.int .i64 ((a : Int) + 2 + n)) = W at h3 hc3 ⊢
  have i0 := h3.c0
  have i1 := h3.c1
  clear d0 d1 d2 f1 h1 hc c1 hn
  have q0 : IntKind.i64.wrap ((a : Int) + 2) = (a : Int) + 2 := by rw [IntKind.wrap_i64]; omega
  have q1 : (0 : Int) ≤ (a : Int) + 2 := by omega
  have q2 : (a : Int) + 2 ≤ (a : Int) + 2 + n := by omega
  have q3 : (a : Int) + 2 + n ≤ (cap : Int) := by omega
  have hrow : ∀ k, Row (W.drewN k) (.slice (if cap = ((a : Int) + 2).toNat then some ⟨g, 0, none⟩ else some ⟨g, ((a : Int) + 2).toNat, none⟩) (((a : Int) + 2 + n).toNat - ((a : Int) + 2).toNat) (cap - ((a : Int) + 2).toNat)) ((bs.drop (a + 2)).take n) := fun k => by
    have t1 : ((a : Int) + 2).toNat = a + 2 := by omega
    have t2 : ((a : Int) + 2 + n).toNat - (a + 2) = n := by omega
    rw [t1, t2]
    obtain ⟨g', cap', hv, _, _, _, hcell'⟩ := (h3.drewN k).form (by omega)
    have hg : g = g' ∧ cap = cap' := by simpa using hv
    obtain ⟨rfl, rfl⟩ := hg
    exact row_cut hs hc1 hcell'
  have hconv := fun k => row_string (hrow k)
  generalize hS : strOfNums ((bs.drop (a + 2)).take n) = S at hconv
  have HS : Hid (strOfNums ((bs.drop (a + 2)).take n) = S) := hS
  clear hS
  clear hrow hcell
  generalize hif : (if cap = ((a : Int) + 2).toNat then some (⟨g, 0, none⟩ : Addr) else some ⟨g, ((a : Int) + 2).toNat, none⟩) = ad at hconv
  go_quiet (fail)
  go_wp2
  try rw [Exit.noGoto_ret]
  go_ret
  exact ⟨congrArg (fun x => Ending.returned (.string x)) HS.out.symm, h3.drewN _, hc3.drewN _⟩

/-- A number from 0 to ahead of n. -/
def rnd (k n : Int) : Int := k % n
theorem rnd_bd (k n : Int) (hn : 0 < n) : 0 ≤ rnd k n ∧ rnd k n < n := ⟨Int.emod_nonneg _ (by omega), Int.emod_lt_of_pos _ hn⟩
theorem tmod_emod (k n : Int) : k % n = (k.tmod n) % n := by
  have h := Int.tmod_add_mul_tdiv k n
  have e : k % n = (k.tmod n + n * k.tdiv n) % n := by rw [h]
  rw [e, Int.add_mul_emod_self_left]
theorem rnd_lo (k n : Int) (hn : 0 < n) (h : k.tmod n < 0) : k.tmod n + n = rnd k n := by
  have h3 := Int.lt_tmod_of_pos k hn
  rw [rnd, tmod_emod, ← Int.add_emod_right, Int.emod_eq_of_lt (by omega) (by omega)]
theorem rnd_hi (k n : Int) (hn : 0 < n) (h : 0 ≤ k.tmod n) : k.tmod n = rnd k n := by
  have h3 := Int.tmod_lt_of_pos k hn
  rw [rnd, tmod_emod, Int.emod_eq_of_lt (by omega) (by omega)]
theorem round_any (k n : Int) (w : World) (hn : 0 < n) (hn2 : n ≤ 140737488355329) :
    Calls Try.prog 14 #[.int .i64 k, .int .i64 n] w fun e w' => e = .returned (.int .i64 (rnd k n)) ∧ w' = w := by
  have hn0 : (n == 0) = false := by simp; omega
  have h1 := Int.tmod_lt_of_pos k hn
  have h3 := Int.lt_tmod_of_pos k hn
  go_enter Try.func14, Try.ntmps14
  go_wp2
  · go_ret
    exact ⟨congrArg (fun x => Ending.returned (.int .i64 x)) (rnd_lo k n hn ‹_›), rfl⟩
  · go_ret
    exact ⟨congrArg (fun x => Ending.returned (.int .i64 x)) (rnd_hi k n hn ‹_›), rfl⟩

/-- What the document reads of so many bytes. -/
def getU (bs : List Int) (size : Nat) : Int := if size = 4 then sgn (num (bs.take 4)) else num (bs.take size)

theorem or_u64 (n b : Int) (h0 : 0 ≤ n) (h1 : n < 16777216) (h2 : 0 ≤ b) (h3 : b < 256) : bits .or .u64 (n * 256) b = n * 256 + b :=
  bits_join .u64 32 (by decide) (fun m h₀ h₁ => by simp [IntKind.wrap, IntKind.bits, IntKind.signed]; omega) 8 _ _ (by omega) (by omega) (by omega) (by omega) (by omega) (by omega)

set_option maxHeartbeats 400000 in
theorem getU_any (g lo m c : Nat) (bs : List Int) (size : Nat) (w : World) (hcell : ∀ k, k < bs.length → w.cell? ⟨g, lo + k, none⟩ = some (.int .u8 (bs.getD k 0))) (hb : ∀ x ∈ bs, 0 ≤ x ∧ x < 256) (hm : bs.length ≤ m) (hs : size ≤ bs.length) (hs4 : size ≤ 4) :
    Calls Try.prog 15 #[.slice (some ⟨g, lo, none⟩) m c, .int .i64 size] w fun e w' => e = .returned (.int .i64 (getU bs size)) ∧ w' = w := by
  go_enter Try.func15, Try.ntmps15
  go_wp2
  go_loop [5, 6] (fun n i => ∃ k : Nat, k ≤ size ∧ i = .int .i64 k ∧ n = .int .u64 (num (bs.take k))) (fun _ i => size - (intOf i).toNat)
  case atStart => exact ⟨0, Nat.zero_le _, rfl, rfl⟩
  case round =>
    obtain ⟨k, hk, rfl, rfl⟩ := hrel
    have hbd := num_take_bd bs 0 k hb (by omega)
    rw [List.drop_zero] at hbd
    by_cases hlt : k < size
    · have hc := hcell k (by omega)
      have hgb := getD_bd bs hb k
      have hpw := pw_le k (by omega)
      have hstep := num_step bs 0 k (by omega)
      rw [List.drop_zero, Nat.zero_add] at hstep
      have HS : Hid (num (bs.take (k + 1)) = num (bs.take k) * 256 + bs.getD k 0) := hstep
      clear hstep
      generalize num (bs.take k) = N at *
      generalize bs.getD k 0 = B at *
      obtain ⟨b0, b1⟩ := hbd
      obtain ⟨g0, g1⟩ := hgb
      have b2 : N < 16777216 := by omega
      clear b1 hpw
      go_wp2
      refine ⟨⟨k + 1, by omega, by go_num, ?_⟩, by simp [intOf]; omega⟩
      rw [HS.out, or_u64 N B b0 b2 g0 g1]
    · obtain rfl : k = size := by omega
      obtain ⟨b0, b1⟩ := hbd
      by_cases h4 : k = 4
      · have hk4 : ((k : Int) == 4) = true := by simp; omega
        subst h4
        have b2 : num (bs.take 4) < 4294967296 := b1
        clear b1
        go_wp2
        go_ret
        exact ⟨congrArg (fun x => Ending.returned (.int .i64 x)) ((wrap_sgn _ b0 b2).trans (by simp [getU])), rfl⟩
      · have hk4 : ((k : Int) == 4) = false := by simp; omega
        have hpw := pw_le k (by omega)
        have b2 : num (bs.take k) < 16777216 := by omega
        clear b1 hpw
        go_wp2
        go_ret
        exact ⟨congrArg (fun x => Ending.returned (.int .i64 x)) (by simp [getU, h4]), rfl⟩

end Go.Proofs.Ytgjddpfijnmeeaa
