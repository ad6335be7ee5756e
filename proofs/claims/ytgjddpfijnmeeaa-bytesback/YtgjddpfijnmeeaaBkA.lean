/- An item that was written is read as it was; cut short, it fails. -/
import Derived.Test.YtgjddpfijnmeeaaWrA
namespace Go.Proofs.Ytgjddpfijnmeeaa
open Go.RowKit
set_option linter.unusedVariables false

theorem num_be1 (n : Int) (h : inR 0 255 n = true) : num (be n 1) = n := by
  simp [inR] at h
  simp only [be, num, List.foldl]; omega
theorem num_be2 (n : Int) (h : inR 0 65535 n = true) : num (be n 2) = n := by
  simp [inR] at h
  simp only [be, num, List.foldl]; omega
theorem num_be4 (n : Int) (h : inR (-2147483648) 2147483647 n = true) : sgn (num (be n 4)) = n := by
  simp [inR] at h
  simp only [be, num, List.foldl, sgn]
  split <;> omega
theorem str_sb (s : ByteArray) : strOfNums (sb s) = s := by
  unfold strOfNums sb
  rw [List.map_map]
  have : (s.data.toList.map ((fun n : Int => UInt8.ofNat n.toNat) ∘ fun b => (b.toNat : Int))) = s.data.toList := by
    rw [List.map_congr_left (g := id)]
    · simp
    · intro b _; simp
  rw [this]

/-- An item that may be. -/
def valid (k n : Int) (s : ByteArray) : Prop := (1 ≤ k ∧ k ≤ 4) ∧ itemOk k n s = true
theorem itemB_pos {k n : Int} {s : ByteArray} (h : valid k n s) : 0 < (itemB k n s).length := by
  have hk := h.1
  unfold itemB
  split
  · rw [be_len]; omega
  split
  · rw [be_len]; omega
  split
  · rw [be_len]; omega
  split
  · rw [List.length_append, be_len]; omega
  · omega

/-- A reader that read something, or failed. -/
def SomeBool (e : Ending) : Prop := ∃ b, e = .returned (.bool b)

set_option maxHeartbeats 1000000 in
theorem reads_k1 (n : Int) (s : ByteArray) (r : Nat) (v : Value) (bs : List Int) (X : Int) (a' : Nat) (f' : Bool) (w : World) (hrl : r < w.heap.size)
    (hn : Calls Try.prog 16 #[.pointer (some ⟨r, 0, none⟩)] (w.alloc (.cells #[.int .i64 1, .int .i64 n, .string s] 31)).drew fun e w' => e = .returned (.int .i64 X) ∧ Rd w' r v bs a' f' ∧ Ch (· = r) (w.alloc (.cells #[.int .i64 1, .int .i64 n, .string s] 31)).drew w') :
    Calls Try.prog 23 #[.pointer (some ⟨r, 0, none⟩), .agg #[.int .i64 1, .int .i64 n, .string s]] w fun e w' => e = .returned (.bool (X == n)) ∧ Rd w' r v bs a' f' ∧ Ch (· = r) w w' := by
  go_enter Try.func23, Try.ntmps23
  go_wp2
  go_region_held (fun w' => w'.cell? ⟨w.heap.size, 1, none⟩ = some (.int .i64 n)) (first | go_keep | (simp [World.cell?, hb1])) (first
    | (go_at_call 16; refine hn.mono ?_; rintro e w1 ⟨rfl, h1, hc1⟩; have hb1 := (hc1.block w.heap.size (by show _ < (w.alloc _).heap.size; simp) (by omega)).trans (heap_alloc_new w _)))
  go_wp2
  go_ret
  exact ⟨rfl, h1, (((Ch.refl (· = r) w).alloc _).drew).trans hc1⟩

set_option maxHeartbeats 1000000 in
theorem reads_k2 (n : Int) (s : ByteArray) (r : Nat) (v : Value) (bs : List Int) (X : Int) (a' : Nat) (f' : Bool) (w : World) (hrl : r < w.heap.size)
    (hn : Calls Try.prog 17 #[.pointer (some ⟨r, 0, none⟩)] (w.alloc (.cells #[.int .i64 2, .int .i64 n, .string s] 31)).drew fun e w' => e = .returned (.int .i64 X) ∧ Rd w' r v bs a' f' ∧ Ch (· = r) (w.alloc (.cells #[.int .i64 2, .int .i64 n, .string s] 31)).drew w') :
    Calls Try.prog 23 #[.pointer (some ⟨r, 0, none⟩), .agg #[.int .i64 2, .int .i64 n, .string s]] w fun e w' => e = .returned (.bool (X == n)) ∧ Rd w' r v bs a' f' ∧ Ch (· = r) w w' := by
  go_enter Try.func23, Try.ntmps23
  go_wp2
  go_region_held (fun w' => w'.cell? ⟨w.heap.size, 1, none⟩ = some (.int .i64 n)) (first | go_keep | (simp [World.cell?, hb1])) (first
    | (go_at_call 17; refine hn.mono ?_; rintro e w1 ⟨rfl, h1, hc1⟩; have hb1 := (hc1.block w.heap.size (by show _ < (w.alloc _).heap.size; simp) (by omega)).trans (heap_alloc_new w _)))
  go_wp2
  go_ret
  exact ⟨rfl, h1, (((Ch.refl (· = r) w).alloc _).drew).trans hc1⟩

set_option maxHeartbeats 1000000 in
theorem reads_k3 (n : Int) (s : ByteArray) (r : Nat) (v : Value) (bs : List Int) (X : Int) (a' : Nat) (f' : Bool) (w : World) (hrl : r < w.heap.size)
    (hn : Calls Try.prog 18 #[.pointer (some ⟨r, 0, none⟩)] (w.alloc (.cells #[.int .i64 3, .int .i64 n, .string s] 31)).drew fun e w' => e = .returned (.int .i64 X) ∧ Rd w' r v bs a' f' ∧ Ch (· = r) (w.alloc (.cells #[.int .i64 3, .int .i64 n, .string s] 31)).drew w') :
    Calls Try.prog 23 #[.pointer (some ⟨r, 0, none⟩), .agg #[.int .i64 3, .int .i64 n, .string s]] w fun e w' => e = .returned (.bool (X == n)) ∧ Rd w' r v bs a' f' ∧ Ch (· = r) w w' := by
  go_enter Try.func23, Try.ntmps23
  go_wp2
  go_region_held (fun w' => w'.cell? ⟨w.heap.size, 1, none⟩ = some (.int .i64 n)) (first | go_keep | (simp [World.cell?, hb1])) (first
    | (go_at_call 18; refine hn.mono ?_; rintro e w1 ⟨rfl, h1, hc1⟩; have hb1 := (hc1.block w.heap.size (by show _ < (w.alloc _).heap.size; simp) (by omega)).trans (heap_alloc_new w _)))
  go_wp2
  go_ret
  exact ⟨rfl, h1, (((Ch.refl (· = r) w).alloc _).drew).trans hc1⟩

set_option maxHeartbeats 1000000 in
theorem reads_k4 (k n : Int) (s : ByteArray) (r : Nat) (v : Value) (bs : List Int) (X : ByteArray) (a' : Nat) (f' : Bool) (w : World) (hrl : r < w.heap.size) (q1 : (k == 1) = false) (q2 : (k == 2) = false) (q3 : (k == 3) = false)
    (hn : Calls Try.prog 19 #[.pointer (some ⟨r, 0, none⟩)] (w.alloc (.cells #[.int .i64 k, .int .i64 n, .string s] 31)).drew fun e w' => e = .returned (.string X) ∧ Rd w' r v bs a' f' ∧ Ch (· = r) (w.alloc (.cells #[.int .i64 k, .int .i64 n, .string s] 31)).drew w') :
    Calls Try.prog 23 #[.pointer (some ⟨r, 0, none⟩), .agg #[.int .i64 k, .int .i64 n, .string s]] w fun e w' => e = .returned (.bool (X.toList == s.toList)) ∧ Rd w' r v bs a' f' ∧ Ch (· = r) w w' := by
  go_enter Try.func23, Try.ntmps23
  go_wp2
  go_region_held (fun w' => w'.cell? ⟨w.heap.size, 2, none⟩ = some (.string s)) (first | go_keep | (simp [World.cell?, hb1])) (first
    | (go_at_call 19; refine hn.mono ?_; rintro e w1 ⟨rfl, h1, hc1⟩; have hb1 := (hc1.block w.heap.size (by show _ < (w.alloc _).heap.size; simp) (by omega)).trans (heap_alloc_new w _)))
  go_wp2
  go_ret
  exact ⟨rfl, h1, (((Ch.refl (· = r) w).alloc _).drew).trans hc1⟩

theorem take_pre {l ib : List Int} {m : Nat} (h : l.take ib.length = ib) (hm : m ≤ ib.length) : l.take m = ib.take m := by
  rw [← h, List.take_take, Nat.min_eq_left hm]

theorem reads_ok (k n : Int) (s : ByteArray) (r : Nat) (v : Value) (bs : List Int) (a : Nat) (w : World) (h : Rd w r v bs a false) (hv : valid k n s) (hle : a + (itemB k n s).length ≤ bs.length) (hib : (bs.drop a).take (itemB k n s).length = itemB k n s) :
    Calls Try.prog 23 #[.pointer (some ⟨r, 0, none⟩), .agg #[.int .i64 k, .int .i64 n, .string s]] w fun e w' => e = .returned (.bool true) ∧ Rd w' r v bs (a + (itemB k n s).length) false ∧ Ch (· = r) w w' := by
  obtain ⟨⟨hk1, hk2⟩, hok⟩ := hv
  have ha : Rd (w.alloc (.cells #[.int .i64 k, .int .i64 n, .string s] 31)).drew r v bs a false := (h.alloc _).drewN 1
  by_cases k1 : k = 1
  · subst k1
    have e2 : itemB 1 n s = be n 1 := by simp [itemB]
    have e1 : itemOk 1 n s = inR 0 255 n := by simp [itemOk]
    rw [e1] at hok
    rw [e2, be_len] at hle hib ⊢
    have hn := u1_ok r v bs a _ ha hle
    rw [hib, num_be1 n hok] at hn
    have := reads_k1 n s r v bs n (a + 1) false w h.lt hn
    simpa using this
  by_cases k2 : k = 2
  · subst k2
    have e2 : itemB 2 n s = be n 2 := by simp [itemB]
    have e1 : itemOk 2 n s = inR 0 65535 n := by simp [itemOk]
    rw [e1] at hok
    rw [e2, be_len] at hle hib ⊢
    have hn := u2_ok r v bs a _ ha hle
    rw [hib, num_be2 n hok] at hn
    have := reads_k2 n s r v bs n (a + 2) false w h.lt hn
    simpa using this
  by_cases k3 : k = 3
  · subst k3
    have e2 : itemB 3 n s = be n 4 := by simp [itemB]
    have e1 : itemOk 3 n s = inR (-2147483648) 2147483647 n := by simp [itemOk]
    rw [e1] at hok
    rw [e2, be_len] at hle hib ⊢
    have hn := i4_ok r v bs a _ ha hle
    rw [hib, num_be4 n hok] at hn
    have := reads_k3 n s r v bs n (a + 4) false w h.lt hn
    simpa using this
  obtain rfl : k = 4 := by omega
  have e2 : itemB 4 n s = be s.size 2 ++ sb s := by simp [itemB]
  have e1 : itemOk 4 n s = decide (s.size ≤ 65535) := by simp [itemOk]
  rw [e1] at hok
  have hsz : s.size ≤ 65535 := of_decide_eq_true hok
  rw [e2] at hle hib ⊢
  have hlen : (be s.size 2 ++ sb s).length = 2 + s.size := by rw [List.length_append, be_len, sb_length]
  have t2 : (bs.drop a).take 2 = be s.size 2 := by
    rw [take_pre hib (by omega), List.take_append_of_le_length (by rw [be_len]; omega), List.take_of_length_le (by rw [be_len]; omega)]
  have t3 : (bs.drop (a + 2)).take s.size = sb s := by
    have : ((bs.drop a).take (2 + s.size)).drop 2 = sb s := by
      rw [← hlen, hib, List.drop_append_of_le_length (by rw [be_len]; omega), List.drop_of_length_le (by rw [be_len]; omega)]
      rfl
    rw [List.drop_take, List.drop_drop] at this
    rw [← this]
    congr 1
    omega
  rw [hlen] at hle ⊢
  have hn := text_ok r v bs a s.size _ ha (by omega) (by rw [t2]; exact num_be2 _ (by simp [inR]; omega)) (by omega)
  rw [t3, str_sb] at hn
  have := reads_k4 4 n s r v bs s (a + 2 + s.size) false w h.lt (by decide) (by decide) (by decide) hn
  simpa [Nat.add_assoc] using this

/-- It can't be read, or it failed before. -/
theorem reads_no (k n : Int) (s : ByteArray) (r : Nat) (v : Value) (bs : List Int) (a : Nat) (f : Bool) (w : World) (h : Rd w r v bs a f) (hv : valid k n s) (hno : f = true ∨ (f = false ∧ bs.length < a + (itemB k n s).length ∧ bs.drop a = (itemB k n s).take (bs.length - a))) :
    Calls Try.prog 23 #[.pointer (some ⟨r, 0, none⟩), .agg #[.int .i64 k, .int .i64 n, .string s]] w fun e w' => SomeBool e ∧ Rd w' r v bs a true ∧ Ch (· = r) w w' := by
  obtain ⟨⟨hk1, hk2⟩, hok⟩ := hv
  have ha : Rd (w.alloc (.cells #[.int .i64 k, .int .i64 n, .string s] 31)).drew r v bs a f := (h.alloc _).drewN 1
  have hle := h.le
  by_cases k1 : k = 1
  · subst k1
    have e2 : itemB 1 n s = be n 1 := by simp [itemB]
    rw [e2, be_len] at hno
    have hn := u1_fail r v bs a f _ ha (by rcases hno with rfl | ⟨rfl, h2, _⟩ <;> simp <;> omega)
    exact (reads_k1 n s r v bs 0 a true w h.lt hn).mono fun e w' ⟨h1, h2⟩ => ⟨⟨_, h1⟩, h2⟩
  by_cases k2 : k = 2
  · subst k2
    have e2 : itemB 2 n s = be n 2 := by simp [itemB]
    rw [e2, be_len] at hno
    have hn := u2_fail r v bs a f _ ha (by rcases hno with rfl | ⟨rfl, h2, _⟩ <;> simp <;> omega)
    exact (reads_k2 n s r v bs 0 a true w h.lt hn).mono fun e w' ⟨h1, h2⟩ => ⟨⟨_, h1⟩, h2⟩
  by_cases k3 : k = 3
  · subst k3
    have e2 : itemB 3 n s = be n 4 := by simp [itemB]
    rw [e2, be_len] at hno
    have hn := i4_fail r v bs a f _ ha (by rcases hno with rfl | ⟨rfl, h2, _⟩ <;> simp <;> omega)
    exact (reads_k3 n s r v bs 0 a true w h.lt hn).mono fun e w' ⟨h1, h2⟩ => ⟨⟨_, h1⟩, h2⟩
  obtain rfl : k = 4 := by omega
  have e2 : itemB 4 n s = be s.size 2 ++ sb s := by simp [itemB]
  have e1 : itemOk 4 n s = decide (s.size ≤ 65535) := by simp [itemOk]
  rw [e1] at hok
  have hsz : s.size ≤ 65535 := of_decide_eq_true hok
  rw [e2] at hno
  have hlen : (be s.size 2 ++ sb s).length = 2 + s.size := by rw [List.length_append, be_len, sb_length]
  have key : Calls Try.prog 19 #[.pointer (some ⟨r, 0, none⟩)] (w.alloc (.cells #[.int .i64 4, .int .i64 n, .string s] 31)).drew fun e w' => e = .returned (.string ⟨#[]⟩) ∧ Rd w' r v bs a true ∧ Ch (· = r) (w.alloc (.cells #[.int .i64 4, .int .i64 n, .string s] 31)).drew w' := by
    rcases hno with rfl | ⟨rfl, h2, h3⟩
    · exact text_fail1 r v bs a true _ ha (by simp)
    · by_cases hh : bs.length < a + 2
      · exact text_fail1 r v bs a false _ ha (by simp; omega)
      · refine text_fail2 r v bs a _ ha (by omega) ?_
        have t2 : (bs.drop a).take 2 = be s.size 2 := by
          rw [h3, List.take_take, Nat.min_eq_left (by omega), List.take_append_of_le_length (by rw [be_len]; omega), List.take_of_length_le (by rw [be_len]; omega)]
        rw [t2, num_be2 _ (by simp [inR]; omega)]
        rw [hlen] at h2
        omega
  exact (reads_k4 4 n s r v bs ⟨#[]⟩ a true w h.lt (by decide) (by decide) (by decide) key).mono fun e w' ⟨h1, h2⟩ => ⟨⟨_, h1⟩, h2⟩

end Go.Proofs.Ytgjddpfijnmeeaa
