/- The contracts of the program's and the document's keys. -/
import Derived.Test.YtjkphnpikciaeaaAwake
import Derived.Test.YtjkphnpikciaeaaKeyS
namespace Go.Proofs.Ytjkphnpikciaeaa
open Go.RowKit
set_option linter.unusedVariables false

theorem results_four {fn : Func} {t u v x : Tmp} (h : fn.results = #[.tmp t, .tmp u, .tmp v, .tmp x]) (tmps : Array Value) (P : Program) (w : World) :
    (results fn tmps).run P w = .ok (.tuple #[tmps.getD t undef, tmps.getD u undef, tmps.getD v undef, tmps.getD x undef]) w := by
  simp [results, h]

set_option maxRecDepth 100000 in
theorem indexByte_any (s : ByteArray) (c : UInt8) (w : World) :
    Calls Try.prog 51 #[.string s, .int .u8 (c.toNat : Int)] w fun e w' => e = .returned (.int .i64 (Lib.indexByte (bl s) c)) ∧ w' = w := by
  go_enter Try.func51, Try.ntmps51
  go_wp2
  rw [run_callFunc_extern Try.func55 (by kernel_rfl) (by kernel_rfl) (by kernel_rfl) (e := Extern.BytealgIndexByte.indexByte) (by kernel_rfl), Lib.run_indexByteString]
  simp only [Result.andThen]
  rw [Oper.upon_value]
  go_wp2
  go_ret
  exact ⟨rfl, rfl⟩

set_option maxHeartbeats 2000000 in
set_option maxRecDepth 100000 in
theorem index_any (s : ByteArray) (c : UInt8) (w : World) :
    Calls Try.prog 50 #[.string s, .string ⟨#[c]⟩] w fun e w' => e = .returned (.int .i64 (Lib.indexByte (bl s) c)) ∧ w' = w := by
  go_enter Try.func50, Try.ntmps50
  go_wp2_with (go_at_call 51; refine (indexByte_any _ _ _).mono ?_; rintro e w' ⟨rfl, rfl⟩)
  · have h : ([c] == s.toList) = true := by assumption
    have e : bl s = [c] := by rw [← bl_toList]; exact (beq_iff_eq.1 h).symm
    go_ret
    refine ⟨?_, rfl⟩
    rw [e]
    simp [Lib.indexByte]
  · go_ret
    exact ⟨rfl, rfl⟩

theorem ms_take_all {s : ByteArray} {k : Nat} (h : s.size ≤ k) : ms ((bl s).take k) = s := by
  rw [List.take_of_length_le (by rw [bl_len]; exact h), ms_bl]

set_option maxHeartbeats 2000000 in
theorem lcut_any (s : ByteArray) (c : UInt8) (w : World) (hs : s.size ≤ 1000) :
    Calls Try.prog 49 #[.string s, .string ⟨#[c]⟩] w fun e w' => e = .returned (.tuple #[.string (ms ((bl s).take (ix c (bl s)))), .string (ms ((bl s).drop (ix c (bl s) + 1))), .bool (decide (ix c (bl s) < s.size))]) ∧ ∃ n, w' = w.drewN n := by
  have hle := ix_le c (bl s)
  have hi := indexByte_ix (bl s) c
  rw [bl_len] at hle hi
  obtain ⟨n, hn⟩ : ∃ n, ix c (bl s) = n := ⟨_, rfl⟩
  rw [hn] at hle hi ⊢
  by_cases hlt : n < s.size
  · rw [if_pos hlt] at hi
    have hcall : ∀ w0, Calls Try.prog 50 #[.string s, .string ⟨#[c]⟩] w0 fun e w' => e = .returned (.int .i64 (n : Int)) ∧ w' = w0 := fun w0 => by
      have h := index_any s c w0; rw [hi] at h; exact h
    rw [decide_eq_true hlt]
    rw [← eq_ms (s := s.extract 0 n) (bl_to s n), ← eq_ms (s := s.extract (n + 1) s.size) (bl_from s (n + 1))]
    have c1 : (n : Int) ≤ s.size := by omega
    have c2 : (n : Int) + 1 ≤ s.size := by omega
    have c3 : (0 : Int) ≤ (n : Int) + 1 := by omega
    have ht : ((n : Int) + 1).toNat = n + 1 := by omega
    clear hn hi hle
    go_enter Try.func49, Try.ntmps49
    go_wp2_with fail
    refine (hcall _).mono ?_
    rintro e w2 ⟨rfl, hw2⟩
    have hw2 := hw2.symm
    subst hw2
    go_wp2_with fail
    go_quiet (fail)
    go_wp2
    go_ret3
    exact ⟨rfl, _, rfl⟩
  · rw [if_neg hlt] at hi
    have hcall : ∀ w0, Calls Try.prog 50 #[.string s, .string ⟨#[c]⟩] w0 fun e w' => e = .returned (.int .i64 (-1)) ∧ w' = w0 := fun w0 => by
      have h := index_any s c w0; rw [hi] at h; exact h
    rw [decide_eq_false hlt, ms_take_all (by omega), List.drop_eq_nil_of_le (by rw [bl_len]; omega)]
    clear hn hi hle
    go_enter Try.func49, Try.ntmps49
    go_wp2_with fail
    refine (hcall _).mono ?_
    rintro e w2 ⟨rfl, hw2⟩
    have hw2 := hw2.symm
    subst hw2
    go_wp2
    go_ret3
    exact ⟨rfl, 0, rfl⟩
theorem cut_any (s : ByteArray) (c : UInt8) (w : World) (hs : s.size ≤ 1000) :
    Calls Try.prog 43 #[.string s, .string ⟨#[c]⟩] w fun e w' => e = .returned (.tuple #[.string (ms ((bl s).take (ix c (bl s)))), .string (ms ((bl s).drop (ix c (bl s) + 1))), .bool (decide (ix c (bl s) < s.size))]) ∧ ∃ n, w' = w.drewN n := by
  have hcall := lcut_any s c w hs
  generalize ms ((bl s).take (ix c (bl s))) = x at *
  generalize ms ((bl s).drop (ix c (bl s) + 1)) = y at *
  generalize decide (ix c (bl s) < s.size) = z at *
  go_enter Try.func43, Try.ntmps43
  go_wp2_with fail
  refine hcall.mono ?_
  rintro e w2 ⟨rfl, n, rfl⟩
  go_wp2
  go_ret3
  exact ⟨rfl, _, rfl⟩

theorem mname_as {s : ByteArray} {b : Bool} (hb : isMName (bl s) = b) (hs : s.size ≤ 1000) (w0 : World) : Calls Try.prog 13 #[.string s] w0 fun e w' => e = .returned (.bool b) ∧ w' = w0 := by
  have h := mname_any s w0 hs; rw [hb] at h; exact h
theorem refMname_as {s : ByteArray} {b : Bool} (hb : isMName (bl s) = b) (hs : s.size ≤ 1000) (w0 : World) : Calls Try.prog 14 #[.string s] w0 fun e w' => e = .returned (.bool b) ∧ w' = w0 := by
  have h := refMname_any s w0 hs; rw [hb] at h; exact h
/-- What a method's type is answered by, as far as keys ask. -/
theorem method_e {s : ByteArray} {b : Bool} (hb : (meth (bl s)).isSome = b) (hs : s.size ≤ 1000) (w : World) :
    Calls Try.prog 25 #[.string s] w fun e w' => ∃ v r, e = .returned (.tuple #[v, .string r, .int .i64 (if b then 0 else 6)]) ∧ Ch w w' :=
  (method_any s w hs).mono fun e w' h => by
    obtain ⟨hc, ⟨hn, he⟩ | ⟨q, v, hq, he, ho⟩⟩ := h
    · rw [hn] at hb; subst hb; exact ⟨_, _, he, hc⟩
    · rw [hq] at hb; subst hb; exact ⟨_, _, he, hc⟩
theorem refMethod_e {s : ByteArray} {b : Bool} (hb : (meth (bl s)).isSome = b) (hs : s.size ≤ 1000) (w : World) :
    Calls Try.prog 26 #[.string s] w fun e w' => ∃ v r, e = .returned (.tuple #[v, .string r, .int .i64 (if b then 0 else 6)]) ∧ Ch w w' :=
  (refMethod_any s w hs).mono fun e w' h => by
    obtain ⟨hc, ⟨hn, he⟩ | ⟨q, v, hq, he, ho⟩⟩ := h
    · rw [hn] at hb; subst hb; exact ⟨_, _, he, hc⟩
    · rw [hq] at hb; subst hb; exact ⟨_, _, he, hc⟩

set_option maxHeartbeats 1000000 in
theorem keyed_any (a b d : ByteArray) (w : World) (ha : a.size ≤ 1000) (hb : b.size ≤ 1000) (hd : d.size ≤ 1000) :
    Calls Try.prog 42 #[.string a, .string b, .string d] w fun e w' => e = .returned (.bool (keyedB (bl a) (bl b) (bl d))) ∧ Ch w w' := by
  obtain ⟨x, hx⟩ : ∃ x, isName (bl a) = x := ⟨_, rfl⟩
  obtain ⟨y, hy⟩ : ∃ y, isMName (bl b) = y := ⟨_, rfl⟩
  obtain ⟨z, hz⟩ : ∃ z, (meth (bl d)).isSome = z := ⟨_, rfl⟩
  have cx := fun w0 => name_as hx ha w0
  have cy := fun w0 => mname_as hy hb w0
  have cz := fun w0 => method_e hz hd w0
  have hk : keyedB (bl a) (bl b) (bl d) = (x && y && z) := by unfold keyedB; rw [hx, hy, hz]
  rw [hk]
  clear hx hy hz hk
  cases x <;> cases y <;> cases z
  all_goals
    go_enter Try.func42, Try.ntmps42
    go_wp2_with (first | (go_at_call 11; refine (cx _).mono ?_; rintro e x1 ⟨rfl, hx⟩; have hx := hx.symm; subst hx; clear hx) | (go_at_call 13; refine (cy _).mono ?_; rintro e x1 ⟨rfl, hx⟩; have hx := hx.symm; subst hx; clear hx) | (go_at_call 25; refine (cz _).mono ?_; rintro e w3 ⟨v3, r3, rfl, hc3⟩))
    go_ret
    first | exact ⟨rfl, Ch.refl _⟩ | exact ⟨rfl, hc3⟩

theorem bl_key (a b d : ByteArray) : bl (((a ++ ⟨#[46]⟩) ++ b) ++ d) = bl a ++ [46] ++ bl b ++ bl d := by rw [bl_append, bl_append, bl_append]; rfl
set_option maxHeartbeats 1000000 in
theorem key_any (a b d : ByteArray) (w : World) (ha : a.size ≤ 1000) (hb : b.size ≤ 1000) (hd : d.size ≤ 1000) :
    Calls Try.prog 30 #[.string a, .string b, .string d] w fun e w' => e = .returned (.string (ms (keyL (bl a) (bl b) (bl d)))) ∧ Ch w w' := by
  obtain ⟨x, hx⟩ : ∃ x, keyedB (bl a) (bl b) (bl d) = x := ⟨_, rfl⟩
  have cx : ∀ w0, Calls Try.prog 42 #[.string a, .string b, .string d] w0 fun e w' => e = .returned (.bool x) ∧ Ch w0 w' := fun w0 => by
    have h := keyed_any a b d w0 ha hb hd; rw [hx] at h; exact h
  cases x
  · have hk : ms (keyL (bl a) (bl b) (bl d)) = ⟨#[]⟩ := by unfold keyL; rw [hx]; rfl
    rw [hk]
    clear hx hk
    go_enter Try.func30, Try.ntmps30
    go_wp2_with (first | (go_at_call 42; refine (cx _).mono ?_; rintro e w3 ⟨rfl, hc3⟩))
    go_ret
    exact ⟨rfl, hc3⟩
  · have hk : ms (keyL (bl a) (bl b) (bl d)) = ((a ++ ⟨#[46]⟩) ++ b) ++ d := by unfold keyL; rw [hx]; exact (eq_ms (bl_key a b d)).symm
    rw [hk]
    clear hx hk
    go_enter Try.func30, Try.ntmps30
    go_wp2_with (first | (go_at_call 42; refine (cx _).mono ?_; rintro e w3 ⟨rfl, hc3⟩))
    go_ret
    exact ⟨rfl, hc3⟩
set_option maxHeartbeats 2000000 in
theorem refKey_any (a b d : ByteArray) (w : World) (ha : a.size ≤ 1000) (hb : b.size ≤ 1000) (hd : d.size ≤ 1000) :
    Calls Try.prog 33 #[.string a, .string b, .string d] w fun e w' => e = .returned (.string (ms (keyL (bl a) (bl b) (bl d)))) ∧ Ch w w' := by
  obtain ⟨x, hx⟩ : ∃ x, isName (bl a) = x := ⟨_, rfl⟩
  obtain ⟨y, hy⟩ : ∃ y, isMName (bl b) = y := ⟨_, rfl⟩
  obtain ⟨z, hz⟩ : ∃ z, (meth (bl d)).isSome = z := ⟨_, rfl⟩
  have cx := fun w0 => refName_as hx ha w0
  have cy := fun w0 => refMname_as hy hb w0
  have cz := fun w0 => refMethod_e hz hd w0
  have hk : keyedB (bl a) (bl b) (bl d) = (x && y && z) := by unfold keyedB; rw [hx, hy, hz]
  have hno : (x && y && z) = false → ms (keyL (bl a) (bl b) (bl d)) = ⟨#[]⟩ := fun h => by unfold keyL; rw [hk, h]; rfl
  have hyes : (x && y && z) = true → ms (keyL (bl a) (bl b) (bl d)) = ((a ++ ⟨#[46]⟩) ++ b) ++ d := fun h => by unfold keyL; rw [hk, h]; exact (eq_ms (bl_key a b d)).symm
  clear hx hy hz hk
  cases x <;> cases y <;> cases z
  all_goals first | rw [hno rfl] | rw [hyes rfl]
  all_goals clear hno hyes
  all_goals
    go_enter Try.func33, Try.ntmps33
    go_wp2_with (first | (go_at_call 12; refine (cx _).mono ?_; rintro e x1 ⟨rfl, hx⟩; have hx := hx.symm; subst hx; clear hx) | (go_at_call 14; refine (cy _).mono ?_; rintro e x1 ⟨rfl, hx⟩; have hx := hx.symm; subst hx; clear hx) | (go_at_call 26; refine (cz _).mono ?_; rintro e w3 ⟨v3, r3, rfl, hc3⟩))
    go_ret
    exact ⟨rfl, hc3⟩
end Go.Proofs.Ytjkphnpikciaeaa
