/- The contracts of the reader's functions. -/
import Derived.Test.YtgjddpfijnmeeaaChecked
import Derived.Test.YtgjddpfijnmeeaaBase
import Derived.WalkKit
import Derived.WalkSpells
import Derived.Deep.QuietTactic
import Derived.BigQuiet
import Derived.RegionTactic
import Derived.WalkMore
import Derived.ScopeJumps
namespace Go.Proofs.Ytgjddpfijnmeeaa
open Go.RowKit

set_option maxHeartbeats 400000 in
theorem at_any (r : Nat) (v : Value) (bs : List Int) (a : Nat) (f : Bool) (w : World) (h : Rd w r v bs a f) :
    Calls Try.prog 21 #[.pointer (some ⟨r, 0, none⟩)] w fun e w' => e = .returned (.int .i64 a) ∧ w' = w := by
  have h1 := h.c1
  go_enter Try.func21, Try.ntmps21
  go_wp2
  go_ret
  exact ⟨rfl, rfl⟩

set_option maxHeartbeats 400000 in
theorem left_failed (r : Nat) (v : Value) (bs : List Int) (a : Nat) (w : World) (h : Rd w r v bs a true) :
    Calls Try.prog 22 #[.pointer (some ⟨r, 0, none⟩)] w fun e w' => e = .returned (.int .i64 0) ∧ w' = w := by
  have h2 := h.c2
  go_enter Try.func22, Try.ntmps22
  go_wp2
  go_ret
  exact ⟨rfl, rfl⟩

set_option maxHeartbeats 400000 in
theorem left_core (r : Nat) (ao : Option Addr) (n cap a : Nat) (w : World) (h0 : w.cell? ⟨r, 0, none⟩ = some (.slice ao n cap)) (h1 : w.cell? ⟨r, 1, none⟩ = some (.int .i64 a)) (h2 : w.cell? ⟨r, 2, none⟩ = some (.bool false)) (hn : n ≤ 140737488355328) (ha : a ≤ n) :
    Calls Try.prog 22 #[.pointer (some ⟨r, 0, none⟩)] w fun e w' => e = .returned (.int .i64 ((n : Int) - a)) ∧ ∃ nq, w' = w.drewN nq := by
  go_enter Try.func22, Try.ntmps22
  go_wp2
  go_quiet (fail)
  go_wp2
  go_ret
  exact ⟨rfl, _, rfl⟩

theorem left_any (r : Nat) (v : Value) (bs : List Int) (a : Nat) (f : Bool) (w : World) (h : Rd w r v bs a f) :
    Calls Try.prog 22 #[.pointer (some ⟨r, 0, none⟩)] w fun e w' => e = .returned (.int .i64 (if f then 0 else (bs.length : Int) - a)) ∧ ∃ nq, w' = w.drewN nq := by
  cases f with
  | true => exact (left_failed r v bs a w h).mono fun e w' ⟨h1, h2⟩ => ⟨h1, 0, h2⟩
  | false =>
    rcases h.own.2 with ⟨hv, h0⟩ | ⟨g, cap, cur, hv, _⟩
    · subst hv
      have := left_core r none 0 0 a w h.c0 h.c1 h.c2 (by omega) (by have := h.le; omega)
      rw [h0]; exact this
    · subst hv
      exact left_core r _ bs.length cap a w h.c0 h.c1 h.c2 h.len h.le

theorem noGoto_jump {l : Nat} {J : Act → World → Prop} {Q : Exit → Act → World → Prop} (e : Exit) (a : Act) (w : World) (h : Exit.noGoto Q e a w) : Exit.jump l J Q e a w := by
  cases e <;> first | exact h | exact h.elim

/-- A scope in which the run may jump forward to one label, once. -/
theorem wp_scope_once {P : Program} {a : Act} {w : World} {Q : Exit → Act → World → Prop} {c rest : Code} (l : Nat) (hf : findLabel c l = some rest)
    (h : c.wp P (Exit.jump l (fun a' w' => rest.wp P (Exit.noGoto Q) a' w') Q) a w) : (Code.scope c).wp P Q a w := by
  refine wp_scope_jumps l (fun a' w' => rest.wp P (Exit.noGoto Q) a' w') (fun _ _ => 0) hf h ?_
  intro a' w' hJ b k cs
  obtain ⟨e, a₁, w₁, hq, harr⟩ := hJ b k cs
  exact ⟨e, a₁, w₁, noGoto_jump e a₁ w₁ hq, harr⟩

theorem left_any' (r : Nat) (v : Value) (bs : List Int) (a : Nat) (f : Bool) (w : World) (h : Rd w r v bs a f) (l : Int) (hl : (if f then 0 else (bs.length : Int) - a) = l) :
    Calls Try.prog 22 #[.pointer (some ⟨r, 0, none⟩)] w fun e w' => e = .returned (.int .i64 l) ∧ ∃ nq, w' = w.drewN nq := by
  subst hl; exact left_any r v bs a f w h

set_option maxHeartbeats 400000 in
theorem number_fail_core (r : Nat) (v : Value) (bs : List Int) (a : Nat) (f : Bool) (size : Int) (w : World) (h : Rd w r v bs a f) (l : Int) (hl : Hid ((if f then 0 else (bs.length : Int) - a) = l)) (hs : l < size) :
    Calls Try.prog 32 #[.pointer (some ⟨r, 0, none⟩), .int .i64 size] w fun e w' => e = .returned (.int .u32 0) ∧ Rd w' r v bs a true ∧ Ch (· = r) w w' := by
  go_enter Try.func32, Try.ntmps32
  go_wp2_with fail
  refine wp_scope_once 0 (by rfl) ?_
  go_wp2_with fail
  refine (left_any' r v bs a f _ h l hl.out).mono ?_
  rintro e w' ⟨rfl, nq, rfl⟩
  have c2 := (h.drewN nq).c2
  have cf := (h.drewN nq).fz 2
  go_wp2
  go_step3
  refine And.intro rfl ?_
  change Code.wp Try.prog _ _ _ _
  go_wp2
  rw [Exit.noGoto_ret]
  go_ret
  exact ⟨rfl, (h.drewN nq).set2 true, Ch.setCell (S := (· = r)) ((Ch.refl _ _).drewN nq) (Or.inl rfl) _⟩

theorem number_fail (r : Nat) (v : Value) (bs : List Int) (a : Nat) (f : Bool) (size : Int) (w : World) (h : Rd w r v bs a f) (hs : (if f then 0 else (bs.length : Int) - a) < size) :
    Calls Try.prog 32 #[.pointer (some ⟨r, 0, none⟩), .int .i64 size] w fun e w' => e = .returned (.int .u32 0) ∧ Rd w' r v bs a true ∧ Ch (· = r) w w' :=
  number_fail_core r v bs a f size w h _ rfl hs

set_option maxHeartbeats 400000 in
theorem number_ok_core (r g cap : Nat) (bs : List Int) (a size : Nat) (w : World) (h : Rd w r (.slice (some ⟨g, 0, none⟩) bs.length cap) bs a false) (hcap : bs.length ≤ cap)
    (hcell : ∀ k, k < bs.length → w.cell? ⟨g, k, none⟩ = some (.int .u8 (bs.getD k 0))) (h1 : 1 ≤ size) (h4 : size ≤ 4) (hle : a + size ≤ bs.length) :
    Calls Try.prog 32 #[.pointer (some ⟨r, 0, none⟩), .int .i64 size] w fun e w' => e = .returned (.int .u32 (num ((bs.drop a).take size))) ∧ Rd w' r (.slice (some ⟨g, 0, none⟩) bs.length cap) bs (a + size) false ∧ Ch (· = r) w w' := by
  have hlen := h.len
  obtain ⟨l, hl⟩ : ∃ l : Int, l = (bs.length : Int) - a := ⟨_, rfl⟩
  have hls : decide (l < (size : Int)) = false := by simp; omega
  have HL : Hid (l = (bs.length : Int) - a) := hl
  clear hl
  have c0 := h.c0
  have c1 := h.c1
  have cf := h.fz 1
  go_enter Try.func32, Try.ntmps32
  go_wp2_with fail
  go_step3
  go_wp2_with fail
  refine (left_any' r _ bs a false _ h l (by simp; exact HL.out.symm)).mono ?_
  rintro e w' ⟨rfl, nq, rfl⟩
  go_wp2
  go_quiet (fail)
  go_wp2
  go_loop [5, 30] (fun n i => ∃ k : Nat, k ≤ size ∧ i = .int .i64 k ∧ n = .int .u32 (num ((bs.drop a).take k))) (fun _ i => size - (intOf i).toNat)
  case atStart => exact ⟨0, Nat.zero_le _, rfl, rfl⟩
  case round =>
    obtain ⟨k, hk, rfl, rfl⟩ := hrel
    by_cases hlt : k < size
    · have hc := hcell (a + k) (by omega)
      go_wp2
      refine ⟨⟨_, _, _, ⟨k + 1, by omega, ?_, ?_⟩, rfl, rfl, rfl⟩, ?_⟩
      · go_num
      · exact congrArg (Value.int .u32) (num_round bs a k h.small (by omega) (by omega))
      · simp [intOf]; omega
    · have hks : k = size := by omega
      subst hks
      go_wp2
      go_ret
      exact ⟨rfl, (h.drewN _).set1 (a + k) hle, Ch.setCell (S := (· = r)) ((Ch.refl _ _).drewN _) (Or.inl rfl) _⟩

theorem number_ok (r : Nat) (v : Value) (bs : List Int) (a size : Nat) (w : World) (h : Rd w r v bs a false) (h1 : 1 ≤ size) (h4 : size ≤ 4) (hle : a + size ≤ bs.length) :
    Calls Try.prog 32 #[.pointer (some ⟨r, 0, none⟩), .int .i64 size] w fun e w' => e = .returned (.int .u32 (num ((bs.drop a).take size))) ∧ Rd w' r v bs (a + size) false ∧ Ch (· = r) w w' := by
  obtain ⟨g, cap, rfl, hc1, _, _, hcell⟩ := h.form (by omega)
  exact number_ok_core r g cap bs a size w h hc1 hcell h1 h4 hle

theorem u1_ok (r : Nat) (v : Value) (bs : List Int) (a : Nat) (w : World) (h : Rd w r v bs a false) (hle : a + 1 ≤ bs.length) :
    Calls Try.prog 16 #[.pointer (some ⟨r, 0, none⟩)] w fun e w' => e = .returned (.int .i64 (num ((bs.drop a).take 1))) ∧ Rd w' r v bs (a + 1) false ∧ Ch (· = r) w w' := by
  have hn := number_ok r v bs a 1 w h (by omega) (by omega) hle
  have hb := num_take_bd bs a 1 h.small hle
  have hp : pw 1 = 256 := by decide
  rw [hp] at hb
  clear hp
  generalize num ((bs.drop a).take 1) = n at hn hb ⊢
  obtain ⟨hb0, hb1⟩ := hb
  go_enter Try.func16, Try.ntmps16
  go_wp2_with fail
  refine hn.mono ?_
  rintro e w' ⟨rfl, h1, h2⟩
  go_wp2
  go_ret
  exact ⟨rfl, h1, h2⟩

theorem u1_fail (r : Nat) (v : Value) (bs : List Int) (a : Nat) (f : Bool) (w : World) (h : Rd w r v bs a f) (hs : (if f then 0 else (bs.length : Int) - a) < 1) :
    Calls Try.prog 16 #[.pointer (some ⟨r, 0, none⟩)] w fun e w' => e = .returned (.int .i64 0) ∧ Rd w' r v bs a true ∧ Ch (· = r) w w' := by
  have hn := number_fail r v bs a f 1 w h hs
  clear hs
  go_enter Try.func16, Try.ntmps16
  go_wp2_with fail
  refine hn.mono ?_
  rintro e w' ⟨rfl, h1, h2⟩
  go_wp2
  go_ret
  exact ⟨rfl, h1, h2⟩

theorem u2_ok (r : Nat) (v : Value) (bs : List Int) (a : Nat) (w : World) (h : Rd w r v bs a false) (hle : a + 2 ≤ bs.length) :
    Calls Try.prog 17 #[.pointer (some ⟨r, 0, none⟩)] w fun e w' => e = .returned (.int .i64 (num ((bs.drop a).take 2))) ∧ Rd w' r v bs (a + 2) false ∧ Ch (· = r) w w' := by
  have hn := number_ok r v bs a 2 w h (by omega) (by omega) hle
  have hb := num_take_bd bs a 2 h.small hle
  have hp : pw 2 = 65536 := by decide
  rw [hp] at hb
  clear hp
  generalize num ((bs.drop a).take 2) = n at hn hb ⊢
  obtain ⟨hb0, hb1⟩ := hb
  go_enter Try.func17, Try.ntmps17
  go_wp2_with fail
  refine hn.mono ?_
  rintro e w' ⟨rfl, h1, h2⟩
  go_wp2
  go_ret
  exact ⟨rfl, h1, h2⟩

theorem u2_fail (r : Nat) (v : Value) (bs : List Int) (a : Nat) (f : Bool) (w : World) (h : Rd w r v bs a f) (hs : (if f then 0 else (bs.length : Int) - a) < 2) :
    Calls Try.prog 17 #[.pointer (some ⟨r, 0, none⟩)] w fun e w' => e = .returned (.int .i64 0) ∧ Rd w' r v bs a true ∧ Ch (· = r) w w' := by
  have hn := number_fail r v bs a f 2 w h hs
  clear hs
  go_enter Try.func17, Try.ntmps17
  go_wp2_with fail
  refine hn.mono ?_
  rintro e w' ⟨rfl, h1, h2⟩
  go_wp2
  go_ret
  exact ⟨rfl, h1, h2⟩

def sgn (n : Int) : Int := if n < 2147483648 then n else n - 4294967296
theorem wrap_sgn (n : Int) (h0 : 0 ≤ n) (h1 : n < 4294967296) : wrap64 (wrap32 n) = sgn n := by
  unfold wrap64 wrap32 sgn; split <;> omega
theorem i4_ok (r : Nat) (v : Value) (bs : List Int) (a : Nat) (w : World) (h : Rd w r v bs a false) (hle : a + 4 ≤ bs.length) :
    Calls Try.prog 18 #[.pointer (some ⟨r, 0, none⟩)] w fun e w' => e = .returned (.int .i64 (sgn (num ((bs.drop a).take 4)))) ∧ Rd w' r v bs (a + 4) false ∧ Ch (· = r) w w' := by
  have hn := number_ok r v bs a 4 w h (by omega) (by omega) hle
  have hb := num_take_bd bs a 4 h.small hle
  have hp : pw 4 = 4294967296 := by decide
  rw [hp] at hb
  clear hp
  generalize num ((bs.drop a).take 4) = n at hn hb ⊢
  obtain ⟨hb0, hb1⟩ := hb
  go_enter Try.func18, Try.ntmps18
  go_wp2_with fail
  refine hn.mono ?_
  rintro e w' ⟨rfl, h1, h2⟩
  go_wp2
  go_ret
  exact ⟨congrArg (fun x => Ending.returned (.int .i64 x)) (wrap_sgn n hb0 hb1), h1, h2⟩

theorem i4_fail (r : Nat) (v : Value) (bs : List Int) (a : Nat) (f : Bool) (w : World) (h : Rd w r v bs a f) (hs : (if f then 0 else (bs.length : Int) - a) < 4) :
    Calls Try.prog 18 #[.pointer (some ⟨r, 0, none⟩)] w fun e w' => e = .returned (.int .i64 0) ∧ Rd w' r v bs a true ∧ Ch (· = r) w w' := by
  have hn := number_fail r v bs a f 4 w h hs
  clear hs
  go_enter Try.func18, Try.ntmps18
  go_wp2_with fail
  refine hn.mono ?_
  rintro e w' ⟨rfl, h1, h2⟩
  go_wp2
  go_ret
  exact ⟨rfl, h1, h2⟩

set_option maxHeartbeats 400000 in
theorem err_ok (r : Nat) (v : Value) (bs : List Int) (a : Nat) (w : World) (h : Rd w r v bs a false) :
    Calls Try.prog 20 #[.pointer (some ⟨r, 0, none⟩)] w fun e w' => e = .returned (.tuple #[.int .i64 0, .int .i64 0]) ∧ ∃ nq, w' = w.drewN nq := by
  have h2 := h.c2
  go_enter Try.func20, Try.ntmps20
  go_wp2
  go_ret2
  exact ⟨rfl, 0, rfl⟩

set_option maxHeartbeats 400000 in
theorem err_failed (r : Nat) (v : Value) (bs : List Int) (a : Nat) (w : World) (h : Rd w r v bs a true) :
    Calls Try.prog 20 #[.pointer (some ⟨r, 0, none⟩)] w fun e w' => e = .returned (.tuple #[.int .i64 2, .int .i64 a]) ∧ ∃ nq, w' = w.drewN nq := by
  have h1 := h.c1
  have h2 := h.c2
  go_enter Try.func20, Try.ntmps20
  go_wp2
  go_quiet (fail)
  go_wp2
  go_ret2
  exact ⟨rfl, _, rfl⟩

end Go.Proofs.Ytgjddpfijnmeeaa
