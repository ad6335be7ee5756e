/- LinkRings: rings of classes and of interfaces, by evaluation; the law's own function for a name. -/
import Derived.Test.YthmepecmeambmaaGreatKLuA
namespace Go.Proofs.YthmepecmeambmaaGreat
open Go.RowKit
set_option linter.unusedVariables false

def ringC : Bool → Nat → Nat → Cls
  | true, m, k => ⟨nameK k, nObject, true, true, [nameK ((k + 1) % m)], [], []⟩
  | false, m, k => ⟨nameK k, nameK ((k + 1) % m), false, false, [], [], []⟩
def ring (f : Bool) (m n : Nat) : List Cls := (List.range n).map (ringC f m)
def lastC (f : Bool) (m : Nat) : Cls := ⟨nameK (m - 1), nObject, f, f, [], [], []⟩
def ringO (f : Bool) (m : Nat) : List Cls := ring f m (m - 1) ++ [lastC f m]
theorem ring_len (f : Bool) (m n : Nat) : (ring f m n).length = n := by simp [ring]
theorem ring_succ (f : Bool) (m n : Nat) : ring f m (n + 1) = ring f m n ++ [ringC f m n] := by simp [ring, List.range_succ]
theorem ringO_len (f : Bool) {m : Nat} (h : 1 ≤ m) : (ringO f m).length = m := by simp [ringO, ring_len]; omega
def ringB (f : Bool) (m : Nat) : Bool :=
  (!(link (ring f m m)).1.isSome && (link (ring f m m)).2.1 == 8 && !(link (ring f m m)).2.2.toList.isEmpty) &&
  ((link (ringO f m)).1.isSome && (prog (ringO f m)).all (fun c => decide (c.im.length ≤ 1) && c.im.all fun s => (ixN (prog (ringO f m)) s).isSome)) &&
  ((ring f m m).all (fun c => decide (clsT c ≤ 12000)) && (ringO f m).all fun c => decide (clsT c ≤ 12000))
def ringL (m : Nat) : Bool := (ifs (prog (ringO true m)) (nameK 0) ++ if isIf (prog (ringO true m)) (nameK 0) then [nameK 0] else []).length == m && (walkN (prog (ringO false m)) (nameK 0)).1.length == m + 1
theorem ring_t : ((List.range 20).all fun m => ringB true (m + 1)) = true := by decide +kernel
theorem ring_f : ((List.range 20).all fun m => ringB false (m + 1)) = true := by decide +kernel
theorem ring_l : ((List.range 20).all fun m => ringL (m + 1)) = true := by decide +kernel
theorem nmK_any (k : Nat) (w : World) (hk : k ≤ 40) : Calls Tryz.prog 43 #[.int .i64 (k : Int)] w fun e w' => e = .returned (.string (nameK k)) ∧ Ch w w' := by
  have HD := decimal_any k w hk
  unfold nameK
  have hss : (strOfNums (decN k)).size ≤ 2 := by
    rw [str_size]; unfold decN; split <;> simp
  obtain ⟨s, hs⟩ : ∃ s, strOfNums (decN k) = s := ⟨_, rfl⟩
  rw [hs] at HD hss ⊢
  clear hs
  go_enter Tryz.func43, Tryz.ntmps43
  go_wp2_with (first
    | (go_at_call 44; (with_reducible refine HD.mono ?_); clear HD; rintro e w3 ⟨rfl, c3⟩)
    | fail)
  go_ret
  exact ⟨rfl, c3⟩
theorem ringB_all (f : Bool) {m : Nat} (h1 : 1 ≤ m) (h : m ≤ 20) : ringB f m = true := by
  obtain ⟨k, rfl⟩ : ∃ k, m = k + 1 := ⟨m - 1, by omega⟩
  cases f
  · exact List.all_eq_true.1 ring_f k (List.mem_range.2 (by omega))
  · exact List.all_eq_true.1 ring_t k (List.mem_range.2 (by omega))
theorem ring_no (f : Bool) {m : Nat} (h1 : 1 ≤ m) (h : m ≤ 20) : ∃ why, link (ring f m m) = (none, 8, why) ∧ why.toList.isEmpty = false := by
  have hb := ringB_all f h1 h
  unfold ringB at hb
  obtain ⟨hb, _⟩ := Bool.and_eq_true_iff.1 hb
  obtain ⟨hb, _⟩ := Bool.and_eq_true_iff.1 hb
  obtain ⟨hb, e3⟩ := Bool.and_eq_true_iff.1 hb
  obtain ⟨e1, e2⟩ := Bool.and_eq_true_iff.1 hb
  refine ⟨(link (ring f m m)).2.2, link_no (by simpa using e1) ?_, by simpa using e3⟩
  have e2 : (link (ring f m m)).2.1 = 8 := by simpa using e2
  exact Prod.ext e2 rfl
theorem ring_yes (f : Bool) {m : Nat} (h1 : 1 ≤ m) (h : m ≤ 20) : link (ringO f m) = (some (prog (ringO f m)), 0, nNone) ∧ imIn (prog (ringO f m)) := by
  have hb := ringB_all f h1 h
  unfold ringB at hb
  obtain ⟨hb, _⟩ := Bool.and_eq_true_iff.1 hb
  obtain ⟨_, hb⟩ := Bool.and_eq_true_iff.1 hb
  obtain ⟨e1, e2⟩ := Bool.and_eq_true_iff.1 hb
  refine ⟨link_ok e1, fun c hc => ?_⟩
  obtain ⟨e3, e4⟩ := Bool.and_eq_true_iff.1 (List.all_eq_true.1 e2 c hc)
  have e3 : c.im.length ≤ 1 := by simpa using e3
  exact ⟨by omega, fun s hs => Option.isSome_iff_exists.1 (List.all_eq_true.1 e4 s hs)⟩
theorem ring_ok (f : Bool) {m : Nat} (h1 : 1 ≤ m) (h : m ≤ 20) : okCs (ring f m m) ∧ okCs (ringO f m) := by
  have hb := ringB_all f h1 h
  unfold ringB at hb
  obtain ⟨_, hb⟩ := Bool.and_eq_true_iff.1 hb
  obtain ⟨e1, e2⟩ := Bool.and_eq_true_iff.1 hb
  exact ⟨fun c hc => by simpa using List.all_eq_true.1 e1 c hc, fun c hc => by simpa using List.all_eq_true.1 e2 c hc⟩
theorem ring_lens {m : Nat} (h1 : 1 ≤ m) (h : m ≤ 20) : (ifcE (prog (ringO true m)) (nameK 0)).length = m ∧ (walkN (prog (ringO false m)) (nameK 0)).1.length = m + 1 := by
  obtain ⟨k, rfl⟩ : ∃ k, m = k + 1 := ⟨m - 1, by omega⟩
  have hb : ringL (k + 1) = true := List.all_eq_true.1 ring_l k (List.mem_range.2 (by omega))
  unfold ringL at hb
  obtain ⟨e1, e2⟩ := Bool.and_eq_true_iff.1 hb
  exact ⟨by unfold ifcE; rw [(srtS_perm _).length_eq]; simpa using e1, by simpa using e2⟩
end Go.Proofs.YthmepecmeambmaaGreat
