/- LinkMany, walked. -/
import Derived.Test.YthmepecmeambmaaGreatKLmB
namespace Go.Proofs.YthmepecmeambmaaGreat
open Go.RowKit
set_option linter.unusedVariables false

theorem Oc.rc {B : Nat} {w : World} {v : Value} {L : List Cls} (h : Oc B w v L) : Sl 7 RC w v L :=
  Ow.sl (Ow.imp h fun cs a ⟨vi, vf, vm, e, ho⟩ => ⟨vi, vf, vm, e, ho.at⟩)
theorem OwC.empty {B : Nat} {w : World} {n s : ByteArray} {it ab : Bool} : OwC B w ⟨n, s, it, ab, [], [], []⟩ (.slice none 0 0) (.slice none 0 0) (.slice none 0 0) := ⟨Ow.nil, Ow.nil, Ow.nil⟩
def nameK (i : Nat) : ByteArray := (⟨#[75]⟩ : ByteArray) ++ strOfNums (decN i)
def cK (i : Nat) : Cls := ⟨nameK i, nObject, false, false, [], [], []⟩
def many (n : Nat) : List Cls := (List.range n).map cK
theorem many_len (n : Nat) : (many n).length = n := by simp [many]
theorem many_succ (n : Nat) : many (n + 1) = many n ++ [cK n] := by simp [many, List.range_succ]
theorem nameK_size (i : Nat) : (nameK i).size ≤ 3 := by
  unfold nameK
  rw [ByteArray.size_append, str_size]
  have : (decN i).length ≤ 2 := by unfold decN; split <;> simp
  have e : (⟨#[75]⟩ : ByteArray).size = 1 := rfl
  omega
theorem many_ok (n : Nat) : okCs (many n) := fun c hc => by
  obtain ⟨i, _, rfl⟩ := List.mem_map.1 hc
  have h1 := nameK_size i
  have e : nObject.size = 6 := rfl
  unfold cK clsT
  simp
  omega
theorem many_all : ((List.range 31).all fun n => (link (many n)).1.isSome) = true := by decide +kernel
theorem many_yes {n : Nat} (h : n ≤ 30) : link (many n) = (some (prog (many n)), 0, nNone) :=
  link_ok (List.all_eq_true.1 many_all n (List.mem_range.2 (by omega)))
theorem many_no {n : Nat} (h : 30 < n) : link (many n) = (none, 5, nNone) := by
  unfold link
  rw [if_pos (by rw [many_len]; exact h)]

set_option maxHeartbeats 8000000 in
set_option maxRecDepth 100000 in
theorem many_walk (n : Int) (w : World) : Calls Tryz.prog 10 #[.int .i64 n] w fun e w' => e = .returned (.bool true) ∧ Ch w w' := by
  by_cases hn : n < 0 ∨ 40 < n
  · go_enter Tryz.func10, Tryz.ntmps10
    go_wp2_with (first
      | (go_at_call 23; (with_reducible refine (awake6 _).mono ?_); rintro e w2 ⟨rfl, c2⟩)
      | fail)
    all_goals
      go_ret
      exact ⟨rfl, c2⟩
  · obtain ⟨m, rfl⟩ : ∃ m : Nat, n = (m : Int) := ⟨n.toNat, by omega⟩
    have hm : m ≤ 40 := by omega
    have hm40 : (m : Int) ≤ 40 := by omega
    clear hn
    go_enter Tryz.func10, Tryz.ntmps10
    go_wp2_with fail
    go_loopw [3, 4] (fun v i wr => ∃ k : Nat, k ≤ m ∧ i = .int .i64 k ∧ Oc w.heap.size wr v (many k) ∧ Ch w wr) (fun _ i _ => m - (intOf i).toNat)
    case atStart => exact ⟨0, Nat.zero_le _, rfl, Ow.nil, Ch.refl _⟩
    case round =>
      obtain ⟨k, hk, rfl, hO, hcr⟩ := hrel
      by_cases hlt : k < m
      · obtain ⟨ao, cc, rfl⟩ := Ow.form hO
        rw [many_len]
        have hsz := hcr.size
        have HO : Hid (Oc w.heap.size wr (.slice ao k cc) (many k)) := (show Oc w.heap.size wr (.slice ao k cc) (many k) by rw [many_len] at hO; exact hO)
        have HC : Hid (Ch w wr) := hcr
        have hss : (strOfNums (decN k)).size ≤ 2 := by
          rw [str_size]; unfold decN; split <;> simp
        have HD := decimal_any k wr (by omega)
        obtain ⟨s, hs⟩ : ∃ s, strOfNums (decN k) = s := ⟨_, rfl⟩
        rw [hs] at HD hss
        have HS : Hid (cK k = ⟨(⟨#[75]⟩ : ByteArray) ++ s, nObject, false, false, [], [], []⟩) := (show cK k = _ by unfold cK nameK; rw [hs])
        clear hO hcr hs
        go_wp2_with (first
          | (go_at_call 44; (with_reducible refine HD.mono ?_); clear HD; rintro e w3 ⟨rfl, c3⟩; have hs3 := c3.size)
          | (at_builtin; refine ((HO.out.keep c3).keep ((Ch.refl w3).alloc _)).append (NL := [cK k]) rfl (.tmp 21) (.tmp 26) rfl rfl (fun _ => [.string ((⟨#[75]⟩ : ByteArray) ++ s), .string nObject, .bool false, .bool false, .slice none 0 0, .slice none 0 0, .slice none 0 0]) (fun i c' hi => ?_) (fun _ => rfl) w3.heap.size 1 1 rfl rfl (heap_alloc_new _ _) (by rw [many_len]; omega) (by simp; omega) (Nat.le_refl _) ((HC.out.trans c3).alloc _) ?_; (match i, hi with | 0, hi => cases hi; rw [HS.out]; exact ⟨_, _, _, rfl, OwC.empty⟩); intro v6 w6 o6 c6 b6)
          | fail)
        exact ⟨⟨k + 1, by omega, by go_num, by rw [many_succ]; exact o6, c6⟩, by simp [intOf]; omega⟩
      · obtain rfl : k = m := by omega
        have hcl := classes_any (many k) _ wr hO.rc (many_ok k)
        obtain ⟨ao, cc, rfl⟩ := Ow.form hO
        rw [many_len] at hcl ⊢
        have HC : Hid (Ch w wr) := hcr
        clear hO hcr
        by_cases h30 : k ≤ 30
        · rw [many_yes h30] at hcl
          have hk30 : (k : Int) ≤ 30 := by omega
          have hpl : (prog (many k)).length = 12 + k := by rw [(prog_perm _).length_eq, List.length_append, many_len]; rfl
          go_wp2_with (first
            | (go_at_call 24; (with_reducible refine hcl.mono ?_); clear hcl; rintro e w3 ⟨v3, rfl, ⟨g, b, rfl, hP⟩, c3⟩; have hnm := namesAll_any _ g b w3 hP)
            | (go_at_call 26; (with_reducible refine hnm.mono ?_); clear hnm; rintro e w4 ⟨v4, rfl, o4, c4⟩; obtain ⟨a4, d4, rfl⟩ := o4.form; have hl4 : (nms (prog (many k))).length = 12 + k := (by unfold nms; rw [List.length_map, hpl]); rw [hl4])
            | (go_at_call 41; (with_reducible refine (builtin_any _).mono ?_); rintro e w5 ⟨v5, rfl, o5, c5⟩; obtain ⟨a5, d5, rfl⟩ := Ow.form o5; have hl5 : given.length = 12 := rfl; rw [hl5])
            | (go_at_call 23; (with_reducible refine (awake6 _).mono ?_); rintro e w6 ⟨rfl, c6⟩)
            | fail)
          go_ret
          exact ⟨rfl, (((HC.out.trans c3).trans c4).trans c5).trans c6⟩
        · rw [many_no (by omega)] at hcl
          have hk30 : (30 : Int) < (k : Int) := by omega
          go_wp2_with (first
            | (go_at_call 24; (with_reducible refine hcl.mono ?_); clear hcl; rintro e w3 ⟨v3, rfl, rfl, c3⟩)
            | (go_at_call 23; (with_reducible refine (awake6 _).mono ?_); rintro e w6 ⟨rfl, c6⟩)
            | fail)
          go_ret
          exact ⟨rfl, (HC.out.trans c3).trans c6⟩
end Go.Proofs.YthmepecmeambmaaGreat
