/- A text's place in a list; what a pool holds. -/
import Derived.Test.YtdalibfgkkgcpabChkF
import Derived.Test.YtdalibfgkkgcpabEqA
namespace Go.Proofs.Ytdalibfgkkgcpab
open Go.RowKit
set_option linter.unusedVariables false

/-- A text's place in a list, from k on; -1: it is not there. -/
def inI : List ByteArray → ByteArray → Int → Int
  | [], _, _ => -1
  | x :: r, s, k => if eqT x s then k else inI r s (k + 1)
theorem eqT_iff (x s : ByteArray) : eqT x s = true ↔ bl x = bl s := by simp [eqT, bl_toList]
theorem inI_eq : ∀ (xs : List ByteArray) (s : ByteArray) (k : Int), inI xs s k = if bl s ∈ xs.map bl then k + ((xs.map bl).idxOf (bl s) : Int) else -1
  | [], s, k => by simp [inI]
  | x :: r, s, k => by
    rw [inI, inI_eq r s (k + 1)]
    by_cases h : eqT x s = true
    · rw [if_pos h]
      have e := (eqT_iff x s).1 h
      simp [e]
    · rw [if_neg h]
      have e : bl x ≠ bl s := fun e => h ((eqT_iff x s).2 e)
      by_cases hm : bl s ∈ r.map bl
      · rw [if_pos hm, if_pos (by simp [List.map_cons, List.mem_cons] at hm ⊢; exact Or.inr hm)]
        have e2 : ((bl x :: r.map bl).idxOf (bl s)) = (r.map bl).idxOf (bl s) + 1 := by rw [List.idxOf_cons, beq_eq_false_iff_ne.2 e]; rfl
        rw [List.map_cons, e2]
        omega
      · rw [if_neg hm, if_neg (by rw [List.map_cons, List.mem_cons]; exact fun h' => h'.elim (fun h' => e h'.symm) hm)]
theorem inI_step {xs : List ByteArray} {s : ByteArray} {k : Nat} {x : ByteArray} (h : xs[k]? = some x) : inI (xs.drop k) s k = if eqT x s then (k : Int) else inI (xs.drop (k + 1)) s (k + 1) := by
  obtain ⟨h1, e1⟩ := List.getElem?_eq_some_iff.1 h
  rw [List.drop_eq_getElem_cons h1, e1, inI]
theorem inI_end {xs : List ByteArray} {s : ByteArray} {k : Nat} {i : Int} (h : xs.length ≤ k) : inI (xs.drop k) s i = -1 := by
  rw [List.drop_eq_nil_of_le h]; rfl

set_option maxHeartbeats 2000000 in
theorem in_any (xs : List ByteArray) (s : ByteArray) (v : Value) (w : World) (hx : Sl 1 RS w v xs) :
    Calls Try.prog 13 #[v, .string s] w fun e w' => e = .returned (.int .i64 (inI xs s 0)) ∧ w' = w := by
  obtain ⟨ax, cx, rfl, hx1, hx2⟩ := hx.form
  obtain ⟨r, hr⟩ : ∃ r, inI xs s 0 = r := ⟨_, rfl⟩
  rw [hr]
  go_enter Try.func13, Try.ntmps13
  go_wp2
  go_loop [5] (fun i => ∃ k : Nat, k ≤ xs.length ∧ i = .int .i64 k ∧ inI (xs.drop k) s k = r) (fun i => xs.length - (intOf i).toNat)
  case atStart => exact ⟨0, Nat.zero_le _, rfl, by simpa using hr⟩
  case round =>
    obtain ⟨k, hk, rfl, hd⟩ := hrel
    by_cases hlt : k < xs.length
    · obtain ⟨x, hxk⟩ : ∃ a, xs[k]? = some a := ⟨_, List.getElem?_eq_getElem hlt⟩
      obtain ⟨b, off, hao, d0⟩ := hx.atS hxk
      rw [inI_step hxk] at hd
      have HD : Hid ((if eqT x s then (k : Int) else inI (xs.drop (k + 1)) s (k + 1)) = r) := hd
      clear hd hxk hr
      subst hao
      obtain ⟨q, hq⟩ : ∃ q, (x.toList == s.toList) = q := ⟨_, rfl⟩
      have HQ : Hid (eqT x s = q) := hq
      cases q
      · go_wp2
        go_round
        case rel => exact ⟨k + 1, by omega, by go_num, by have e := HD.out; rw [HQ.out] at e; simpa using e⟩
        case measure => simp [intOf]; omega
      · go_wp2
        go_ret
        have e := HD.out
        rw [HQ.out, if_pos rfl] at e
        exact ⟨congrArg (fun b => Ending.returned (.int .i64 b)) e, rfl⟩
    · obtain rfl : k = xs.length := by omega
      rw [inI_end (Nat.le_refl _)] at hd
      subst hd
      clear hr
      go_wp2
      go_ret
      exact ⟨rfl, rfl⟩

def hasB (xs : List ByteArray) (s : ByteArray) : Bool := isIn (xs.map bl) (bl s)
theorem has_any (xs : List ByteArray) (s : ByteArray) (v : Value) (w : World) (hx : Sl 1 RS w v xs) :
    Calls Try.prog 7 #[v, .string s] w fun e w' => e = .returned (.bool (hasB xs s)) ∧ w' = w := by
  have hin : ∀ w0, _ := fun w0 => in_any xs s v w0
  obtain ⟨ax, cx, rfl, hx1, hx2⟩ := hx.form
  have e : decide (0 ≤ inI xs s 0) = hasB xs s := by
    rw [inI_eq, hasB, isIn]
    by_cases h : bl s ∈ xs.map bl
    · rw [if_pos h]; simp only [h, decide_true]; simp
    · rw [if_neg h]; simp only [h, decide_false]; rfl
  rw [← e]
  generalize inI xs s 0 = r at *
  clear e
  go_enter Try.func7, Try.ntmps7
  go_wp2_with (first
    | (go_at_call 13; (with_reducible refine (hin _ hx).mono ?_); rintro e w' ⟨rfl, hw⟩; have hw := hw.symm; subst hw))
  go_ret
  exact ⟨rfl, rfl⟩

/-- Texts, each once: none stands twice, all are there, in their order. -/
theorem addL_nodup : ∀ (xs ts : List (List UInt8)), ts.Nodup → (addL ts xs).Nodup
  | [], ts, h => h
  | s :: r, ts, h => by
    rw [addL]
    refine addL_nodup r _ ?_
    by_cases hm : s ∈ ts
    · simp [isIn, hm, h]
    · simp only [isIn, hm, decide_false]
      rw [if_neg (by simp), List.nodup_append]
      exact ⟨h, by simp, fun a ha b hb => by simp at hb; subst hb; exact fun e => hm (e ▸ ha)⟩
theorem addL_pre : ∀ (xs ts : List (List UInt8)), ∃ r, addL ts xs = ts ++ r
  | [], ts => ⟨[], by simp [addL]⟩
  | s :: r, ts => by
    rw [addL]
    obtain ⟨q, hq⟩ := addL_pre r (if isIn ts s then ts else ts ++ [s])
    rw [hq]
    by_cases hm : isIn ts s = true
    · exact ⟨q, by rw [if_pos hm]⟩
    · exact ⟨[s] ++ q, by rw [if_neg hm]; simp⟩
theorem addL_mem : ∀ (xs ts : List (List UInt8)) (s : List UInt8), s ∈ addL ts xs ↔ s ∈ ts ∨ s ∈ xs
  | [], ts, s => by simp [addL]
  | x :: r, ts, s => by
    rw [addL, addL_mem r _ s]
    by_cases hm : x ∈ ts
    · simp only [isIn, hm, decide_true, if_true, List.mem_cons]
      constructor
      · exact fun h => h.elim Or.inl (fun h => Or.inr (Or.inr h))
      · exact fun h => h.elim Or.inl (fun h => h.elim (fun e => Or.inl (e ▸ hm)) Or.inr)
    · simp only [isIn, hm, decide_false, List.mem_cons]
      rw [if_neg (by simp)]
      simp only [List.mem_append, List.mem_singleton]
      constructor
      · exact fun h => h.elim (fun h => h.elim Or.inl (fun h => Or.inr (Or.inl h))) (fun h => Or.inr (Or.inr h))
      · exact fun h => h.elim (fun h => Or.inl (Or.inl h)) (fun h => h.elim (fun h => Or.inl (Or.inr h)) Or.inr)
theorem poolL_mem (c : Cls) (s : List UInt8) : s ∈ poolL c ↔ s ∈ clsX c := by rw [poolL, addL_mem]; simp
theorem poolL_nodup (c : Cls) : (poolL c).Nodup := addL_nodup _ _ List.nodup_nil
theorem poolL_first (c : Cls) : (poolL c)[0]? = some (bl c.n) ∧ (bl c.s ≠ bl c.n → (poolL c)[1]? = some (bl c.s)) := by
  unfold poolL clsX
  simp only [List.cons_append, addL, isIn, List.not_mem_nil, decide_false, Bool.false_eq_true, if_false, List.nil_append, List.mem_singleton]
  by_cases h : bl c.s = bl c.n
  · simp only [h, decide_true, if_true]
    obtain ⟨r, hr⟩ := addL_pre (c.im.map bl ++ (c.fs.flatMap fldX ++ c.me.flatMap mthX)) [bl c.n]
    rw [hr]
    exact ⟨rfl, fun h' => absurd rfl h'⟩
  · simp only [h, decide_false, Bool.false_eq_true, if_false]
    obtain ⟨r, hr⟩ := addL_pre (c.im.map bl ++ (c.fs.flatMap fldX ++ c.me.flatMap mthX)) [bl c.n, bl c.s]
    rw [hr]
    exact ⟨rfl, fun _ => rfl⟩
theorem take_not_in {α : Type} {l : List α} (h : l.Nodup) {k : Nat} {x : α} (hk : l[k]? = some x) : x ∉ l.take k := by
  intro hm
  obtain ⟨i, hi, e⟩ := List.mem_iff_getElem.1 hm
  have hik : i < k := by have := List.length_take_le k l; omega
  obtain ⟨hk', e'⟩ := List.getElem?_eq_some_iff.1 hk
  rw [List.getElem_take] at e
  have := (List.getElem_inj h).1 (e.trans e'.symm)
  omega
theorem Sl.takeS {w : World} {ao : Option Addr} {n cap k : Nat} {xs : List ByteArray} (h : Sl 1 RS w (.slice ao n cap) xs) (hk : k ≤ n) : Sl 1 RS w (.slice ao k cap) (xs.take k) := by
  obtain ⟨ao', cap', hv, h1, h2, h3⟩ := h
  obtain ⟨rfl, rfl, rfl⟩ : ao = ao' ∧ n = xs.length ∧ cap = cap' := by simpa using hv
  have hl : (xs.take k).length = k := by rw [List.length_take]; omega
  refine ⟨ao, cap, by rw [hl], by omega, h2, fun hp => ?_⟩
  obtain ⟨b, off, ha, hc⟩ := h3 (by omega)
  refine ⟨b, off, ha, fun i a hi => hc i a ?_⟩
  obtain ⟨hi1, hi2⟩ := List.getElem?_eq_some_iff.1 hi
  rw [List.getElem_take] at hi2
  exact List.getElem?_eq_some_iff.2 ⟨by omega, hi2⟩
end Go.Proofs.Ytdalibfgkkgcpab
