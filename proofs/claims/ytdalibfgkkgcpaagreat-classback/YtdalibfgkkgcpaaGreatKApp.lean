/- Appending texts to a row of one's own, and bytes to one. -/
import Derived.Test.YtdalibfgkkgcpaaGreatKEqA
import Derived.Test.YtdalibfgkkgcpaaGreatKEncE
import Derived.Lib.AppendStr
import Derived.Deep.QuietTactic
import Derived.BigQuiet
import Derived.Maps.AppendAt
import Derived.Deep.AppendLies
namespace Go.Proofs.YtdalibfgkkgcpaaGreat
open Go.RowKit
set_option linter.unusedVariables false
attribute [local go_sem ↓] Go.wp_at_zero Go.wp_at_succ

theorem wrapU64 (n : Int) : IntKind.u64.wrap n = n % 18446744073709551616 := by simp [IntKind.wrap, IntKind.bits, IntKind.signed]
theorem by0 (n : Int) : IntKind.u64.wrap n % 256 = n / 256 ^ 0 % 256 := by rw [wrapU64]; omega
theorem by1 (n : Int) : IntKind.u64.wrap n / 256 % 256 = n / 256 ^ 1 % 256 := by rw [wrapU64]; omega
theorem by2 (n : Int) : IntKind.u64.wrap n / 65536 % 256 = n / 256 ^ 2 % 256 := by rw [wrapU64]; omega
theorem by3 (n : Int) : IntKind.u64.wrap n / 16777216 % 256 = n / 256 ^ 3 % 256 := by rw [wrapU64]; omega

set_option maxHeartbeats 1000000 in
theorem u_one (n : Int) (w : World) : Calls Tryz.prog 29 #[.int .i64 n, .int .i64 1] w fun e w' => e = .returned (.slice (some ⟨w.heap.size, 0, none⟩) 1 1) ∧ w' = w.alloc (.cells #[.int .u8 (n / 256 ^ 0 % 256)] 5) := by
  have hmk : ∀ w, (Instr.makeSlice 29 (.int .i64 1) (.int .i64 1)).run Tryz.prog w = .ok (.slice (some ⟨w.heap.size, 0, none⟩) 1 1) (w.alloc (.cells #[.int .u8 0] 5)) := fun _ => by kernel_rfl
  go_enter Tryz.func29, Tryz.ntmps29
  go_wp2
  refine wp_loop_rounds 2 ?_
  rw [rounds_succ]
  go_wp2
  rw [rounds_succ]
  go_wp2
  go_ret
  refine ⟨rfl, ?_⟩
  rw [by0 n]

set_option maxHeartbeats 1000000 in
theorem u_two (n : Int) (w : World) : Calls Tryz.prog 29 #[.int .i64 n, .int .i64 2] w fun e w' => e = .returned (.slice (some ⟨w.heap.size, 0, none⟩) 2 2) ∧ w' = w.alloc (.cells #[.int .u8 (n / 256 ^ 1 % 256), .int .u8 (n / 256 ^ 0 % 256)] 5) := by
  have hmk : ∀ w, (Instr.makeSlice 29 (.int .i64 2) (.int .i64 2)).run Tryz.prog w = .ok (.slice (some ⟨w.heap.size, 0, none⟩) 2 2) (w.alloc (.cells #[.int .u8 0, .int .u8 0] 5)) := fun _ => by kernel_rfl
  go_enter Tryz.func29, Tryz.ntmps29
  go_wp2
  refine wp_loop_rounds 3 ?_
  rw [rounds_succ]
  go_wp2
  rw [rounds_succ]
  go_wp2
  rw [rounds_succ]
  go_wp2
  go_ret
  refine ⟨rfl, ?_⟩
  rw [by1 n, by0 n]

set_option maxHeartbeats 1000000 in
theorem u_four (n : Int) (w : World) : Calls Tryz.prog 29 #[.int .i64 n, .int .i64 4] w fun e w' => e = .returned (.slice (some ⟨w.heap.size, 0, none⟩) 4 4) ∧ w' = w.alloc (.cells #[.int .u8 (n / 256 ^ 3 % 256), .int .u8 (n / 256 ^ 2 % 256), .int .u8 (n / 256 ^ 1 % 256), .int .u8 (n / 256 ^ 0 % 256)] 5) := by
  have hmk : ∀ w, (Instr.makeSlice 29 (.int .i64 4) (.int .i64 4)).run Tryz.prog w = .ok (.slice (some ⟨w.heap.size, 0, none⟩) 4 4) (w.alloc (.cells #[.int .u8 0, .int .u8 0, .int .u8 0, .int .u8 0] 5)) := fun _ => by kernel_rfl
  go_enter Tryz.func29, Tryz.ntmps29
  go_wp2
  refine wp_loop_rounds 5 ?_
  rw [rounds_succ]
  go_wp2
  rw [rounds_succ]
  go_wp2
  rw [rounds_succ]
  go_wp2
  rw [rounds_succ]
  go_wp2
  rw [rounds_succ]
  go_wp2
  go_ret
  refine ⟨rfl, ?_⟩
  rw [by3 n, by2 n, by1 n, by0 n]

/-- A slice over a whole new block owns it. -/
theorem owns_new (w : World) (bs : List Int) (hb : bs.length ≤ maxLen) : (w.alloc (.cells (bs.map (Value.int .u8)).toArray 5)).ownsRow w.heap.size 5 1 (.slice (some ⟨w.heap.size, 0, none⟩) bs.length bs.length) bs.length (bs.map (Value.int .u8)) :=
  ⟨by simp, Or.inr ⟨w.heap.size, bs.length, _, rfl, Nat.le_refl _, heap_alloc_new _ _, Nat.le_refl _, hb, by simp, List.take_of_length_le (by simp)⟩⟩

theorem u_any (n : Int) (size : Nat) (s : Int) (w : World) (hs : size = 1 ∨ size = 2 ∨ size = 4) (hss : (size : Int) = s) :
    Calls Tryz.prog 29 #[.int .i64 n, .int .i64 s] w fun e w' => ∃ v, e = .returned v ∧ w'.ownsRow w.heap.size 5 1 v size ((be n size).map (Value.int .u8)) ∧ Ch w w' := by
  subst hss
  rcases hs with rfl | rfl | rfl
  · exact (u_one n w).mono fun e w' ⟨h1, h2⟩ => by subst h2; exact ⟨_, h1, owns_new w (be n 1) (by simp [be, maxLen]), (Ch.refl _).alloc _⟩
  · exact (u_two n w).mono fun e w' ⟨h1, h2⟩ => by subst h2; exact ⟨_, h1, owns_new w (be n 2) (by simp [be, maxLen]), (Ch.refl _).alloc _⟩
  · exact (u_four n w).mono fun e w' ⟨h1, h2⟩ => by subst h2; exact ⟨_, h1, owns_new w (be n 4) (by simp [be, maxLen]), (Ch.refl _).alloc _⟩

set_option maxHeartbeats 1000000 in
theorem refText_any (s : ByteArray) (w : World) (hs : s.size ≤ 140737488355320) :
    Calls Tryz.prog 30 #[.string s] w fun e w' => ∃ v, e = .returned v ∧ w'.ownsRow w.heap.size 5 1 v (s.size + 2) ((be s.size 2 ++ sb s).map (Value.int .u8)) ∧ Ch w w' := by
  obtain ⟨i0, hi, hz0, hz1, hz2⟩ := info_parts Tryz.info5
  go_enter Tryz.func30, Tryz.ntmps30
  go_wp2_with fail
  refine (u_any s.size 2 2 w (by omega) rfl).mono ?_
  rintro e w1 ⟨v1, rfl, hown, hch⟩
  go_wp2_with (first | (at_builtin; refine wpList_append_string_at rfl (.tmp 5) (.tmp 6) 29 9 rfl w.heap.size 5 i0 Tryz.underlying29 Tryz.underlying9 hi hz0 hz1 hz2 v1 2 _ rfl hown s rfl (by unfold maxLen; omega) (by omega) hch.size ?_; intro v2 w2 hown2 hgrow hat))
  go_ret
  refine ⟨v2, rfl, ?_, hch.grown hgrow (fun k hk => (hown.lt k hk).1)⟩
  rw [List.map_append, sb_cells, Nat.add_comm]
  exact hown2

/-- A text's place in a list, from k on; -1: it is not there. -/
def inI : List ByteArray → ByteArray → Int → Int
  | [], _, _ => -1
  | x :: r, s, k => if eqT x s then k else inI r s (k + 1)
theorem eqT_iff (x s : ByteArray) : eqT x s = true ↔ bl x = bl s := by simp [eqT, bl_toList]
theorem inI_eq : ∀ (xs : List ByteArray) (s : ByteArray) (k : Int), inI xs s k = if bl s ∈ xs.map bl then k + ((xs.map bl).idxOf (bl s) : Int) else -1
  | [], s, k => by simp [inI]
  | x :: r, s, k => by
    rw [inI, inI_eq r s (k + 1)]
    by_cases h : eqT x s = true
    · rw [if_pos h]
      have e := (eqT_iff x s).1 h
      simp [e]
    · rw [if_neg h]
      have e : bl x ≠ bl s := fun e => h ((eqT_iff x s).2 e)
      by_cases hm : bl s ∈ r.map bl
      · rw [if_pos hm, if_pos (by simp [List.map_cons, List.mem_cons] at hm ⊢; exact Or.inr hm)]
        have e2 : ((bl x :: r.map bl).idxOf (bl s)) = (r.map bl).idxOf (bl s) + 1 := by rw [List.idxOf_cons, beq_eq_false_iff_ne.2 e]; rfl
        rw [List.map_cons, e2]
        omega
      · rw [if_neg hm, if_neg (by rw [List.map_cons, List.mem_cons]; exact fun h' => h'.elim (fun h' => e h'.symm) hm)]
theorem inI_step {xs : List ByteArray} {s : ByteArray} {k : Nat} {x : ByteArray} (h : xs[k]? = some x) : inI (xs.drop k) s k = if eqT x s then (k : Int) else inI (xs.drop (k + 1)) s (k + 1) := by
  obtain ⟨h1, e1⟩ := List.getElem?_eq_some_iff.1 h
  rw [List.drop_eq_getElem_cons h1, e1, inI]
theorem inI_end {xs : List ByteArray} {s : ByteArray} {k : Nat} {i : Int} (h : xs.length ≤ k) : inI (xs.drop k) s i = -1 := by
  rw [List.drop_eq_nil_of_le h]; rfl

set_option maxHeartbeats 2000000 in
theorem in_any (xs : List ByteArray) (s : ByteArray) (v : Value) (w : World) (hx : Sl 1 RS w v xs) :
    Calls Tryz.prog 44 #[v, .string s] w fun e w' => e = .returned (.int .i64 (inI xs s 0)) ∧ w' = w := by
  obtain ⟨ax, cx, rfl, hx1, hx2⟩ := hx.form
  obtain ⟨r, hr⟩ : ∃ r, inI xs s 0 = r := ⟨_, rfl⟩
  rw [hr]
  go_enter Tryz.func44, Tryz.ntmps44
  go_wp2
  go_loop [5] (fun i => ∃ k : Nat, k ≤ xs.length ∧ i = .int .i64 k ∧ inI (xs.drop k) s k = r) (fun i => xs.length - (intOf i).toNat)
  case atStart => exact ⟨0, Nat.zero_le _, rfl, by simpa using hr⟩
  case round =>
    obtain ⟨k, hk, rfl, hd⟩ := hrel
    by_cases hlt : k < xs.length
    · obtain ⟨x, hxk⟩ : ∃ a, xs[k]? = some a := ⟨_, List.getElem?_eq_getElem hlt⟩
      obtain ⟨b, off, hao, d0⟩ := hx.atS hxk
      rw [inI_step hxk] at hd
      have HD : Hid ((if eqT x s then (k : Int) else inI (xs.drop (k + 1)) s (k + 1)) = r) := hd
      clear hd hxk hr
      subst hao
      obtain ⟨q, hq⟩ : ∃ q, (x.toList == s.toList) = q := ⟨_, rfl⟩
      have HQ : Hid (eqT x s = q) := hq
      cases q
      · go_wp2
        go_round
        case rel => exact ⟨k + 1, by omega, by go_num, by have e := HD.out; rw [HQ.out] at e; simpa using e⟩
        case measure => simp [intOf]; omega
      · go_wp2
        go_ret
        have e := HD.out
        rw [HQ.out, if_pos rfl] at e
        exact ⟨congrArg (fun b => Ending.returned (.int .i64 b)) e, rfl⟩
    · obtain rfl : k = xs.length := by omega
      rw [inI_end (Nat.le_refl _)] at hd
      subst hd
      clear hr
      go_wp2
      go_ret
      exact ⟨rfl, rfl⟩

/-- Texts, each once: none stands twice, all are there, in their order. -/
theorem addL_nodup : ∀ (xs ts : List (List UInt8)), ts.Nodup → (addL ts xs).Nodup
  | [], ts, h => h
  | s :: r, ts, h => by
    rw [addL]
    refine addL_nodup r _ ?_
    by_cases hm : s ∈ ts
    · simp [isIn, hm, h]
    · simp only [isIn, hm, decide_false]
      rw [if_neg (by simp), List.nodup_append]
      exact ⟨h, by simp, fun a ha b hb => by simp at hb; subst hb; exact fun e => hm (e ▸ ha)⟩
theorem addL_pre : ∀ (xs ts : List (List UInt8)), ∃ r, addL ts xs = ts ++ r
  | [], ts => ⟨[], by simp [addL]⟩
  | s :: r, ts => by
    rw [addL]
    obtain ⟨q, hq⟩ := addL_pre r (if isIn ts s then ts else ts ++ [s])
    rw [hq]
    by_cases hm : isIn ts s = true
    · exact ⟨q, by rw [if_pos hm]⟩
    · exact ⟨[s] ++ q, by rw [if_neg hm]; simp⟩
theorem addL_mem : ∀ (xs ts : List (List UInt8)) (s : List UInt8), s ∈ addL ts xs ↔ s ∈ ts ∨ s ∈ xs
  | [], ts, s => by simp [addL]
  | x :: r, ts, s => by
    rw [addL, addL_mem r _ s]
    by_cases hm : x ∈ ts
    · simp only [isIn, hm, decide_true, if_true, List.mem_cons]
      constructor
      · exact fun h => h.elim Or.inl (fun h => Or.inr (Or.inr h))
      · exact fun h => h.elim Or.inl (fun h => h.elim (fun e => Or.inl (e ▸ hm)) Or.inr)
    · simp only [isIn, hm, decide_false, List.mem_cons]
      rw [if_neg (by simp)]
      simp only [List.mem_append, List.mem_singleton]
      constructor
      · exact fun h => h.elim (fun h => h.elim Or.inl (fun h => Or.inr (Or.inl h))) (fun h => Or.inr (Or.inr h))
      · exact fun h => h.elim (fun h => Or.inl (Or.inl h)) (fun h => h.elim (fun h => Or.inl (Or.inr h)) Or.inr)
theorem poolL_mem (c : Cls) (s : List UInt8) : s ∈ poolL c ↔ s ∈ clsX c := by rw [poolL, addL_mem]; simp
theorem poolL_nodup (c : Cls) : (poolL c).Nodup := addL_nodup _ _ List.nodup_nil
theorem poolL_first (c : Cls) : (poolL c)[0]? = some (bl c.n) ∧ (bl c.s ≠ bl c.n → (poolL c)[1]? = some (bl c.s)) := by
  unfold poolL clsX
  simp only [List.cons_append, addL, isIn, List.not_mem_nil, decide_false, Bool.false_eq_true, if_false, List.nil_append, List.mem_singleton]
  by_cases h : bl c.s = bl c.n
  · simp only [h, decide_true, if_true]
    obtain ⟨r, hr⟩ := addL_pre (c.im.map bl ++ (c.fs.flatMap fldX ++ c.me.flatMap mthX)) [bl c.n]
    rw [hr]
    exact ⟨rfl, fun h' => absurd rfl h'⟩
  · simp only [h, decide_false, Bool.false_eq_true, if_false]
    obtain ⟨r, hr⟩ := addL_pre (c.im.map bl ++ (c.fs.flatMap fldX ++ c.me.flatMap mthX)) [bl c.n, bl c.s]
    rw [hr]
    exact ⟨rfl, fun _ => rfl⟩
theorem take_not_in {α : Type} {l : List α} (h : l.Nodup) {k : Nat} {x : α} (hk : l[k]? = some x) : x ∉ l.take k := by
  intro hm
  obtain ⟨i, hi, e⟩ := List.mem_iff_getElem.1 hm
  have hik : i < k := by have := List.length_take_le k l; omega
  obtain ⟨hk', e'⟩ := List.getElem?_eq_some_iff.1 hk
  rw [List.getElem_take] at e
  have := (List.getElem_inj h).1 (e.trans e'.symm)
  omega
set_option maxHeartbeats 2000000 in
theorem alikeTexts_any (xs ys : List ByteArray) (v u : Value) (w : World) (hx : Sl 1 RS w v xs) (hy : Sl 1 RS w u ys) :
    Calls Tryz.prog 13 #[v, u] w fun e w' => e = .returned (.bool (eqL eqT xs ys)) ∧ Ch w w' := by
  obtain ⟨ax, cx, rfl, hx1, hx2⟩ := hx.form
  obtain ⟨ay, cy, rfl, hy1, hy2⟩ := hy.form
  by_cases hl : xs.length = ys.length
  · obtain ⟨r, hr⟩ : ∃ r, eqL eqT xs ys = r := ⟨_, rfl⟩
    rw [hr]
    have t1 : ((xs.length : Int) != (ys.length : Int)) = false := by simp [hl]
    go_enter Tryz.func13, Tryz.ntmps13
    go_wp2
    go_loopw [5] (fun i wr => ∃ k : Nat, k ≤ xs.length ∧ i = .int .i64 k ∧ eqL eqT (xs.drop k) (ys.drop k) = r ∧ Ch w wr) (fun i _ => xs.length - (intOf i).toNat)
    case atStart => exact ⟨0, Nat.zero_le _, rfl, by simpa using hr, Ch.refl _⟩
    case round =>
      obtain ⟨k, hk, rfl, hd, hcr⟩ := hrel
      by_cases hlt : k < xs.length
      · obtain ⟨x, hxk⟩ : ∃ a, xs[k]? = some a := ⟨_, List.getElem?_eq_getElem hlt⟩
        obtain ⟨y, hyk⟩ : ∃ a, ys[k]? = some a := ⟨_, List.getElem?_eq_getElem (by omega)⟩
        obtain ⟨b, off, hao, d0⟩ := (hx.keepS hcr).atS hxk
        obtain ⟨b2, off2, hao2, d1⟩ := (hy.keepS hcr).atS hyk
        rw [eqL_step eqT hxk hyk] at hd
        have HD : Hid ((eqT x y && eqL eqT (xs.drop (k + 1)) (ys.drop (k + 1))) = r) := hd
        have HE : Hid (xs.length = ys.length) := hl
        have hlt2 : k < ys.length := by omega
        clear hd hxk hyk hr hl
        subst hao hao2
        obtain ⟨q, hq⟩ : ∃ q, (x.toList == y.toList) = q := ⟨_, rfl⟩
        have HQ : Hid (eqT x y = q) := hq
        cases q
        · go_wp2_with fail
          go_quiet (fail)
          go_wp2
          go_ret
          have e := HD.out
          rw [HQ.out, Bool.false_and] at e
          exact ⟨congrArg (fun b => Ending.returned (.bool b)) e, hcr.drewN _⟩
        · go_wp2_with fail
          go_quiet (fail)
          go_wp2
          go_roundw
          case rel => exact ⟨k + 1, by omega, by go_num, by have e := HD.out; rw [HQ.out, Bool.true_and] at e; exact e, hcr.drewN _⟩
          case measure => simp [intOf]; omega
      · obtain rfl : k = xs.length := by omega
        rw [eqL_end eqT (Nat.le_refl _) (by omega)] at hd
        subst hd
        clear hr
        go_wp2
        go_ret
        exact ⟨rfl, hcr⟩
  · have t1 : ((xs.length : Int) != (ys.length : Int)) = true := by simp; omega
    rw [eqL_len _ _ _ hl]
    clear hl
    go_enter Tryz.func13, Tryz.ntmps13
    go_wp2
    go_ret
    exact ⟨rfl, Ch.refl _⟩


theorem yes_any (b : Bool) (w : World) : Calls Tryz.prog 32 #[.bool b] w fun e w' => e = .returned (.int .u8 (if b then 1 else 0)) ∧ w' = w := by
  cases b
  all_goals
    go_enter Tryz.func32, Tryz.ntmps32
    go_wp2
    go_ret
    exact ⟨rfl, rfl⟩
theorem place_any (xs : List ByteArray) (s : ByteArray) (v : Value) (w : World) (hx : Sl 1 RS w v xs) (hm : bl s ∈ xs.map bl) :
    Calls Tryz.prog 31 #[v, .string s] w fun e w' => ∃ u, e = .returned u ∧ w'.ownsRow w.heap.size 5 1 u 2 ((pB (xs.map bl) (bl s)).map (Value.int .u8)) ∧ Ch w w' := by
  have hin : ∀ w0, _ := fun w0 => in_any xs s v w0
  obtain ⟨ax, cx, rfl, hx1, hx2⟩ := hx.form
  have e : inI xs s 0 = plc (xs.map bl) (bl s) := by rw [inI_eq, if_pos hm, plc, if_pos hm]; omega
  rw [e] at hin
  have hu := fun w0 => u_any (plc (xs.map bl) (bl s)) 2 2 w0 (by omega) rfl
  unfold pB
  generalize plc (xs.map bl) (bl s) = r at *
  clear e
  go_enter Tryz.func31, Tryz.ntmps31
  go_wp2_with (first
    | (go_at_call 44; (with_reducible refine (hin _ hx).mono ?_); rintro e w' ⟨rfl, hw⟩; have hw := hw.symm; subst hw)
    | (go_at_call 29; (with_reducible refine (hu _).mono ?_); rintro e w3 ⟨u3, rfl, ho3, hc3⟩))
  go_ret
  exact ⟨u3, rfl, ho3, hc3⟩

open Go.RowKit
set_option linter.unusedVariables false

theorem run_append_zero {P : Program} {w : World} (base : Nat) (t ty e : TypeId) (i : TypeInfo) (size : Nat) (ht : P.underlying t = some (.slice e)) (hi : P.info? e = some i)
    (v : Value) (n : Nat) (xs : List Value) (hown : w.ownsRow base e size v n xs) (c : Nat) :
    (Builtin.append_ #[t, t] ty #[v, .slice none 0 c]).run P w = .ok v w := by
  rcases hown.2 with ⟨rfl, rfl⟩ | ⟨g, cap, cur, rfl, _, _, hnc, _⟩
  · simp [Builtin.append_, run_underlying ht, sizeOf, typeInfo, hi, Builtin.lenOf, Builtin.firstCells]
  · simp [Builtin.append_, run_underlying ht, sizeOf, typeInfo, hi, Builtin.lenOf, Builtin.firstCells, hnc, storeCells]
theorem grown_refl (w : World) (r : Option Nat) : w.grownBy w r := ⟨rfl, rfl, rfl, Nat.le_refl _, fun _ _ _ => rfl⟩
theorem run_append_tx {w : World} {base : Nat} {v u : Value} {ts : List (List UInt8)} {xs : List ByteArray} (ty : TypeId) (hown : w.ownsRow base 9 1 v ts.length (ts.map strV)) (hu : Sl 1 RS w u xs) (hb : ts.length + xs.length ≤ 200000) (hbase : base ≤ w.heap.size) :
    ∃ v' w', (Builtin.append_ #[22, 22] ty #[v, u]).run Tryz.prog w = .ok v' w' ∧ w'.ownsRow base 9 1 v' (ts ++ xs.map bl).length ((ts ++ xs.map bl).map strV) ∧ w.grownBy w' v.ownBlock := by
  obtain ⟨i0, hi, hz0, hz1, hz2⟩ := info_parts Tryz.info9
  obtain ⟨ao, cap, rfl, h1, h2, h3⟩ := hu
  have em : ((ts ++ xs.map bl).map strV) = ts.map strV ++ xs.map Value.string := by
    rw [List.map_append, List.map_map]
    congr 1
  by_cases h0 : 0 < xs.length
  · obtain ⟨b, off, rfl, hc⟩ := h3 h0
    obtain ⟨v', w', hr, h4, h5, _, _⟩ := run_append_own_at (P := Tryz.prog) w base 22 ty 9 i0 (.string ⟨#[]⟩) 1 16 Tryz.underlying22 hi hz0 hz1 hz2 rfl (by omega) v ts.length _ hown ⟨b, off, none⟩ xs.length cap (xs.map Value.string) (by simp) (fun j y hj => by
      rw [List.getElem?_map] at hj
      cases hx : xs[j]? with
      | none => rw [hx] at hj; cases hj
      | some x =>
        rw [hx] at hj
        obtain ⟨cs, hcs, hcell⟩ := hc j x hx
        have hj : Value.string x = y := by simpa using hj
        have ha : (⟨b, off, none⟩ : Addr).add j = ⟨b, off + j * 1 + 0, none⟩ := by unfold Addr.add; simp
        rw [ha, ← hj]
        exact hcell 0 _ (by rw [hcs]; rfl)) (fun y hy => by
      obtain ⟨x, _, rfl⟩ := List.mem_map.1 hy
      rfl) (by unfold maxLen; omega) (by omega) hbase
    refine ⟨v', w', hr, ?_, h5⟩
    rw [em, List.length_append, List.length_map]
    exact h4
  · have e0 : xs = [] := List.eq_nil_of_length_eq_zero (by omega)
    subst e0
    cases ao with
    | none =>
      refine ⟨v, w, run_append_zero base 22 ty 9 i0 1 Tryz.underlying22 hi v _ _ hown cap, ?_, grown_refl _ _⟩
      simpa using hown
    | some ad =>
      obtain ⟨v', w', hr, h4, h5, _, _⟩ := run_append_own_at (P := Tryz.prog) w base 22 ty 9 i0 (.string ⟨#[]⟩) 1 16 Tryz.underlying22 hi hz0 hz1 hz2 rfl (by omega) v ts.length _ hown ad 0 cap [] (by simp) (fun j y hj => by cases hj) (fun y hy => by cases hy) (by unfold maxLen; omega) (by omega) hbase
      refine ⟨v', w', hr, ?_, h5⟩
      simpa using h4
theorem run_append_by {w : World} {base : Nat} {v u : Value} {bs cs : List Int} (ty : TypeId) (hown : w.ownsRow base 5 1 v bs.length (bs.map (Value.int .u8))) (hu : Row w u cs) (hb : bs.length + cs.length ≤ 2000000) (hbase : base ≤ w.heap.size) :
    ∃ v' w', (Builtin.append_ #[29, 29] ty #[v, u]).run Tryz.prog w = .ok v' w' ∧ w'.ownsRow base 5 1 v' (bs ++ cs).length ((bs ++ cs).map (Value.int .u8)) ∧ w.grownBy w' v.ownBlock := by
  obtain ⟨i0, hi, hz0, hz1, hz2⟩ := info_parts Tryz.info5
  rcases hu with ⟨rfl, rfl⟩ | ⟨ad, cap, rfl, hc⟩
  · refine ⟨v, w, run_append_zero base 29 ty 5 i0 1 Tryz.underlying29 hi v _ _ hown 0, ?_, grown_refl _ _⟩
    simpa using hown
  · obtain ⟨v', w', hr, h4, h5, _, _⟩ := run_append_own_at (P := Tryz.prog) w base 29 ty 5 i0 (.int .u8 0) 1 1 Tryz.underlying29 hi hz0 hz1 hz2 rfl (by omega) v bs.length _ hown ad cs.length cap (cs.map (Value.int .u8)) (by simp) hc (fun y hy => by
      obtain ⟨x, _, rfl⟩ := List.mem_map.1 hy
      rfl) (by unfold maxLen; omega) (by omega) hbase
    refine ⟨v', w', hr, ?_, h5⟩
    rw [List.map_append, List.length_append]
    exact h4

/-- A row of one's own of texts (of bytes); what has turned since W is such rows alone. -/
structure Tx (B : Nat) (W w : World) (v : Value) (ts : List (List UInt8)) : Prop where
  own : w.ownsRow B 9 1 v ts.length (ts.map strV)
  kp : Kp B [9] W w
  bw : B ≤ w.heap.size
structure By (B : Nat) (W w : World) (v : Value) (bs : List Int) : Prop where
  own : w.ownsRow B 5 1 v bs.length (bs.map (Value.int .u8))
  kp : Kp B [5] W w
  bw : B ≤ w.heap.size
variable {B : Nat} {W w : World} {v u : Value} {ts : List (List UInt8)} {xs : List ByteArray} {bs cs : List Int}
theorem Tx.chr {w' : World} (h : Tx B W w v ts) (c : Ch w w') : Tx B W w' v ts := ⟨ownsRow_keep h.own c, h.kp.chr c, Nat.le_trans h.bw c.size⟩
theorem By.chr {w' : World} (h : By B W w v bs) (c : Ch w w') : By B W w' v bs := ⟨ownsRow_keep h.own c, h.kp.chr c, Nat.le_trans h.bw c.size⟩
theorem Tx.grew {w' : World} {v' : Value} {ts' : List (List UInt8)} (h : Tx B W w v ts) (h1 : w'.ownsRow B 9 1 v' ts'.length (ts'.map strV)) (h2 : w.grownBy w' v.ownBlock) : Tx B W w' v' ts' := ⟨h1, h.kp.grown h.own (by decide) h2, Nat.le_trans h.bw h2.size⟩
theorem By.grew {w' : World} {v' : Value} {bs' : List Int} (h : By B W w v bs) (h1 : w'.ownsRow B 5 1 v' bs'.length (bs'.map (Value.int .u8))) (h2 : w.grownBy w' v.ownBlock) : By B W w' v' bs' := ⟨h1, h.kp.grown h.own (by decide) h2, Nat.le_trans h.bw h2.size⟩

theorem Tx.wpL {ops : Array Oper} {rest : List Oper} {o : Oper} {a : Act} {Q : Exit → Act → World → Prop} (h : Tx B W w v ts) (hgd : o.guard = none) (s x : Operand)
    (ho : o.op = .call { callee := .builtin .append, args := #[s, x], argTypes := #[22, 22] }) (hs : a.eval s = v) (hx : a.eval x = u) (hu : Sl 1 RS w u xs) (hb : ts.length + xs.length ≤ 200000)
    (k : ∀ v' w', Tx B W w' v' (ts ++ xs.map bl) → wpList Tryz.prog ops Q rest (a.put o.dst v') w') : wpList Tryz.prog ops Q (o :: rest) a w := by
  refine wpList_plain hgd fun K hK => ?_
  obtain ⟨v', w', hr, h1, h2⟩ := run_append_tx o.type h.own hu hb h.bw
  unfold Oper.wp execOp
  simp only [ho, resolve, invoke, builtin, Sem.run_bind, Sem.run_pure, Result.andThen_ok, List.map_toArray, List.map_cons, List.map_nil, hs, hx, hr]
  exact hK _ _ (k v' w' (h.grew h1 h2))
theorem Tx.stp {ops : Array Oper} {o : Oper} {a : Act} {K : Act → World → Prop} {Q : Exit → Act → World → Prop} {E : Prop} (h : Tx B W w v ts) (hgd : o.guard = none) (s x : Operand)
    (ho : o.op = .call { callee := .builtin .append, args := #[s, x], argTypes := #[22, 22] }) (hs : a.eval s = v) (hx : a.eval x = u) (hu : Sl 1 RS w u xs) (hb : ts.length + xs.length ≤ 200000)
    (k : ∀ v' w', Tx B W w' v' (ts ++ xs.map bl) → K (a.put o.dst v') w') : if Region.wanted o (yielded ops a.tmps) = true then Oper.wp Tryz.prog o a w K Q else E := by
  have hw : Region.wanted o (yielded ops a.tmps) = true := by simp [Region.wanted, hgd]
  rw [if_pos hw]
  obtain ⟨v', w', hr, h1, h2⟩ := run_append_tx o.type h.own hu hb h.bw
  unfold Oper.wp execOp
  simp only [ho, resolve, invoke, builtin, Sem.run_bind, Sem.run_pure, Result.andThen_ok, List.map_toArray, List.map_cons, List.map_nil, hs, hx, hr]
  exact k v' w' (h.grew h1 h2)
theorem By.wpL {ops : Array Oper} {rest : List Oper} {o : Oper} {a : Act} {Q : Exit → Act → World → Prop} (h : By B W w v bs) (hgd : o.guard = none) (s x : Operand)
    (ho : o.op = .call { callee := .builtin .append, args := #[s, x], argTypes := #[29, 29] }) (hs : a.eval s = v) (hx : a.eval x = u) (hu : Row w u cs) (hb : bs.length + cs.length ≤ 2000000)
    (k : ∀ v' w', By B W w' v' (bs ++ cs) → wpList Tryz.prog ops Q rest (a.put o.dst v') w') : wpList Tryz.prog ops Q (o :: rest) a w := by
  refine wpList_plain hgd fun K hK => ?_
  obtain ⟨v', w', hr, h1, h2⟩ := run_append_by o.type h.own hu hb h.bw
  unfold Oper.wp execOp
  simp only [ho, resolve, invoke, builtin, Sem.run_bind, Sem.run_pure, Result.andThen_ok, List.map_toArray, List.map_cons, List.map_nil, hs, hx, hr]
  exact hK _ _ (k v' w' (h.grew h1 h2))
theorem By.stp {ops : Array Oper} {o : Oper} {a : Act} {K : Act → World → Prop} {Q : Exit → Act → World → Prop} {E : Prop} (h : By B W w v bs) (hgd : o.guard = none) (s x : Operand)
    (ho : o.op = .call { callee := .builtin .append, args := #[s, x], argTypes := #[29, 29] }) (hs : a.eval s = v) (hx : a.eval x = u) (hu : Row w u cs) (hb : bs.length + cs.length ≤ 2000000)
    (k : ∀ v' w', By B W w' v' (bs ++ cs) → K (a.put o.dst v') w') : if Region.wanted o (yielded ops a.tmps) = true then Oper.wp Tryz.prog o a w K Q else E := by
  have hw : Region.wanted o (yielded ops a.tmps) = true := by simp [Region.wanted, hgd]
  rw [if_pos hw]
  obtain ⟨v', w', hr, h1, h2⟩ := run_append_by o.type h.own hu hb h.bw
  unfold Oper.wp execOp
  simp only [ho, resolve, invoke, builtin, Sem.run_bind, Sem.run_pure, Result.andThen_ok, List.map_toArray, List.map_cons, List.map_nil, hs, hx, hr]
  exact k v' w' (h.grew h1 h2)
end Go.Proofs.YtdalibfgkkgcpaaGreat
