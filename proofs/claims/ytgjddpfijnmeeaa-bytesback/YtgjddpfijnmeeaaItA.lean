/- The document's own bytes of a number and of a text; sums that are held. -/
import Derived.Test.YtgjddpfijnmeeaaText
import Derived.Test.YtgjddpfijnmeeaaNumW
import Derived.Lib.AppendStr
namespace Go.Proofs.Ytgjddpfijnmeeaa
open Go.RowKit
set_option linter.unusedVariables false
attribute [local go_sem ↓] Go.wp_at_zero Go.wp_at_succ

theorem wrapU64 (n : Int) : IntKind.u64.wrap n = n % 18446744073709551616 := by simp [IntKind.wrap, IntKind.bits, IntKind.signed]
theorem by0 (n : Int) : IntKind.u64.wrap n % 256 = n / 256 ^ 0 % 256 := by rw [wrapU64]; omega
theorem by1 (n : Int) : IntKind.u64.wrap n / 256 % 256 = n / 256 ^ 1 % 256 := by rw [wrapU64]; omega
theorem by2 (n : Int) : IntKind.u64.wrap n / 65536 % 256 = n / 256 ^ 2 % 256 := by rw [wrapU64]; omega
theorem by3 (n : Int) : IntKind.u64.wrap n / 16777216 % 256 = n / 256 ^ 3 % 256 := by rw [wrapU64]; omega

set_option maxHeartbeats 1000000 in
theorem u_one (n : Int) (w : World) : Calls Try.prog 29 #[.int .i64 n, .int .i64 1] w fun e w' => e = .returned (.slice (some ⟨w.heap.size, 0, none⟩) 1 1) ∧ w' = w.alloc (.cells #[.int .u8 (n / 256 ^ 0 % 256)] 5) := by
  have hmk : ∀ w, (Instr.makeSlice 25 (.int .i64 1) (.int .i64 1)).run Try.prog w = .ok (.slice (some ⟨w.heap.size, 0, none⟩) 1 1) (w.alloc (.cells #[.int .u8 0] 5)) := fun _ => by kernel_rfl
  go_enter Try.func29, Try.ntmps29
  go_wp2
  refine wp_loop_rounds 2 ?_
  rw [rounds_succ]
  go_wp2
  rw [rounds_succ]
  go_wp2
  go_ret
  refine ⟨rfl, ?_⟩
  rw [by0 n]

set_option maxHeartbeats 1000000 in
theorem u_two (n : Int) (w : World) : Calls Try.prog 29 #[.int .i64 n, .int .i64 2] w fun e w' => e = .returned (.slice (some ⟨w.heap.size, 0, none⟩) 2 2) ∧ w' = w.alloc (.cells #[.int .u8 (n / 256 ^ 1 % 256), .int .u8 (n / 256 ^ 0 % 256)] 5) := by
  have hmk : ∀ w, (Instr.makeSlice 25 (.int .i64 2) (.int .i64 2)).run Try.prog w = .ok (.slice (some ⟨w.heap.size, 0, none⟩) 2 2) (w.alloc (.cells #[.int .u8 0, .int .u8 0] 5)) := fun _ => by kernel_rfl
  go_enter Try.func29, Try.ntmps29
  go_wp2
  refine wp_loop_rounds 3 ?_
  rw [rounds_succ]
  go_wp2
  rw [rounds_succ]
  go_wp2
  rw [rounds_succ]
  go_wp2
  go_ret
  refine ⟨rfl, ?_⟩
  rw [by1 n, by0 n]

set_option maxHeartbeats 1000000 in
theorem u_four (n : Int) (w : World) : Calls Try.prog 29 #[.int .i64 n, .int .i64 4] w fun e w' => e = .returned (.slice (some ⟨w.heap.size, 0, none⟩) 4 4) ∧ w' = w.alloc (.cells #[.int .u8 (n / 256 ^ 3 % 256), .int .u8 (n / 256 ^ 2 % 256), .int .u8 (n / 256 ^ 1 % 256), .int .u8 (n / 256 ^ 0 % 256)] 5) := by
  have hmk : ∀ w, (Instr.makeSlice 25 (.int .i64 4) (.int .i64 4)).run Try.prog w = .ok (.slice (some ⟨w.heap.size, 0, none⟩) 4 4) (w.alloc (.cells #[.int .u8 0, .int .u8 0, .int .u8 0, .int .u8 0] 5)) := fun _ => by kernel_rfl
  go_enter Try.func29, Try.ntmps29
  go_wp2
  refine wp_loop_rounds 5 ?_
  rw [rounds_succ]
  go_wp2
  rw [rounds_succ]
  go_wp2
  rw [rounds_succ]
  go_wp2
  rw [rounds_succ]
  go_wp2
  rw [rounds_succ]
  go_wp2
  go_ret
  refine ⟨rfl, ?_⟩
  rw [by3 n, by2 n, by1 n, by0 n]

/-- A slice over a whole new block owns it. -/
theorem owns_new (w : World) (bs : List Int) (hb : bs.length ≤ maxLen) : (w.alloc (.cells (bs.map (Value.int .u8)).toArray 5)).ownsRow w.heap.size 5 1 (.slice (some ⟨w.heap.size, 0, none⟩) bs.length bs.length) bs.length (bs.map (Value.int .u8)) :=
  ⟨by simp, Or.inr ⟨w.heap.size, bs.length, _, rfl, Nat.le_refl _, heap_alloc_new _ _, Nat.le_refl _, hb, by simp, List.take_of_length_le (by simp)⟩⟩

theorem u_any (n : Int) (size : Nat) (s : Int) (w : World) (hs : size = 1 ∨ size = 2 ∨ size = 4) (hss : (size : Int) = s) :
    Calls Try.prog 29 #[.int .i64 n, .int .i64 s] w fun e w' => ∃ v, e = .returned v ∧ w'.ownsRow w.heap.size 5 1 v size ((be n size).map (Value.int .u8)) ∧ Ch (fun _ => False) w w' := by
  subst hss
  rcases hs with rfl | rfl | rfl
  · exact (u_one n w).mono fun e w' ⟨h1, h2⟩ => by subst h2; exact ⟨_, h1, owns_new w (be n 1) (by simp [be, maxLen]), (Ch.refl _ _).alloc _⟩
  · exact (u_two n w).mono fun e w' ⟨h1, h2⟩ => by subst h2; exact ⟨_, h1, owns_new w (be n 2) (by simp [be, maxLen]), (Ch.refl _ _).alloc _⟩
  · exact (u_four n w).mono fun e w' ⟨h1, h2⟩ => by subst h2; exact ⟨_, h1, owns_new w (be n 4) (by simp [be, maxLen]), (Ch.refl _ _).alloc _⟩

/-- The bytes of a text. -/
def sb (s : ByteArray) : List Int := s.data.toList.map fun b => (b.toNat : Int)
theorem sb_length (s : ByteArray) : (sb s).length = s.size := by rw [sb, List.length_map, Array.length_toList]; rfl
theorem sb_cells (s : ByteArray) : (sb s).map (Value.int .u8) = Lib.strCells s := by simp [sb, Lib.strCells]
theorem sb_bd (s : ByteArray) : ∀ x ∈ sb s, 0 ≤ x ∧ x < 256 := by
  intro x hx
  simp only [sb, List.mem_map] at hx
  obtain ⟨b, _, rfl⟩ := hx
  have := b.toNat_lt
  omega

theorem append_string_at {P : Program} (w : World) (base : Nat) (t u ty e : TypeId) (i : TypeInfo) (ht : P.underlying t = some (.slice e)) (hu : P.underlying u = some .string) (hi : P.info? e = some i) (hz : i.zero = some (.int .u8 0))
    (hsize : i.size = 1) (hby : i.bytes = 1) (v : Value) (n : Nat) (xs : List Value) (hown : w.ownsRow base e 1 v n xs) (s : ByteArray) (h63 : n + s.size ≤ maxLen) (hbytes : n + s.size ≤ 140737488355328) (hbase : base ≤ w.heap.size) :
    ∃ v' w', (Builtin.append_ #[t, u] ty #[v, .string s]).run P w = .ok v' w' ∧ w'.ownsRow base e 1 v' (n + s.size) (xs ++ Lib.strCells s) ∧ w.grownBy w' v.ownBlock ∧ (v'.ownBlock = v.ownBlock ∨ v'.ownBlock = some w.heap.size) := by
  obtain ⟨v', w', hr, h2, h3, h4⟩ := Lib.run_append_own_string (P := P) w base t u ty e i ht hu hi hz hsize hby v n xs hown s h63 hbytes hbase
  refine ⟨v', w', hr, h2, h3, ?_⟩
  have hsmall : n + s.size ≤ 9223372036854775807 := by simp only [maxLen] at h63; omega
  rcases hown.2 with ⟨rfl, rfl⟩ | ⟨g, cap, cur, rfl, hbg, hg, hnc, hcm, hcs, htake⟩
  · by_cases hm : s.size = 0
    · left; rw [h4.2 ⟨rfl, hm⟩]
    · have hr' := run_append_nil_string (P := P) w t u ty e i (.int .u8 0) ht hu hi hz s (by omega) (by omega) (by rw [hby]; omega)
      rw [hr] at hr'
      injection hr' with h5 h6
      right; rw [h5]; rfl
  · by_cases hroom : n + s.size ≤ cap
    · have hcs' : cur.size = cap := by simpa using hcs
      have hr' := Lib.run_append_room_string (P := P) w t u ty e i ht hu hi hsize g n cap cur hg s hroom (by omega)
      rw [hr] at hr'
      injection hr' with h5 h6
      left; rw [h5]; rfl
    · have hxl : xs.length = n := by simpa using hown.1
      have holds : ∀ j u, xs[j]? = some u → w.cell? ((⟨g, 0, none⟩ : Addr).add j) = some u := hown.cells (g := g) rfl
      have hr' := Lib.run_append_grow_string (P := P) w t u ty e i (.int .u8 0) ht hu hi hz ⟨g, 0, none⟩ n cap xs (by rw [hsize]; simpa using hxl) holds s (by omega) (by omega) (by rw [hby]; exact growslice_fits (by omega) (by omega))
      rw [hr] at hr'
      injection hr' with h5 h6
      right; rw [h5]; rfl

theorem wpList_append_string_at {P : Program} {w : World} {ops : Array Oper} {rest : List Oper} {o : Oper} {a : Act} {Q : Exit → Act → World → Prop} (hgd : o.guard = none) (sl x : Operand) (t u : TypeId)
    (ho : o.op = .call { callee := .builtin .append, args := #[sl, x], argTypes := #[t, u] })
    (base : Nat) (e : TypeId) (i : TypeInfo) (ht : P.underlying t = some (.slice e)) (hu : P.underlying u = some .string) (hi : P.info? e = some i) (hz : i.zero = some (.int .u8 0))
    (hsize : i.size = 1) (hby : i.bytes = 1)
    (v : Value) (n : Nat) (xs : List Value) (hs : a.eval sl = v) (hown : w.ownsRow base e 1 v n xs) (s : ByteArray) (hx : a.eval x = .string s)
    (h63 : n + s.size ≤ maxLen) (hbytes : n + s.size ≤ 140737488355328) (hbase : base ≤ w.heap.size)
    (h : ∀ v' w', w'.ownsRow base e 1 v' (n + s.size) (xs ++ Lib.strCells s) → w.grownBy w' v.ownBlock → (v'.ownBlock = v.ownBlock ∨ v'.ownBlock = some w.heap.size) → wpList P ops Q rest (a.put o.dst v') w') : wpList P ops Q (o :: rest) a w := by
  refine wpList_plain hgd fun K hK => ?_
  obtain ⟨v', w', hr, h2, h3, h4⟩ := append_string_at (P := P) w base t u o.type e i ht hu hi hz hsize hby v n xs hown s h63 hbytes hbase
  unfold Oper.wp execOp
  simp only [ho, resolve, invoke, builtin, Sem.run_bind, Sem.run_pure, Result.andThen_ok, List.map_toArray, List.map_cons, List.map_nil, hs, hx, hr]
  exact hK _ _ (h v' w' h2 h3 h4)

set_option maxHeartbeats 1000000 in
theorem refText_any (s : ByteArray) (w : World) (hs : s.size ≤ 140737488355320) :
    Calls Try.prog 30 #[.string s] w fun e w' => ∃ v, e = .returned v ∧ w'.ownsRow w.heap.size 5 1 v (s.size + 2) ((be s.size 2 ++ sb s).map (Value.int .u8)) ∧ Ch (fun _ => False) w w' := by
  obtain ⟨i0, hi, hz0, hz1, hz2⟩ := info_parts Try.info5
  go_enter Try.func30, Try.ntmps30
  go_wp2_with fail
  refine (u_any s.size 2 2 w (by omega) rfl).mono ?_
  rintro e w1 ⟨v1, rfl, hown, hch⟩
  go_wp2_with (first | (at_builtin; refine wpList_append_string_at rfl (.tmp 5) (.tmp 6) 25 9 rfl w.heap.size 5 i0 Try.underlying25 Try.underlying9 hi hz0 hz1 hz2 v1 2 _ rfl hown s rfl (by unfold maxLen; omega) (by omega) hch.size ?_; intro v2 w2 hown2 hgrow hat))
  go_ret
  refine ⟨v2, rfl, ?_, hch.grown hgrow (fun k hk => Or.inr (hown.lt k hk).1)⟩
  rw [List.map_append, sb_cells, Nat.add_comm]
  exact hown2

/-- A sum that is held. -/
def heldSum (n a b : Int) : Int := if n + a > 1099511627776 then 1099511627776 else if n + a + b > 1099511627776 then 1099511627776 else n + a + b
set_option maxHeartbeats 1000000 in
theorem sum_any (n a : Int) (B : Nat) (w : World) (h0 : 0 ≤ n) (h1 : n ≤ 2000) (ha : 0 ≤ a) (ha2 : a ≤ 9223372036854775807) (c0 : w.cell? ⟨B, 0, none⟩ = some (.int .i64 a)) (c1 : w.cell? ⟨B, 1, none⟩ = some (.int .i64 4)) :
    Calls Try.prog 25 #[.int .i64 n, .slice (some ⟨B, 0, none⟩) 2 2] w fun e w' => (∃ m, e = .returned (.int .i64 m) ∧ 0 ≤ m ∧ m ≤ 1099511627776 ∧ (m ≤ 2000 → m = n + a + 4)) ∧ w' = w := by
  have t0 : decide (1099511627776 < n) = false := by simp; omega
  go_enter Try.func25, Try.ntmps25
  go_wp2
  refine wp_loop_rounds 3 ?_
  by_cases hA : 1099511627776 - n < a
  · rw [rounds_succ]
    go_wp2
    go_ret
    exact ⟨⟨_, rfl, by omega, by omega, by omega⟩, rfl⟩
  · have t1 : decide (1099511627776 - n < a) = false := by simp; omega
    have t2 : decide (1099511627776 < n + a) = false := by simp; omega
    rw [rounds_succ]
    go_wp2
    rw [rounds_succ]
    by_cases hB : 1099511627776 - (n + a) < 4
    · go_wp2
      go_ret
      exact ⟨⟨_, rfl, by omega, by omega, by omega⟩, rfl⟩
    · have t3 : decide (1099511627776 - (n + a) < 4) = false := by simp; omega
      go_wp2
      rw [rounds_succ]
      go_wp2
      go_ret
      exact ⟨⟨_, rfl, by omega, by omega, by omega⟩, rfl⟩

end Go.Proofs.Ytgjddpfijnmeeaa
