/- The walk of the law InstrSame. -/
import Derived.Test.YtedcnfoipjchnaaSame
namespace Go.Proofs.Ytedcnfoipjchnaa
open Go.RowKit
set_option linter.unusedVariables false

theorem cell_keep {w w' : World} (h : Ch w w') {g i : Nat} {v : Value} (hc : w.cell? ⟨g, i, none⟩ = some v) : w'.cell? ⟨g, i, none⟩ = some v := by
  have h1 := World.block_lt_of_cell? _ _ hc
  rw [World.cell?_of_block (w := w) (h.block g h1)]
  exact hc
theorem sum_one (n m : Int) (B : Nat) (w : World) (hn : 0 ≤ n ∧ n ≤ 1099511627776) (hm : 0 ≤ m ∧ m ≤ 1099511627776) (hc : w.cell? ⟨B, 0, none⟩ = some (.int .i64 m)) :
    Calls Try.prog 7 #[.int .i64 n, .slice (some ⟨B, 0, none⟩) 1 1] w fun e w' => Some e ∧ w' = w :=
  sum_any n B 1 (fun _ => m) w hn (by omega) (fun k hk => by obtain rfl : k = 0 := by omega
                                                             exact ⟨hc, hm.1⟩)
theorem sum_three (a b c B : Nat) (w : World) (hB : B = w.heap.size) :
    Calls Try.prog 7 #[.int .i64 1, .slice (some ⟨B, 0, none⟩) 3 3] (w.alloc (.cells #[.int .i64 (a : Int), .int .i64 (b : Int), .int .i64 (c : Int)] 3)) fun e w' => Some e ∧ w' = w.alloc (.cells #[.int .i64 (a : Int), .int .i64 (b : Int), .int .i64 (c : Int)] 3) :=
  sum_any 1 B 3 (fun k => if k = 0 then (a : Int) else if k = 1 then (b : Int) else (c : Int)) _ (by omega) (by omega) (fun k hk => by
    have h1 := heap_alloc_new w (.cells #[.int .i64 (a : Int), .int .i64 (b : Int), .int .i64 (c : Int)] 3)
    rw [hB, cell_of_row _ _ _ _ _ _ h1]
    match k, hk with
    | 0, _ => exact ⟨rfl, by simp⟩
    | 1, _ => exact ⟨rfl, by simp⟩
    | 2, _ => exact ⟨rfl, by simp⟩)

set_option maxHeartbeats 1000000 in
theorem bulk_any (x : Ins) (w : World) : Calls Try.prog 8 #[x.v] w fun e w' => Some e ∧ Ch w w' := by
  unfold Ins.v
  generalize x.op = a1
  generalize x.a = a2
  generalize x.b = a3
  generalize x.c = a4
  generalize x.n = a5
  generalize x.d = a6
  go_enter Try.func8, Try.ntmps8
  go_wp2_with (first
    | (go_at_call 7; (with_reducible refine (sum_three _ _ _ _ _ (by simp)).mono ?_); rintro e w3 ⟨⟨m, rfl, p1, p2⟩, hx⟩; subst hx))
  go_ret
  exact ⟨⟨m, rfl, p1, p2⟩, ((Ch.refl w).alloc _).alloc _⟩

/-- Eighteen cells: x and y one behind the other, z elsewhere. -/
theorem three_mk {w1 w7 : World} {g gz : Nat} {x y z : Ins} (h1 : w7.heap[g]? = some (.cells (insC x.op x.a x.b x.c x.n x.d) 23)) (h2 : w7.heap[g + 1]? = some (.cells (insC y.op y.a y.b y.c y.n y.d) 23)) (h3 : w7.heap[gz]? = some (.cells (insC z.op z.a z.b z.c z.n z.d) 23)) (w' : World) (h : Ch w7 w') :
    (w'.cell? ⟨g, 0, none⟩ = some (.int .i64 x.op) ∧ w'.cell? ⟨g, 1, none⟩ = some (.int .i64 x.a) ∧ w'.cell? ⟨g, 2, none⟩ = some (.int .i64 x.b) ∧ w'.cell? ⟨g, 3, none⟩ = some (.string x.c) ∧ w'.cell? ⟨g, 4, none⟩ = some (.string x.n) ∧ w'.cell? ⟨g, 5, none⟩ = some (.string x.d)) ∧
    (w'.cell? ⟨g + 1, 0, none⟩ = some (.int .i64 y.op) ∧ w'.cell? ⟨g + 1, 1, none⟩ = some (.int .i64 y.a) ∧ w'.cell? ⟨g + 1, 2, none⟩ = some (.int .i64 y.b) ∧ w'.cell? ⟨g + 1, 3, none⟩ = some (.string y.c) ∧ w'.cell? ⟨g + 1, 4, none⟩ = some (.string y.n) ∧ w'.cell? ⟨g + 1, 5, none⟩ = some (.string y.d)) ∧
    (w'.cell? ⟨gz, 0, none⟩ = some (.int .i64 z.op) ∧ w'.cell? ⟨gz, 1, none⟩ = some (.int .i64 z.a) ∧ w'.cell? ⟨gz, 2, none⟩ = some (.int .i64 z.b) ∧ w'.cell? ⟨gz, 3, none⟩ = some (.string z.c) ∧ w'.cell? ⟨gz, 4, none⟩ = some (.string z.n) ∧ w'.cell? ⟨gz, 5, none⟩ = some (.string z.d)) := by
  have k : ∀ {j : Nat} {o : Obj}, w7.heap[j]? = some o → w'.heap[j]? = some o := fun {j o} hj => (h.block j (Array.getElem?_eq_some_iff.1 hj).1).trans hj
  exact ⟨insC_at (k h1), insC_at (k h2), insC_at (k h3)⟩

theorem kept_at {a b : World} (h : Ch a b) {j : Nat} {o : Obj} (hj : a.heap[j]? = some o) : b.heap[j]? = some o := (h.block j (Array.getElem?_eq_some_iff.1 hj).1).trans hj

set_option maxHeartbeats 16000000 in
theorem same_main (x y : Ins) (w : World) : Calls Try.prog 3 #[x.v, y.v] w fun e w' => e = .returned (.bool true) ∧ Ch w w' := by
  have hb1 := fun w0 => bulk_any x w0
  have hb2 := fun w0 => bulk_any y w0
  have hp1 := fun w0 => pure_any x w0
  have hp2 := fun w0 => pure_any y w0
  have hxy := fun w0 => same_any x y w0
  have hyx := fun w0 => same_any y x w0
  rw [eqI_symm (own y) (own x)] at hyx
  have he := fun W => eq23 (own x) (own y) W
  have hsh := fun w0 => refShape_any x.op w0
  unfold shR at hsh
  have hTwo := fun w' h => two_mk (w := w) (x := x) (y := y) (w' := w') h
  have hz1 : ∀ w0, Calls Try.prog 12 #[x.v, (own x).v] w0 fun e w' => e = .returned (.bool true) ∧ Ch w0 w' := fun w0 => by
    have h := same_any x (own x) w0
    rw [own_own, eqI_refl] at h
    exact h
  have hz2 : ∀ w0, Calls Try.prog 12 #[x.v, x.v] w0 fun e w' => e = .returned (.bool true) ∧ Ch w0 w' := fun w0 => by
    have h := same_any x x w0
    rw [eqI_refl] at h
    exact h
  generalize own x = X at *
  generalize own y = Y at *
  generalize eqI X Y = q at *
  unfold Ins.v at *
  go_enter Try.func3, Try.ntmps3
  go_wp2_with fail
  have hCW : Ch w ((w.alloc (.cells (insC x.op x.a x.b x.c x.n x.d) 23)).alloc (.cells (insC y.op y.a y.b y.c y.n y.d) 23)) := ((Ch.refl w).alloc _).alloc _
  have HB1 : Hid (((w.alloc (.cells (insC x.op x.a x.b x.c x.n x.d) 23)).alloc (.cells (insC y.op y.a y.b y.c y.n y.d) 23)).heap[w.heap.size]? = some (.cells (insC x.op x.a x.b x.c x.n x.d) 23)) := heap_alloc2_old _ _ _
  have HB2 : Hid (((w.alloc (.cells (insC x.op x.a x.b x.c x.n x.d) 23)).alloc (.cells (insC y.op y.a y.b y.c y.n y.d) 23)).heap[w.heap.size + 1]? = some (.cells (insC y.op y.a y.b y.c y.n y.d) 23)) := heap_alloc2_new _ _ _
  have HSZ : Hid (w.heap.size + 1 < ((w.alloc (.cells (insC x.op x.a x.b x.c x.n x.d) 23)).alloc (.cells (insC y.op y.a y.b y.c y.n y.d) 23)).heap.size) := by show _ < _; simp
  unfold insC at hTwo hCW HB1 HB2 HSZ
  generalize (w.alloc (.cells #[.int .i64 x.op, .int .i64 x.a, .int .i64 x.b, .string x.c, .string x.n, .string x.d] 23)).alloc (.cells #[.int .i64 y.op, .int .i64 y.a, .int .i64 y.b, .string y.c, .string y.n, .string y.d] 23) = w1 at *
  unfold Two at hTwo
  have HT : Hid (∀ w', Ch w1 w' → _) := hTwo
  clear hTwo
  go_region_held (fun w' => Ch w1 w' ∧ w'.cell? ⟨w.heap.size, 0, none⟩ = some (.int .i64 x.op) ∧ w'.cell? ⟨w.heap.size, 1, none⟩ = some (.int .i64 x.a) ∧ w'.cell? ⟨w.heap.size, 2, none⟩ = some (.int .i64 x.b) ∧ w'.cell? ⟨w.heap.size, 3, none⟩ = some (.string x.c) ∧ w'.cell? ⟨w.heap.size, 4, none⟩ = some (.string x.n) ∧ w'.cell? ⟨w.heap.size, 5, none⟩ = some (.string x.d) ∧
    w'.cell? ⟨w.heap.size + 1, 0, none⟩ = some (.int .i64 y.op) ∧ w'.cell? ⟨w.heap.size + 1, 1, none⟩ = some (.int .i64 y.a) ∧ w'.cell? ⟨w.heap.size + 1, 2, none⟩ = some (.int .i64 y.b) ∧ w'.cell? ⟨w.heap.size + 1, 3, none⟩ = some (.string y.c) ∧ w'.cell? ⟨w.heap.size + 1, 4, none⟩ = some (.string y.n) ∧ w'.cell? ⟨w.heap.size + 1, 5, none⟩ = some (.string y.d))
    ((refine HT.out _ ?_; repeat (first | exact (Ch.refl _).drew | refine Ch.alloc ?_ _ | refine Ch.trans ?_ (by assumption)))) (first
      | (go_at_call 8; (with_reducible refine (hb1 _).mono ?_); rintro e w3 ⟨⟨m1, rfl, p1, p2⟩, hc3⟩)
      | (go_at_call 8; (with_reducible refine (hb2 _).mono ?_); rintro e w4 ⟨⟨m2, rfl, p3, p4⟩, hc4⟩)
      | (go_at_call 7; (with_reducible refine (sum_one _ _ _ _ ⟨p1, p2⟩ ⟨p3, p4⟩ (cell_new _ _ _)).mono ?_); rintro e w5 ⟨⟨m3, rfl, p5, p6⟩, hx⟩; subst hx))
  have hC5 : Ch w1 (w4.alloc (.cells #[.int .i64 m2] 3)) := (((Ch.refl w1).drew.trans hc3).trans hc4).alloc _
  by_cases hm : 500 < m3
  · go_wp2_with (first
      | (go_at_call 9; (with_reducible refine (awake_any _).mono ?_); rintro e w9 ⟨rfl, hc9⟩))
    go_ret
    exact ⟨rfl, (hCW.trans hC5).trans hc9⟩
  have hm' : m3 ≤ 500 := by omega
  clear hm hb1 hb2 p1 p2 p3 p4 p5 p6 hc3 hc4
  generalize w4.alloc (.cells #[.int .i64 m2] 3) = w5 at *
  generalize isOp x.op = iso at *
  obtain ⟨_, f0, f1, f2, f3, f4, f5, _⟩ := HT.out w5 hC5
  generalize sA (kd (ix x.op)) = s1 at *
  generalize sB (kd (ix x.op)) = s2 at *
  generalize sC (kd (ix x.op)) = s3 at *
  generalize sN (kd (ix x.op)) = s4 at *
  generalize sD (kd (ix x.op)) = s5 at *
  cases iso
  · go_wp2_with (first
      | (go_at_call 10; (with_reducible refine (hp1 _).mono ?_); rintro e w6 ⟨rfl, hc6⟩; obtain ⟨_, g0, g1, g2, g3, g4, g5, _⟩ := HT.out w6 (hC5.trans hc6); have hlt : w.heap.size < w6.heap.size := (by have h1 := HSZ.out; have h2 := (hC5.trans hc6).size; omega))
      | (go_at_call 11; (with_reducible refine (hsh _).mono ?_); rintro e w7 ⟨rfl, hc7⟩; obtain ⟨_, k0, k1, k2, k3, k4, k5, _⟩ := HT.out w7 (((hC5.trans hc6).alloc _).trans hc7); have hlt7 : w.heap.size < w7.heap.size := (by have h1 := HSZ.out; have h2 := (((hC5.trans hc6).alloc _).trans hc7).size; omega))
      | (refine wpList_store_row rfl 23 (.tmp 5) (.tmp 26) rfl w6.heap.size #[.int .i64 x.op, .int .i64 x.a, .int .i64 x.b, .string x.c, .string x.n, .string x.d] rfl rfl 23 _ (kept_at ((Ch.refl w7).alloc _) (ins_kept hc7)) info23 rfl (one6 _ _ _ _ _ _) ?_))
    have hC8 : Ch w1 ((w7.alloc (.cells #[.bool s1, .bool s2, .bool s3, .bool s4, .bool s5] 28)).setRow w6.heap.size #[.int .i64 x.op, .int .i64 x.a, .int .i64 x.b, .string x.c, .string x.n, .string x.d]) := (((((hC5.trans hc6).alloc _).trans hc7).alloc _)).setRow _ _ (hC5.trans hc6).size
    have HB3 : Hid (((w7.alloc (.cells #[.bool s1, .bool s2, .bool s3, .bool s4, .bool s5] 28)).setRow w6.heap.size #[.int .i64 x.op, .int .i64 x.a, .int .i64 x.b, .string x.c, .string x.n, .string x.d]).heap[w6.heap.size]? = some (.cells (insC x.op x.a x.b x.c x.n x.d) 23)) := setRow_heap _ _ _ _ _ _ (kept_at ((Ch.refl w7).alloc _) (ins_kept hc7))
    have hxz := hz2
    clear hz1 hz2 hc6 hc7 hsh hlt hlt7 f0 f1 f2 f3 f4 f5 g0 g1 g2 g3 g4 g5 k0 k1 k2 k3 k4 k5
    generalize (w7.alloc (.cells #[.bool s1, .bool s2, .bool s3, .bool s4, .bool s5] 28)).setRow w6.heap.size #[.int .i64 x.op, .int .i64 x.a, .int .i64 x.b, .string x.c, .string x.n, .string x.d] = w8 at *
    have HT3 : Hid (∀ w', Ch w8 w' → _) := three_mk (w1 := w1) (x := x) (y := y) (z := x) (kept_at hC8 HB1.out) (kept_at hC8 HB2.out) HB3.out
    clear HB1 HB2 HB3 HT HSZ hC5
    go_region_held (fun w' => (w'.cell? ⟨w.heap.size, 0, none⟩ = some (.int .i64 x.op) ∧ w'.cell? ⟨w.heap.size, 1, none⟩ = some (.int .i64 x.a) ∧ w'.cell? ⟨w.heap.size, 2, none⟩ = some (.int .i64 x.b) ∧ w'.cell? ⟨w.heap.size, 3, none⟩ = some (.string x.c) ∧ w'.cell? ⟨w.heap.size, 4, none⟩ = some (.string x.n) ∧ w'.cell? ⟨w.heap.size, 5, none⟩ = some (.string x.d)) ∧
      (w'.cell? ⟨w.heap.size + 1, 0, none⟩ = some (.int .i64 y.op) ∧ w'.cell? ⟨w.heap.size + 1, 1, none⟩ = some (.int .i64 y.a) ∧ w'.cell? ⟨w.heap.size + 1, 2, none⟩ = some (.int .i64 y.b) ∧ w'.cell? ⟨w.heap.size + 1, 3, none⟩ = some (.string y.c) ∧ w'.cell? ⟨w.heap.size + 1, 4, none⟩ = some (.string y.n) ∧ w'.cell? ⟨w.heap.size + 1, 5, none⟩ = some (.string y.d)) ∧
      (w'.cell? ⟨w6.heap.size, 0, none⟩ = some (.int .i64 x.op) ∧ w'.cell? ⟨w6.heap.size, 1, none⟩ = some (.int .i64 x.a) ∧ w'.cell? ⟨w6.heap.size, 2, none⟩ = some (.int .i64 x.b) ∧ w'.cell? ⟨w6.heap.size, 3, none⟩ = some (.string x.c) ∧ w'.cell? ⟨w6.heap.size, 4, none⟩ = some (.string x.n) ∧ w'.cell? ⟨w6.heap.size, 5, none⟩ = some (.string x.d)))
      ((refine HT3.out _ ?_; repeat (first | exact (Ch.refl _).drew | refine Ch.alloc ?_ _ | refine Ch.trans ?_ (by assumption)))) (first
        | (go_at_call 12; (with_reducible refine (hxy _).mono ?_); rintro e w11 ⟨rfl, hc11⟩)
        | (go_at_call 12; (with_reducible refine (hyx _).mono ?_); rintro e w12 ⟨rfl, hc12⟩)
        | (go_at_call 12; (with_reducible refine (hxz _).mono ?_); rintro e w13 ⟨rfl, hc13⟩)
        | (go_at_call 10; (with_reducible refine (hp1 _).mono ?_); rintro e w14 ⟨rfl, hc14⟩)
        | (go_at_call 10; (with_reducible refine (hp2 _).mono ?_); rintro e w15 ⟨rfl, hc15⟩)
        | (go_at_call 9; (with_reducible refine (awake_any _).mono ?_); rintro e w16 ⟨rfl, hc16⟩))
    go_wp2
    go_ret
    refine ⟨rfl, (hCW.trans hC8).trans ?_⟩
    repeat (first | exact (Ch.refl _).drew | refine Ch.trans ?_ (by assumption))
  · go_wp2_with (first
      | (go_at_call 10; (with_reducible refine (hp1 _).mono ?_); rintro e w6 ⟨rfl, hc6⟩; obtain ⟨_, g0, g1, g2, g3, g4, g5, _⟩ := HT.out w6 (hC5.trans hc6); have hlt : w.heap.size < w6.heap.size := (by have h1 := HSZ.out; have h2 := (hC5.trans hc6).size; omega))
      | (go_at_call 11; (with_reducible refine (hsh _).mono ?_); rintro e w7 ⟨rfl, hc7⟩))
    have hC8 : Ch w1 (w7.alloc (.cells #[.bool s1, .bool s2, .bool s3, .bool s4, .bool s5] 28)) := ((((hC5.trans hc6).alloc _).trans hc7).alloc _)
    have HB3 : Hid ((w7.alloc (.cells #[.bool s1, .bool s2, .bool s3, .bool s4, .bool s5] 28)).heap[w6.heap.size]? = some (.cells (insC X.op X.a X.b X.c X.n X.d) 23)) := kept_at ((Ch.refl w7).alloc _) (ins_kept hc7)
    have hxz := hz1
    clear hz1 hz2 hc6 hc7 hsh hlt f0 f1 f2 f3 f4 f5 g0 g1 g2 g3 g4 g5
    generalize w7.alloc (.cells #[.bool s1, .bool s2, .bool s3, .bool s4, .bool s5] 28) = w8 at *
    have HT3 : Hid (∀ w', Ch w8 w' → _) := three_mk (w1 := w1) (x := x) (y := y) (z := X) (kept_at hC8 HB1.out) (kept_at hC8 HB2.out) HB3.out
    clear HB1 HB2 HB3 HT HSZ hC5
    go_region_held (fun w' => (w'.cell? ⟨w.heap.size, 0, none⟩ = some (.int .i64 x.op) ∧ w'.cell? ⟨w.heap.size, 1, none⟩ = some (.int .i64 x.a) ∧ w'.cell? ⟨w.heap.size, 2, none⟩ = some (.int .i64 x.b) ∧ w'.cell? ⟨w.heap.size, 3, none⟩ = some (.string x.c) ∧ w'.cell? ⟨w.heap.size, 4, none⟩ = some (.string x.n) ∧ w'.cell? ⟨w.heap.size, 5, none⟩ = some (.string x.d)) ∧
      (w'.cell? ⟨w.heap.size + 1, 0, none⟩ = some (.int .i64 y.op) ∧ w'.cell? ⟨w.heap.size + 1, 1, none⟩ = some (.int .i64 y.a) ∧ w'.cell? ⟨w.heap.size + 1, 2, none⟩ = some (.int .i64 y.b) ∧ w'.cell? ⟨w.heap.size + 1, 3, none⟩ = some (.string y.c) ∧ w'.cell? ⟨w.heap.size + 1, 4, none⟩ = some (.string y.n) ∧ w'.cell? ⟨w.heap.size + 1, 5, none⟩ = some (.string y.d)) ∧
      (w'.cell? ⟨w6.heap.size, 0, none⟩ = some (.int .i64 X.op) ∧ w'.cell? ⟨w6.heap.size, 1, none⟩ = some (.int .i64 X.a) ∧ w'.cell? ⟨w6.heap.size, 2, none⟩ = some (.int .i64 X.b) ∧ w'.cell? ⟨w6.heap.size, 3, none⟩ = some (.string X.c) ∧ w'.cell? ⟨w6.heap.size, 4, none⟩ = some (.string X.n) ∧ w'.cell? ⟨w6.heap.size, 5, none⟩ = some (.string X.d)))
      ((refine HT3.out _ ?_; repeat (first | exact (Ch.refl _).drew | refine Ch.alloc ?_ _ | refine Ch.trans ?_ (by assumption)))) (first
        | (go_at_call 12; (with_reducible refine (hxy _).mono ?_); rintro e w11 ⟨rfl, hc11⟩)
        | (go_at_call 12; (with_reducible refine (hyx _).mono ?_); rintro e w12 ⟨rfl, hc12⟩)
        | (go_at_call 12; (with_reducible refine (hxz _).mono ?_); rintro e w13 ⟨rfl, hc13⟩)
        | (go_at_call 10; (with_reducible refine (hp1 _).mono ?_); rintro e w14 ⟨rfl, hc14⟩)
        | (go_at_call 10; (with_reducible refine (hp2 _).mono ?_); rintro e w15 ⟨rfl, hc15⟩)
        | (go_at_call 9; (with_reducible refine (awake_any _).mono ?_); rintro e w16 ⟨rfl, hc16⟩))
    go_wp2
    go_ret
    refine ⟨rfl, (hCW.trans hC8).trans ?_⟩
    repeat (first | exact (Ch.refl _).drew | refine Ch.trans ?_ (by assumption))
end Go.Proofs.Ytedcnfoipjchnaa
