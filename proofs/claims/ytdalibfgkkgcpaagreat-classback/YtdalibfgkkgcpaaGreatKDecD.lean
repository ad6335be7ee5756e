/- A handler; an instruction. -/
import Derived.Test.YtdalibfgkkgcpaaGreatKDecC
import Derived.Deep.RegionHeld3
namespace Go.Proofs.YtdalibfgkkgcpaaGreat
open Go.RowKit
set_option linter.unusedVariables false

section
variable {w w1 w2 : World} {D r : Nat} {v pv : Value} {bs : List Int} {P : List ByteArray} {s s1 s2 : St} {g g' : Nat} {T T' : TypeId} {cs cs' : Array Value}
theorem Bx.oth (h : Bx w g T cs D r v pv bs P w1 s1) (g' i : Nat) (u : Value) (hg' : w.heap.size ≤ g') (hn : g' ≠ g) : Bx w g T cs D r v pv bs P (w1.setCell ⟨g', i, none⟩ u) s1 := by
  obtain ⟨s0, h0⟩ := h.h0
  have k : Dk D r w (w1.setCell ⟨g', i, none⟩ u) := Cs.setCell h.k (Or.inr hg') u
  refine ⟨⟨s0, h0⟩, h.hg, h0.re h.dc k (fun b hb => Below.heap_setCell _ _ _ _ (by rintro rfl; exact absurd hb (by simpa using hg'))), k, ?_⟩
  exact (Below.heap_setCell _ _ _ _ (fun e => hn e.symm)).trans h.b
theorem Bx.new2 (h : Bx w g T cs D r v pv bs P w1 s1) (cs' : Array Value) (T' : TypeId) : Bx w w1.heap.size T' cs' D r v pv bs P (w1.alloc (.cells cs' T')) s1 :=
  ⟨h.h0, h.k.size, h.dc.keep ((Ch.refl w1).alloc _), h.k.alloc _, heap_alloc_new _ _⟩
end

section
variable (D r : Nat) (v pv : Value) (bs : List Int) (P : List ByteArray) (s : St)
def hndR : Hnd × St := (⟨(nR bs 2 s).1, (nR bs 2 (nR bs 2 s).2).1, (nR bs 2 (nR bs 2 (nR bs 2 s).2).2).1, (txtR bs P (nR bs 2 (nR bs 2 (nR bs 2 s).2).2).2).1⟩,
  (txtR bs P (nR bs 2 (nR bs 2 (nR bs 2 s).2).2).2).2)

set_option maxHeartbeats 8000000 in
theorem handler_any (w : World) (h : Dc w D r v pv bs P s) :
    Calls Tryz.prog 126 #[.pointer (some ⟨D, 0, none⟩)] w fun e w' => e = .returned (hndV (hndR bs P s).1) ∧ Dc w' D r v pv bs P (hndR bs P s).2 ∧ Dk D r w w' := by
  unfold hndR
  obtain ⟨⟨x1, s1⟩, e1⟩ : ∃ q, nR bs 2 s = q := ⟨_, rfl⟩
  have H1 : Hid (∀ w', Dc w' D r v pv bs P s → Calls Tryz.prog 84 #[.pointer (some ⟨r, 0, none⟩)] w' fun e w'' => e = .returned (.int .i64 x1) ∧ Dc w'' D r v pv bs P s1 ∧ Dk D r w' w'') := fun w' h' => by
    have := u2_any D r v pv bs P s w' h'; rw [e1] at this; exact this
  rw [e1]
  dsimp only
  clear e1
  obtain ⟨⟨x2, s2⟩, e2⟩ : ∃ q, nR bs 2 s1 = q := ⟨_, rfl⟩
  have H2 : Hid (∀ w', Dc w' D r v pv bs P s1 → Calls Tryz.prog 84 #[.pointer (some ⟨r, 0, none⟩)] w' fun e w'' => e = .returned (.int .i64 x2) ∧ Dc w'' D r v pv bs P s2 ∧ Dk D r w' w'') := fun w' h' => by
    have := u2_any D r v pv bs P s1 w' h'; rw [e2] at this; exact this
  rw [e2]
  dsimp only
  clear e2
  obtain ⟨⟨x3, s3⟩, e3⟩ : ∃ q, nR bs 2 s2 = q := ⟨_, rfl⟩
  have H3 : Hid (∀ w', Dc w' D r v pv bs P s2 → Calls Tryz.prog 84 #[.pointer (some ⟨r, 0, none⟩)] w' fun e w'' => e = .returned (.int .i64 x3) ∧ Dc w'' D r v pv bs P s3 ∧ Dk D r w' w'') := fun w' h' => by
    have := u2_any D r v pv bs P s2 w' h'; rw [e3] at this; exact this
  rw [e3]
  dsimp only
  clear e3
  obtain ⟨⟨x4, s4⟩, e4⟩ : ∃ q, txtR bs P s3 = q := ⟨_, rfl⟩
  have H4 : Hid (∀ w', Dc w' D r v pv bs P s3 → Calls Tryz.prog 88 #[.pointer (some ⟨D, 0, none⟩)] w' fun e w'' => e = .returned (.string x4) ∧ Dc w'' D r v pv bs P s4 ∧ Dk D r w' w'') := fun w' h' => by
    have := dtext_any D r v pv bs P s3 w' h'; rw [e4] at this; exact this
  rw [e4]
  dsimp only
  clear e4
  unfold hndV
  dsimp only
  have B0 := Bx.new h #[.int .i64 0, .int .i64 0, .int .i64 0, .string ⟨#[]⟩] 77
  have B0d := B0.ch (Ch.refl _).drew
  have HS : Hid (∀ cs w' s', Bx w w.heap.size 77 cs D r v pv bs P w' s' → w'.cell? ⟨D, 0, none⟩ = some (.pointer (some ⟨r, 0, none⟩)) ∧ w'.frozen? ⟨w.heap.size, 0, none⟩ = false ∧ w'.frozen? ⟨w.heap.size, 1, none⟩ = false ∧ w'.frozen? ⟨w.heap.size, 2, none⟩ = false) := fun cs w' s' B => ⟨B.dc.c0, B.fz 0, B.fz 1, B.fz 2⟩
  have hSd := HS.out _ _ _ B0d
  clear h B0
  go_enter Tryz.func126, Tryz.ntmps126
  go_wp2
  go_region_held3 (fun w' => w'.cell? ⟨D, 0, none⟩ = some (.pointer (some ⟨r, 0, none⟩)) ∧ w'.frozen? ⟨w.heap.size, 0, none⟩ = false ∧ w'.frozen? ⟨w.heap.size, 1, none⟩ = false ∧ w'.frozen? ⟨w.heap.size, 2, none⟩ = false) (first | assumption | exact HS.out _ _ _ (B3.set _ _) | exact HS.out _ _ _ ((B3.set _ _).set _ _) | exact HS.out _ _ _ (((B3.set _ _).set _ _).set _ _) | fail) (first
    | (go_at_call 84; (with_reducible refine (H1.out _ B0d.dc).mono ?_); rintro e w1 ⟨rfl, h1, k1⟩; have B1 := B0d.call h1 k1; have hS1 := HS.out _ _ _ B1; clear B0d)
    | (go_at_call 84; (with_reducible refine (H2.out _ B1.dc).mono ?_); rintro e w2 ⟨rfl, h2, k2⟩; have B2 := B1.call h2 k2; have hS2 := HS.out _ _ _ B2; clear B1)
    | (go_at_call 84; (with_reducible refine (H3.out _ B2.dc).mono ?_); rintro e w3 ⟨rfl, h3, k3⟩; have B3 := B2.call h3 k3; have hS3 := HS.out _ _ _ B3; have g30 := B3.c 0 rfl; have g31 := B3.c 1 rfl; have g32 := B3.c 2 rfl; have g33 := B3.c 3 rfl; clear B2)
    | fail)
  go_wp2_with (first
    | (go_at_call 88; (with_reducible refine (H4.out _ (((B3.set 0 (.int .i64 x1)).set 1 (.int .i64 x2)).set 2 (.int .i64 x3)).dc).mono ?_); rintro e w4 ⟨rfl, h4, k4⟩; have B4 : Bx w w.heap.size 77 #[.int .i64 x1, .int .i64 x2, .int .i64 x3, .string ⟨#[]⟩] D r v pv bs P w4 s4 := (((B3.set 0 (.int .i64 x1)).set 1 (.int .i64 x2)).set 2 (.int .i64 x3)).call h4 k4; have f40 := B4.fz 0; have f41 := B4.fz 1; have f42 := B4.fz 2; have f43 := B4.fz 3; have g40 := B4.c 0 rfl; have g41 := B4.c 1 rfl; have g42 := B4.c 2 rfl; have g43 := B4.c 3 rfl)
    | fail)
  have B6 : Bx w w.heap.size 77 #[.int .i64 x1, .int .i64 x2, .int .i64 x3, .string x4] D r v pv bs P _ s4 := (((((B4.set 3 (.string x4)).set 0 (.int .i64 x1)).set 1 (.int .i64 x2)).set 2 (.int .i64 x3)).set 3 (.string x4))
  refine bodyPost_ret (results_cell_row rfl _ _ w.heap.size 77 _ (0, 0) _ rfl B6.b Tryz.underlying77 rfl info77) rfl ?_
  exact ⟨rfl, B6.dc, B6.k⟩

def insR : Ins × St :=
  let q := nR bs 1 s
  let k := kd (ix q.1)
  if k = 0 then (⟨q.1, 0, 0, ⟨#[]⟩, ⟨#[]⟩, ⟨#[]⟩⟩, fl q.2 3 s.a)
  else
    let qa := if sA k then iR bs q.2 else (0, q.2)
    let qb := if sB k then iR bs qa.2 else (0, qa.2)
    let qc := if sC k then txtR bs P qb.2 else (⟨#[]⟩, qb.2)
    let qn := if sN k then txtR bs P qc.2 else (⟨#[]⟩, qc.2)
    let qd := if sD k then txtR bs P qn.2 else (⟨#[]⟩, qn.2)
    (⟨q.1, qa.1, qb.1, qc.1, qn.1, qd.1⟩, qd.2)
def insV (x : Ins) : Value := .agg #[.int .i64 x.op, .int .i64 x.a, .int .i64 x.b, .string x.c, .string x.n, .string x.d]

set_option maxHeartbeats 8000000 in
theorem ins_core0 (w : World) (h : Dc w D r v pv bs P s) (op : Int) (s0 : St) (h0 : nR bs 1 s = (op, s0)) (kk : Int) (hk : kd (ix op) = kk) (hk0 : kk ≠ 0)
    (p1 : sA kk = false) (p2 : sB kk = false) (p3 : sC kk = false) (p4 : sN kk = false) (p5 : sD kk = false) :
    Calls Tryz.prog 124 #[.pointer (some ⟨D, 0, none⟩)] w fun e w' => e = .returned (insV (insR bs P s).1) ∧ Dc w' D r v pv bs P (insR bs P s).2 ∧ Dk D r w w' := by
  have H0 : Hid (∀ w', Dc w' D r v pv bs P s → Calls Tryz.prog 122 #[.pointer (some ⟨r, 0, none⟩)] w' fun e w'' => e = .returned (.int .i64 op) ∧ Dc w'' D r v pv bs P s0 ∧ Dk D r w' w'') := fun w' h' => by
    have := u1_any D r v pv bs P s w' h'; rw [h0] at this; exact this
  unfold insR
  simp only [h0, hk, if_neg hk0, p1, p2, p3, p4, p5, Bool.false_eq_true, if_false]
  have HO : Hid (∀ w', _) := fun w' => of_any op w'
  have hk1 : (kk != 0) = true := by simpa using hk0
  simp only [sh, hk, p1, p2, p3, p4, p5, hk1] at HO
  clear h0 hk hk0 hk1 p1 p2 p3 p4 p5
  unfold insV
  dsimp only
  have hD := h.lt
  have B0 := Bx.new h #[.int .i64 0, .int .i64 0, .int .i64 0, .string ⟨#[]⟩, .string ⟨#[]⟩, .string ⟨#[]⟩] 47
  have c0 := B0.dc.c0
  clear h
  go_enter Tryz.func124, Tryz.ntmps124
  go_wp2_with (first
    | (go_at_call 87; (with_reducible refine (at_any r v bs s.a s.f _ B0.dc.rd).mono ?_); rintro e w' ⟨rfl, hw⟩; have hw := hw.symm; subst hw)
    | (go_at_call 122; (with_reducible refine (H0.out _ B0.dc).mono ?_); rintro e w1 ⟨rfl, h1, k1⟩; have B1 := B0.call h1 k1; have f10 := B1.fz 0; have g10 := B1.c 0 rfl)
    | (go_at_call 101; (with_reducible refine (HO.out _).mono ?_); rintro e w2 ⟨rfl, k2⟩; have B2 : Bx w w.heap.size 47 #[.int .i64 op, .int .i64 0, .int .i64 0, .string ⟨#[]⟩, .string ⟨#[]⟩, .string ⟨#[]⟩] D r v pv bs P w2 s0 := (B1.set 0 (.int .i64 op)).ch k2; have hlt := B2.lt; have hDl : D < w2.heap.size := Nat.lt_trans hD hlt; have BU := (B2.ch ((Ch.refl _).alloc (.cells #[.bool false, .bool false, .bool false, .bool false, .bool false] 141))); have EU : Bx w w2.heap.size 141 #[.bool false, .bool false, .bool false, .bool false, .bool false] D r v pv bs P _ s0 := (B2.new2 #[.bool false, .bool false, .bool false, .bool false, .bool false] 141); have m0 := BU.c 0 rfl; have n0 := BU.fz 0; have m1 := BU.c 1 rfl; have n1 := BU.fz 1; have m2 := BU.c 2 rfl; have n2 := BU.fz 2; have m3 := BU.c 3 rfl; have n3 := BU.fz 3; have m4 := BU.c 4 rfl; have n4 := BU.fz 4; have m5 := BU.c 5 rfl; have n5 := BU.fz 5; have o0 := EU.c 0 rfl; have o1 := EU.c 1 rfl; have o2 := EU.c 2 rfl; have o3 := EU.c 3 rfl; have o4 := EU.c 4 rfl; clear B2 hlt hDl)
    | fail)
  go_step3
  go_wp2_with (first
    | (go_at_call 87; (with_reducible refine (at_any r v bs s.a s.f _ B0.dc.rd).mono ?_); rintro e w' ⟨rfl, hw⟩; have hw := hw.symm; subst hw)
    | (go_at_call 122; (with_reducible refine (H0.out _ B0.dc).mono ?_); rintro e w1 ⟨rfl, h1, k1⟩; have B1 := B0.call h1 k1; have f10 := B1.fz 0; have g10 := B1.c 0 rfl)
    | (go_at_call 101; (with_reducible refine (HO.out _).mono ?_); rintro e w2 ⟨rfl, k2⟩; have B2 : Bx w w.heap.size 47 #[.int .i64 op, .int .i64 0, .int .i64 0, .string ⟨#[]⟩, .string ⟨#[]⟩, .string ⟨#[]⟩] D r v pv bs P w2 s0 := (B1.set 0 (.int .i64 op)).ch k2; have hlt := B2.lt; have hDl : D < w2.heap.size := Nat.lt_trans hD hlt; have BU := (B2.ch ((Ch.refl _).alloc (.cells #[.bool false, .bool false, .bool false, .bool false, .bool false] 141))); have EU : Bx w w2.heap.size 141 #[.bool false, .bool false, .bool false, .bool false, .bool false] D r v pv bs P _ s0 := (B2.new2 #[.bool false, .bool false, .bool false, .bool false, .bool false] 141); have m0 := BU.c 0 rfl; have n0 := BU.fz 0; have m1 := BU.c 1 rfl; have n1 := BU.fz 1; have m2 := BU.c 2 rfl; have n2 := BU.fz 2; have m3 := BU.c 3 rfl; have n3 := BU.fz 3; have m4 := BU.c 4 rfl; have n4 := BU.fz 4; have m5 := BU.c 5 rfl; have n5 := BU.fz 5; have o0 := EU.c 0 rfl; have o1 := EU.c 1 rfl; have o2 := EU.c 2 rfl; have o3 := EU.c 3 rfl; have o4 := EU.c 4 rfl; clear B2 hlt hDl)
    | fail)
  generalize w2.alloc (.cells #[.bool false, .bool false, .bool false, .bool false, .bool false] 141) = U at *
  refine wp_label ?_
  go_wp2_with fail
  have B9 : Bx w w.heap.size 47 #[.int .i64 op, .int .i64 0, .int .i64 0, .string ⟨#[]⟩, .string ⟨#[]⟩, .string ⟨#[]⟩] D r v pv bs P _ s0 := ((((((BU.set 0 (.int .i64 op)).set 1 (.int .i64 0)).set 2 (.int .i64 0)).set 3 (.string ⟨#[]⟩)).set 4 (.string ⟨#[]⟩)).set 5 (.string ⟨#[]⟩))
  try rw [Exit.noGoto_ret]
  refine bodyPost_ret (results_cell_row rfl _ _ w.heap.size 47 _ (0, 0) _ rfl B9.b Tryz.underlying47 rfl info47) rfl ?_
  exact ⟨rfl, B9.dc, B9.k⟩

set_option maxHeartbeats 8000000 in
theorem ins_core1 (w : World) (h : Dc w D r v pv bs P s) (op : Int) (s0 : St) (h0 : nR bs 1 s = (op, s0)) (kk : Int) (hk : kd (ix op) = kk) (hk0 : kk ≠ 0)
    (p1 : sA kk = true) (p2 : sB kk = false) (p3 : sC kk = false) (p4 : sN kk = false) (p5 : sD kk = false) :
    Calls Tryz.prog 124 #[.pointer (some ⟨D, 0, none⟩)] w fun e w' => e = .returned (insV (insR bs P s).1) ∧ Dc w' D r v pv bs P (insR bs P s).2 ∧ Dk D r w w' := by
  have H0 : Hid (∀ w', Dc w' D r v pv bs P s → Calls Tryz.prog 122 #[.pointer (some ⟨r, 0, none⟩)] w' fun e w'' => e = .returned (.int .i64 op) ∧ Dc w'' D r v pv bs P s0 ∧ Dk D r w' w'') := fun w' h' => by
    have := u1_any D r v pv bs P s w' h'; rw [h0] at this; exact this
  unfold insR
  simp only [h0, hk, if_neg hk0, p1, p2, p3, p4, p5, if_true, Bool.false_eq_true, if_false]
  have HO : Hid (∀ w', _) := fun w' => of_any op w'
  have hk1 : (kk != 0) = true := by simpa using hk0
  simp only [sh, hk, p1, p2, p3, p4, p5, hk1] at HO
  clear h0 hk hk0 hk1 p1 p2 p3 p4 p5
  obtain ⟨⟨x1, s1⟩, e1⟩ : ∃ q, iR bs s0 = q := ⟨_, rfl⟩
  have H1 : Hid (∀ w', Dc w' D r v pv bs P s0 → Calls Tryz.prog 47 #[.pointer (some ⟨r, 0, none⟩)] w' fun e w'' => e = .returned (.int .i64 x1) ∧ Dc w'' D r v pv bs P s1 ∧ Dk D r w' w'') := fun w' h' => by
    have := i4_any D r v pv bs P s0 w' h'; rw [e1] at this; exact this
  rw [e1]
  dsimp only
  clear e1
  unfold insV
  dsimp only
  have hD := h.lt
  have B0 := Bx.new h #[.int .i64 0, .int .i64 0, .int .i64 0, .string ⟨#[]⟩, .string ⟨#[]⟩, .string ⟨#[]⟩] 47
  have c0 := B0.dc.c0
  clear h
  go_enter Tryz.func124, Tryz.ntmps124
  go_wp2_with (first
    | (go_at_call 87; (with_reducible refine (at_any r v bs s.a s.f _ B0.dc.rd).mono ?_); rintro e w' ⟨rfl, hw⟩; have hw := hw.symm; subst hw)
    | (go_at_call 122; (with_reducible refine (H0.out _ B0.dc).mono ?_); rintro e w1 ⟨rfl, h1, k1⟩; have B1 := B0.call h1 k1; have f10 := B1.fz 0; have g10 := B1.c 0 rfl)
    | (go_at_call 101; (with_reducible refine (HO.out _).mono ?_); rintro e w2 ⟨rfl, k2⟩; have B2 : Bx w w.heap.size 47 #[.int .i64 op, .int .i64 0, .int .i64 0, .string ⟨#[]⟩, .string ⟨#[]⟩, .string ⟨#[]⟩] D r v pv bs P w2 s0 := (B1.set 0 (.int .i64 op)).ch k2; have hlt := B2.lt; have hDl : D < w2.heap.size := Nat.lt_trans hD hlt; have BU := (B2.ch ((Ch.refl _).alloc (.cells #[.bool true, .bool false, .bool false, .bool false, .bool false] 141))); have EU : Bx w w2.heap.size 141 #[.bool true, .bool false, .bool false, .bool false, .bool false] D r v pv bs P _ s0 := (B2.new2 #[.bool true, .bool false, .bool false, .bool false, .bool false] 141); have f2 := B2.fz 0; have cU := B2.dc.c0; have m0 := B2.c 0 rfl; have m1 := B2.c 1 rfl; have m2 := B2.c 2 rfl; have m3 := B2.c 3 rfl; have m4 := B2.c 4 rfl; have m5 := B2.c 5 rfl; have n0 := B2.fz 0; have n1 := B2.fz 1; have n2 := B2.fz 2; have n3 := B2.fz 3; have n4 := B2.fz 4; have n5 := B2.fz 5)
    | (go_at_call 47; (with_reducible refine (H1.out _ BU.dc).mono ?_); rintro e w3 ⟨rfl, h3, k3⟩; have B3 : Bx w w.heap.size 47 #[.int .i64 op, .int .i64 0, .int .i64 0, .string ⟨#[]⟩, .string ⟨#[]⟩, .string ⟨#[]⟩] D r v pv bs P w3 s1 := BU.call h3 k3; have E3 := EU.call h3 k3; have d3 := B3.dc.c0; have a30 := B3.fz 0; have b30 := B3.c 0 rfl; have a31 := B3.fz 1; have b31 := B3.c 1 rfl; have a32 := B3.fz 2; have b32 := B3.c 2 rfl; have a33 := B3.fz 3; have b33 := B3.c 3 rfl; have a34 := B3.fz 4; have b34 := B3.c 4 rfl; have a35 := B3.fz 5; have b35 := B3.c 5 rfl; have c30 := E3.c 0 rfl; have c31 := E3.c 1 rfl; have c32 := E3.c 2 rfl; have c33 := E3.c 3 rfl; have c34 := E3.c 4 rfl; have Q3 := B3.set 1 (.int .i64 x1); have R3 := E3.oth w.heap.size 1 (.int .i64 x1) (Nat.le_refl _) (Nat.ne_of_lt hlt))
    | fail)
  go_step3
  go_wp2_with (first
    | (go_at_call 87; (with_reducible refine (at_any r v bs s.a s.f _ B0.dc.rd).mono ?_); rintro e w' ⟨rfl, hw⟩; have hw := hw.symm; subst hw)
    | (go_at_call 122; (with_reducible refine (H0.out _ B0.dc).mono ?_); rintro e w1 ⟨rfl, h1, k1⟩; have B1 := B0.call h1 k1; have f10 := B1.fz 0; have g10 := B1.c 0 rfl)
    | (go_at_call 101; (with_reducible refine (HO.out _).mono ?_); rintro e w2 ⟨rfl, k2⟩; have B2 : Bx w w.heap.size 47 #[.int .i64 op, .int .i64 0, .int .i64 0, .string ⟨#[]⟩, .string ⟨#[]⟩, .string ⟨#[]⟩] D r v pv bs P w2 s0 := (B1.set 0 (.int .i64 op)).ch k2; have hlt := B2.lt; have hDl : D < w2.heap.size := Nat.lt_trans hD hlt; have BU := (B2.ch ((Ch.refl _).alloc (.cells #[.bool true, .bool false, .bool false, .bool false, .bool false] 141))); have EU : Bx w w2.heap.size 141 #[.bool true, .bool false, .bool false, .bool false, .bool false] D r v pv bs P _ s0 := (B2.new2 #[.bool true, .bool false, .bool false, .bool false, .bool false] 141); have f2 := B2.fz 0; have cU := B2.dc.c0; have m0 := B2.c 0 rfl; have m1 := B2.c 1 rfl; have m2 := B2.c 2 rfl; have m3 := B2.c 3 rfl; have m4 := B2.c 4 rfl; have m5 := B2.c 5 rfl; have n0 := B2.fz 0; have n1 := B2.fz 1; have n2 := B2.fz 2; have n3 := B2.fz 3; have n4 := B2.fz 4; have n5 := B2.fz 5)
    | (go_at_call 47; (with_reducible refine (H1.out _ BU.dc).mono ?_); rintro e w3 ⟨rfl, h3, k3⟩; have B3 : Bx w w.heap.size 47 #[.int .i64 op, .int .i64 0, .int .i64 0, .string ⟨#[]⟩, .string ⟨#[]⟩, .string ⟨#[]⟩] D r v pv bs P w3 s1 := BU.call h3 k3; have E3 := EU.call h3 k3; have d3 := B3.dc.c0; have a30 := B3.fz 0; have b30 := B3.c 0 rfl; have a31 := B3.fz 1; have b31 := B3.c 1 rfl; have a32 := B3.fz 2; have b32 := B3.c 2 rfl; have a33 := B3.fz 3; have b33 := B3.c 3 rfl; have a34 := B3.fz 4; have b34 := B3.c 4 rfl; have a35 := B3.fz 5; have b35 := B3.c 5 rfl; have c30 := E3.c 0 rfl; have c31 := E3.c 1 rfl; have c32 := E3.c 2 rfl; have c33 := E3.c 3 rfl; have c34 := E3.c 4 rfl; have Q3 := B3.set 1 (.int .i64 x1); have R3 := E3.oth w.heap.size 1 (.int .i64 x1) (Nat.le_refl _) (Nat.ne_of_lt hlt))
    | fail)
  refine wp_label ?_
  go_wp2_with fail
  have B9 : Bx w w.heap.size 47 #[.int .i64 op, .int .i64 x1, .int .i64 0, .string ⟨#[]⟩, .string ⟨#[]⟩, .string ⟨#[]⟩] D r v pv bs P _ s1 := ((((((Q3.set 0 (.int .i64 op)).set 1 (.int .i64 x1)).set 2 (.int .i64 0)).set 3 (.string ⟨#[]⟩)).set 4 (.string ⟨#[]⟩)).set 5 (.string ⟨#[]⟩))
  try rw [Exit.noGoto_ret]
  refine bodyPost_ret (results_cell_row rfl _ _ w.heap.size 47 _ (0, 0) _ rfl B9.b Tryz.underlying47 rfl info47) rfl ?_
  exact ⟨rfl, B9.dc, B9.k⟩

set_option maxHeartbeats 8000000 in
theorem ins_core2 (w : World) (h : Dc w D r v pv bs P s) (op : Int) (s0 : St) (h0 : nR bs 1 s = (op, s0)) (kk : Int) (hk : kd (ix op) = kk) (hk0 : kk ≠ 0)
    (p1 : sA kk = true) (p2 : sB kk = true) (p3 : sC kk = false) (p4 : sN kk = false) (p5 : sD kk = false) :
    Calls Tryz.prog 124 #[.pointer (some ⟨D, 0, none⟩)] w fun e w' => e = .returned (insV (insR bs P s).1) ∧ Dc w' D r v pv bs P (insR bs P s).2 ∧ Dk D r w w' := by
  have H0 : Hid (∀ w', Dc w' D r v pv bs P s → Calls Tryz.prog 122 #[.pointer (some ⟨r, 0, none⟩)] w' fun e w'' => e = .returned (.int .i64 op) ∧ Dc w'' D r v pv bs P s0 ∧ Dk D r w' w'') := fun w' h' => by
    have := u1_any D r v pv bs P s w' h'; rw [h0] at this; exact this
  unfold insR
  simp only [h0, hk, if_neg hk0, p1, p2, p3, p4, p5, if_true, Bool.false_eq_true, if_false]
  have HO : Hid (∀ w', _) := fun w' => of_any op w'
  have hk1 : (kk != 0) = true := by simpa using hk0
  simp only [sh, hk, p1, p2, p3, p4, p5, hk1] at HO
  clear h0 hk hk0 hk1 p1 p2 p3 p4 p5
  obtain ⟨⟨x1, s1⟩, e1⟩ : ∃ q, iR bs s0 = q := ⟨_, rfl⟩
  have H1 : Hid (∀ w', Dc w' D r v pv bs P s0 → Calls Tryz.prog 47 #[.pointer (some ⟨r, 0, none⟩)] w' fun e w'' => e = .returned (.int .i64 x1) ∧ Dc w'' D r v pv bs P s1 ∧ Dk D r w' w'') := fun w' h' => by
    have := i4_any D r v pv bs P s0 w' h'; rw [e1] at this; exact this
  rw [e1]
  dsimp only
  clear e1
  obtain ⟨⟨x2, s2⟩, e2⟩ : ∃ q, iR bs s1 = q := ⟨_, rfl⟩
  have H2 : Hid (∀ w', Dc w' D r v pv bs P s1 → Calls Tryz.prog 47 #[.pointer (some ⟨r, 0, none⟩)] w' fun e w'' => e = .returned (.int .i64 x2) ∧ Dc w'' D r v pv bs P s2 ∧ Dk D r w' w'') := fun w' h' => by
    have := i4_any D r v pv bs P s1 w' h'; rw [e2] at this; exact this
  rw [e2]
  dsimp only
  clear e2
  unfold insV
  dsimp only
  have hD := h.lt
  have B0 := Bx.new h #[.int .i64 0, .int .i64 0, .int .i64 0, .string ⟨#[]⟩, .string ⟨#[]⟩, .string ⟨#[]⟩] 47
  have c0 := B0.dc.c0
  clear h
  go_enter Tryz.func124, Tryz.ntmps124
  go_wp2_with (first
    | (go_at_call 87; (with_reducible refine (at_any r v bs s.a s.f _ B0.dc.rd).mono ?_); rintro e w' ⟨rfl, hw⟩; have hw := hw.symm; subst hw)
    | (go_at_call 122; (with_reducible refine (H0.out _ B0.dc).mono ?_); rintro e w1 ⟨rfl, h1, k1⟩; have B1 := B0.call h1 k1; have f10 := B1.fz 0; have g10 := B1.c 0 rfl)
    | (go_at_call 101; (with_reducible refine (HO.out _).mono ?_); rintro e w2 ⟨rfl, k2⟩; have B2 : Bx w w.heap.size 47 #[.int .i64 op, .int .i64 0, .int .i64 0, .string ⟨#[]⟩, .string ⟨#[]⟩, .string ⟨#[]⟩] D r v pv bs P w2 s0 := (B1.set 0 (.int .i64 op)).ch k2; have hlt := B2.lt; have hDl : D < w2.heap.size := Nat.lt_trans hD hlt; have BU := (B2.ch ((Ch.refl _).alloc (.cells #[.bool true, .bool true, .bool false, .bool false, .bool false] 141))); have EU : Bx w w2.heap.size 141 #[.bool true, .bool true, .bool false, .bool false, .bool false] D r v pv bs P _ s0 := (B2.new2 #[.bool true, .bool true, .bool false, .bool false, .bool false] 141); have f2 := B2.fz 0; have cU := B2.dc.c0; have m0 := B2.c 0 rfl; have m1 := B2.c 1 rfl; have m2 := B2.c 2 rfl; have m3 := B2.c 3 rfl; have m4 := B2.c 4 rfl; have m5 := B2.c 5 rfl; have n0 := B2.fz 0; have n1 := B2.fz 1; have n2 := B2.fz 2; have n3 := B2.fz 3; have n4 := B2.fz 4; have n5 := B2.fz 5)
    | (go_at_call 47; (with_reducible refine (H1.out _ BU.dc).mono ?_); rintro e w3 ⟨rfl, h3, k3⟩; have B3 : Bx w w.heap.size 47 #[.int .i64 op, .int .i64 0, .int .i64 0, .string ⟨#[]⟩, .string ⟨#[]⟩, .string ⟨#[]⟩] D r v pv bs P w3 s1 := BU.call h3 k3; have E3 := EU.call h3 k3; have d3 := B3.dc.c0; have a30 := B3.fz 0; have b30 := B3.c 0 rfl; have a31 := B3.fz 1; have b31 := B3.c 1 rfl; have a32 := B3.fz 2; have b32 := B3.c 2 rfl; have a33 := B3.fz 3; have b33 := B3.c 3 rfl; have a34 := B3.fz 4; have b34 := B3.c 4 rfl; have a35 := B3.fz 5; have b35 := B3.c 5 rfl; have c30 := E3.c 0 rfl; have c31 := E3.c 1 rfl; have c32 := E3.c 2 rfl; have c33 := E3.c 3 rfl; have c34 := E3.c 4 rfl; have Q3 := B3.set 1 (.int .i64 x1); have R3 := E3.oth w.heap.size 1 (.int .i64 x1) (Nat.le_refl _) (Nat.ne_of_lt hlt))
    | (go_at_call 47; (with_reducible refine (H2.out _ Q3.dc).mono ?_); rintro e w4 ⟨rfl, h4, k4⟩; have B4 : Bx w w.heap.size 47 #[.int .i64 op, .int .i64 x1, .int .i64 0, .string ⟨#[]⟩, .string ⟨#[]⟩, .string ⟨#[]⟩] D r v pv bs P w4 s2 := Q3.call h4 k4; have E4 := R3.call h4 k4; have d4 := B4.dc.c0; have a40 := B4.fz 0; have b40 := B4.c 0 rfl; have a41 := B4.fz 1; have b41 := B4.c 1 rfl; have a42 := B4.fz 2; have b42 := B4.c 2 rfl; have a43 := B4.fz 3; have b43 := B4.c 3 rfl; have a44 := B4.fz 4; have b44 := B4.c 4 rfl; have a45 := B4.fz 5; have b45 := B4.c 5 rfl; have c40 := E4.c 0 rfl; have c41 := E4.c 1 rfl; have c42 := E4.c 2 rfl; have c43 := E4.c 3 rfl; have c44 := E4.c 4 rfl; have Q4 := B4.set 2 (.int .i64 x2); have R4 := E4.oth w.heap.size 2 (.int .i64 x2) (Nat.le_refl _) (Nat.ne_of_lt hlt))
    | fail)
  go_step3
  go_wp2_with (first
    | (go_at_call 87; (with_reducible refine (at_any r v bs s.a s.f _ B0.dc.rd).mono ?_); rintro e w' ⟨rfl, hw⟩; have hw := hw.symm; subst hw)
    | (go_at_call 122; (with_reducible refine (H0.out _ B0.dc).mono ?_); rintro e w1 ⟨rfl, h1, k1⟩; have B1 := B0.call h1 k1; have f10 := B1.fz 0; have g10 := B1.c 0 rfl)
    | (go_at_call 101; (with_reducible refine (HO.out _).mono ?_); rintro e w2 ⟨rfl, k2⟩; have B2 : Bx w w.heap.size 47 #[.int .i64 op, .int .i64 0, .int .i64 0, .string ⟨#[]⟩, .string ⟨#[]⟩, .string ⟨#[]⟩] D r v pv bs P w2 s0 := (B1.set 0 (.int .i64 op)).ch k2; have hlt := B2.lt; have hDl : D < w2.heap.size := Nat.lt_trans hD hlt; have BU := (B2.ch ((Ch.refl _).alloc (.cells #[.bool true, .bool true, .bool false, .bool false, .bool false] 141))); have EU : Bx w w2.heap.size 141 #[.bool true, .bool true, .bool false, .bool false, .bool false] D r v pv bs P _ s0 := (B2.new2 #[.bool true, .bool true, .bool false, .bool false, .bool false] 141); have f2 := B2.fz 0; have cU := B2.dc.c0; have m0 := B2.c 0 rfl; have m1 := B2.c 1 rfl; have m2 := B2.c 2 rfl; have m3 := B2.c 3 rfl; have m4 := B2.c 4 rfl; have m5 := B2.c 5 rfl; have n0 := B2.fz 0; have n1 := B2.fz 1; have n2 := B2.fz 2; have n3 := B2.fz 3; have n4 := B2.fz 4; have n5 := B2.fz 5)
    | (go_at_call 47; (with_reducible refine (H1.out _ BU.dc).mono ?_); rintro e w3 ⟨rfl, h3, k3⟩; have B3 : Bx w w.heap.size 47 #[.int .i64 op, .int .i64 0, .int .i64 0, .string ⟨#[]⟩, .string ⟨#[]⟩, .string ⟨#[]⟩] D r v pv bs P w3 s1 := BU.call h3 k3; have E3 := EU.call h3 k3; have d3 := B3.dc.c0; have a30 := B3.fz 0; have b30 := B3.c 0 rfl; have a31 := B3.fz 1; have b31 := B3.c 1 rfl; have a32 := B3.fz 2; have b32 := B3.c 2 rfl; have a33 := B3.fz 3; have b33 := B3.c 3 rfl; have a34 := B3.fz 4; have b34 := B3.c 4 rfl; have a35 := B3.fz 5; have b35 := B3.c 5 rfl; have c30 := E3.c 0 rfl; have c31 := E3.c 1 rfl; have c32 := E3.c 2 rfl; have c33 := E3.c 3 rfl; have c34 := E3.c 4 rfl; have Q3 := B3.set 1 (.int .i64 x1); have R3 := E3.oth w.heap.size 1 (.int .i64 x1) (Nat.le_refl _) (Nat.ne_of_lt hlt))
    | (go_at_call 47; (with_reducible refine (H2.out _ Q3.dc).mono ?_); rintro e w4 ⟨rfl, h4, k4⟩; have B4 : Bx w w.heap.size 47 #[.int .i64 op, .int .i64 x1, .int .i64 0, .string ⟨#[]⟩, .string ⟨#[]⟩, .string ⟨#[]⟩] D r v pv bs P w4 s2 := Q3.call h4 k4; have E4 := R3.call h4 k4; have d4 := B4.dc.c0; have a40 := B4.fz 0; have b40 := B4.c 0 rfl; have a41 := B4.fz 1; have b41 := B4.c 1 rfl; have a42 := B4.fz 2; have b42 := B4.c 2 rfl; have a43 := B4.fz 3; have b43 := B4.c 3 rfl; have a44 := B4.fz 4; have b44 := B4.c 4 rfl; have a45 := B4.fz 5; have b45 := B4.c 5 rfl; have c40 := E4.c 0 rfl; have c41 := E4.c 1 rfl; have c42 := E4.c 2 rfl; have c43 := E4.c 3 rfl; have c44 := E4.c 4 rfl; have Q4 := B4.set 2 (.int .i64 x2); have R4 := E4.oth w.heap.size 2 (.int .i64 x2) (Nat.le_refl _) (Nat.ne_of_lt hlt))
    | fail)
  refine wp_label ?_
  go_wp2_with fail
  have B9 : Bx w w.heap.size 47 #[.int .i64 op, .int .i64 x1, .int .i64 x2, .string ⟨#[]⟩, .string ⟨#[]⟩, .string ⟨#[]⟩] D r v pv bs P _ s2 := ((((((Q4.set 0 (.int .i64 op)).set 1 (.int .i64 x1)).set 2 (.int .i64 x2)).set 3 (.string ⟨#[]⟩)).set 4 (.string ⟨#[]⟩)).set 5 (.string ⟨#[]⟩))
  try rw [Exit.noGoto_ret]
  refine bodyPost_ret (results_cell_row rfl _ _ w.heap.size 47 _ (0, 0) _ rfl B9.b Tryz.underlying47 rfl info47) rfl ?_
  exact ⟨rfl, B9.dc, B9.k⟩

set_option maxHeartbeats 8000000 in
theorem ins_core3 (w : World) (h : Dc w D r v pv bs P s) (op : Int) (s0 : St) (h0 : nR bs 1 s = (op, s0)) (kk : Int) (hk : kd (ix op) = kk) (hk0 : kk ≠ 0)
    (p1 : sA kk = false) (p2 : sB kk = false) (p3 : sC kk = true) (p4 : sN kk = false) (p5 : sD kk = false) :
    Calls Tryz.prog 124 #[.pointer (some ⟨D, 0, none⟩)] w fun e w' => e = .returned (insV (insR bs P s).1) ∧ Dc w' D r v pv bs P (insR bs P s).2 ∧ Dk D r w w' := by
  have H0 : Hid (∀ w', Dc w' D r v pv bs P s → Calls Tryz.prog 122 #[.pointer (some ⟨r, 0, none⟩)] w' fun e w'' => e = .returned (.int .i64 op) ∧ Dc w'' D r v pv bs P s0 ∧ Dk D r w' w'') := fun w' h' => by
    have := u1_any D r v pv bs P s w' h'; rw [h0] at this; exact this
  unfold insR
  simp only [h0, hk, if_neg hk0, p1, p2, p3, p4, p5, if_true, Bool.false_eq_true, if_false]
  have HO : Hid (∀ w', _) := fun w' => of_any op w'
  have hk1 : (kk != 0) = true := by simpa using hk0
  simp only [sh, hk, p1, p2, p3, p4, p5, hk1] at HO
  clear h0 hk hk0 hk1 p1 p2 p3 p4 p5
  obtain ⟨⟨x1, s1⟩, e1⟩ : ∃ q, txtR bs P s0 = q := ⟨_, rfl⟩
  have H1 : Hid (∀ w', Dc w' D r v pv bs P s0 → Calls Tryz.prog 88 #[.pointer (some ⟨D, 0, none⟩)] w' fun e w'' => e = .returned (.string x1) ∧ Dc w'' D r v pv bs P s1 ∧ Dk D r w' w'') := fun w' h' => by
    have := dtext_any D r v pv bs P s0 w' h'; rw [e1] at this; exact this
  rw [e1]
  dsimp only
  clear e1
  unfold insV
  dsimp only
  have hD := h.lt
  have B0 := Bx.new h #[.int .i64 0, .int .i64 0, .int .i64 0, .string ⟨#[]⟩, .string ⟨#[]⟩, .string ⟨#[]⟩] 47
  have c0 := B0.dc.c0
  clear h
  go_enter Tryz.func124, Tryz.ntmps124
  go_wp2_with (first
    | (go_at_call 87; (with_reducible refine (at_any r v bs s.a s.f _ B0.dc.rd).mono ?_); rintro e w' ⟨rfl, hw⟩; have hw := hw.symm; subst hw)
    | (go_at_call 122; (with_reducible refine (H0.out _ B0.dc).mono ?_); rintro e w1 ⟨rfl, h1, k1⟩; have B1 := B0.call h1 k1; have f10 := B1.fz 0; have g10 := B1.c 0 rfl)
    | (go_at_call 101; (with_reducible refine (HO.out _).mono ?_); rintro e w2 ⟨rfl, k2⟩; have B2 : Bx w w.heap.size 47 #[.int .i64 op, .int .i64 0, .int .i64 0, .string ⟨#[]⟩, .string ⟨#[]⟩, .string ⟨#[]⟩] D r v pv bs P w2 s0 := (B1.set 0 (.int .i64 op)).ch k2; have hlt := B2.lt; have hDl : D < w2.heap.size := Nat.lt_trans hD hlt; have BU := (B2.ch ((Ch.refl _).alloc (.cells #[.bool false, .bool false, .bool true, .bool false, .bool false] 141))); have EU : Bx w w2.heap.size 141 #[.bool false, .bool false, .bool true, .bool false, .bool false] D r v pv bs P _ s0 := (B2.new2 #[.bool false, .bool false, .bool true, .bool false, .bool false] 141); have f2 := B2.fz 0; have cU := B2.dc.c0; have m0 := B2.c 0 rfl; have m1 := B2.c 1 rfl; have m2 := B2.c 2 rfl; have m3 := B2.c 3 rfl; have m4 := B2.c 4 rfl; have m5 := B2.c 5 rfl; have n0 := B2.fz 0; have n1 := B2.fz 1; have n2 := B2.fz 2; have n3 := B2.fz 3; have n4 := B2.fz 4; have n5 := B2.fz 5)
    | (go_at_call 88; (with_reducible refine (H1.out _ BU.dc).mono ?_); rintro e w3 ⟨rfl, h3, k3⟩; have B3 : Bx w w.heap.size 47 #[.int .i64 op, .int .i64 0, .int .i64 0, .string ⟨#[]⟩, .string ⟨#[]⟩, .string ⟨#[]⟩] D r v pv bs P w3 s1 := BU.call h3 k3; have E3 := EU.call h3 k3; have d3 := B3.dc.c0; have a30 := B3.fz 0; have b30 := B3.c 0 rfl; have a31 := B3.fz 1; have b31 := B3.c 1 rfl; have a32 := B3.fz 2; have b32 := B3.c 2 rfl; have a33 := B3.fz 3; have b33 := B3.c 3 rfl; have a34 := B3.fz 4; have b34 := B3.c 4 rfl; have a35 := B3.fz 5; have b35 := B3.c 5 rfl; have c30 := E3.c 0 rfl; have c31 := E3.c 1 rfl; have c32 := E3.c 2 rfl; have c33 := E3.c 3 rfl; have c34 := E3.c 4 rfl; have Q3 := B3.set 3 (.string x1); have R3 := E3.oth w.heap.size 3 (.string x1) (Nat.le_refl _) (Nat.ne_of_lt hlt))
    | fail)
  go_step3
  go_wp2_with (first
    | (go_at_call 87; (with_reducible refine (at_any r v bs s.a s.f _ B0.dc.rd).mono ?_); rintro e w' ⟨rfl, hw⟩; have hw := hw.symm; subst hw)
    | (go_at_call 122; (with_reducible refine (H0.out _ B0.dc).mono ?_); rintro e w1 ⟨rfl, h1, k1⟩; have B1 := B0.call h1 k1; have f10 := B1.fz 0; have g10 := B1.c 0 rfl)
    | (go_at_call 101; (with_reducible refine (HO.out _).mono ?_); rintro e w2 ⟨rfl, k2⟩; have B2 : Bx w w.heap.size 47 #[.int .i64 op, .int .i64 0, .int .i64 0, .string ⟨#[]⟩, .string ⟨#[]⟩, .string ⟨#[]⟩] D r v pv bs P w2 s0 := (B1.set 0 (.int .i64 op)).ch k2; have hlt := B2.lt; have hDl : D < w2.heap.size := Nat.lt_trans hD hlt; have BU := (B2.ch ((Ch.refl _).alloc (.cells #[.bool false, .bool false, .bool true, .bool false, .bool false] 141))); have EU : Bx w w2.heap.size 141 #[.bool false, .bool false, .bool true, .bool false, .bool false] D r v pv bs P _ s0 := (B2.new2 #[.bool false, .bool false, .bool true, .bool false, .bool false] 141); have f2 := B2.fz 0; have cU := B2.dc.c0; have m0 := B2.c 0 rfl; have m1 := B2.c 1 rfl; have m2 := B2.c 2 rfl; have m3 := B2.c 3 rfl; have m4 := B2.c 4 rfl; have m5 := B2.c 5 rfl; have n0 := B2.fz 0; have n1 := B2.fz 1; have n2 := B2.fz 2; have n3 := B2.fz 3; have n4 := B2.fz 4; have n5 := B2.fz 5)
    | (go_at_call 88; (with_reducible refine (H1.out _ BU.dc).mono ?_); rintro e w3 ⟨rfl, h3, k3⟩; have B3 : Bx w w.heap.size 47 #[.int .i64 op, .int .i64 0, .int .i64 0, .string ⟨#[]⟩, .string ⟨#[]⟩, .string ⟨#[]⟩] D r v pv bs P w3 s1 := BU.call h3 k3; have E3 := EU.call h3 k3; have d3 := B3.dc.c0; have a30 := B3.fz 0; have b30 := B3.c 0 rfl; have a31 := B3.fz 1; have b31 := B3.c 1 rfl; have a32 := B3.fz 2; have b32 := B3.c 2 rfl; have a33 := B3.fz 3; have b33 := B3.c 3 rfl; have a34 := B3.fz 4; have b34 := B3.c 4 rfl; have a35 := B3.fz 5; have b35 := B3.c 5 rfl; have c30 := E3.c 0 rfl; have c31 := E3.c 1 rfl; have c32 := E3.c 2 rfl; have c33 := E3.c 3 rfl; have c34 := E3.c 4 rfl; have Q3 := B3.set 3 (.string x1); have R3 := E3.oth w.heap.size 3 (.string x1) (Nat.le_refl _) (Nat.ne_of_lt hlt))
    | fail)
  refine wp_label ?_
  go_wp2_with fail
  have B9 : Bx w w.heap.size 47 #[.int .i64 op, .int .i64 0, .int .i64 0, .string x1, .string ⟨#[]⟩, .string ⟨#[]⟩] D r v pv bs P _ s1 := ((((((Q3.set 0 (.int .i64 op)).set 1 (.int .i64 0)).set 2 (.int .i64 0)).set 3 (.string x1)).set 4 (.string ⟨#[]⟩)).set 5 (.string ⟨#[]⟩))
  try rw [Exit.noGoto_ret]
  refine bodyPost_ret (results_cell_row rfl _ _ w.heap.size 47 _ (0, 0) _ rfl B9.b Tryz.underlying47 rfl info47) rfl ?_
  exact ⟨rfl, B9.dc, B9.k⟩

set_option maxHeartbeats 8000000 in
theorem ins_core4 (w : World) (h : Dc w D r v pv bs P s) (op : Int) (s0 : St) (h0 : nR bs 1 s = (op, s0)) (kk : Int) (hk : kd (ix op) = kk) (hk0 : kk ≠ 0)
    (p1 : sA kk = false) (p2 : sB kk = false) (p3 : sC kk = false) (p4 : sN kk = false) (p5 : sD kk = true) :
    Calls Tryz.prog 124 #[.pointer (some ⟨D, 0, none⟩)] w fun e w' => e = .returned (insV (insR bs P s).1) ∧ Dc w' D r v pv bs P (insR bs P s).2 ∧ Dk D r w w' := by
  have H0 : Hid (∀ w', Dc w' D r v pv bs P s → Calls Tryz.prog 122 #[.pointer (some ⟨r, 0, none⟩)] w' fun e w'' => e = .returned (.int .i64 op) ∧ Dc w'' D r v pv bs P s0 ∧ Dk D r w' w'') := fun w' h' => by
    have := u1_any D r v pv bs P s w' h'; rw [h0] at this; exact this
  unfold insR
  simp only [h0, hk, if_neg hk0, p1, p2, p3, p4, p5, if_true, Bool.false_eq_true, if_false]
  have HO : Hid (∀ w', _) := fun w' => of_any op w'
  have hk1 : (kk != 0) = true := by simpa using hk0
  simp only [sh, hk, p1, p2, p3, p4, p5, hk1] at HO
  clear h0 hk hk0 hk1 p1 p2 p3 p4 p5
  obtain ⟨⟨x1, s1⟩, e1⟩ : ∃ q, txtR bs P s0 = q := ⟨_, rfl⟩
  have H1 : Hid (∀ w', Dc w' D r v pv bs P s0 → Calls Tryz.prog 88 #[.pointer (some ⟨D, 0, none⟩)] w' fun e w'' => e = .returned (.string x1) ∧ Dc w'' D r v pv bs P s1 ∧ Dk D r w' w'') := fun w' h' => by
    have := dtext_any D r v pv bs P s0 w' h'; rw [e1] at this; exact this
  rw [e1]
  dsimp only
  clear e1
  unfold insV
  dsimp only
  have hD := h.lt
  have B0 := Bx.new h #[.int .i64 0, .int .i64 0, .int .i64 0, .string ⟨#[]⟩, .string ⟨#[]⟩, .string ⟨#[]⟩] 47
  have c0 := B0.dc.c0
  clear h
  go_enter Tryz.func124, Tryz.ntmps124
  go_wp2_with (first
    | (go_at_call 87; (with_reducible refine (at_any r v bs s.a s.f _ B0.dc.rd).mono ?_); rintro e w' ⟨rfl, hw⟩; have hw := hw.symm; subst hw)
    | (go_at_call 122; (with_reducible refine (H0.out _ B0.dc).mono ?_); rintro e w1 ⟨rfl, h1, k1⟩; have B1 := B0.call h1 k1; have f10 := B1.fz 0; have g10 := B1.c 0 rfl)
    | (go_at_call 101; (with_reducible refine (HO.out _).mono ?_); rintro e w2 ⟨rfl, k2⟩; have B2 : Bx w w.heap.size 47 #[.int .i64 op, .int .i64 0, .int .i64 0, .string ⟨#[]⟩, .string ⟨#[]⟩, .string ⟨#[]⟩] D r v pv bs P w2 s0 := (B1.set 0 (.int .i64 op)).ch k2; have hlt := B2.lt; have hDl : D < w2.heap.size := Nat.lt_trans hD hlt; have BU := (B2.ch ((Ch.refl _).alloc (.cells #[.bool false, .bool false, .bool false, .bool false, .bool true] 141))); have EU : Bx w w2.heap.size 141 #[.bool false, .bool false, .bool false, .bool false, .bool true] D r v pv bs P _ s0 := (B2.new2 #[.bool false, .bool false, .bool false, .bool false, .bool true] 141); have f2 := B2.fz 0; have cU := B2.dc.c0; have m0 := B2.c 0 rfl; have m1 := B2.c 1 rfl; have m2 := B2.c 2 rfl; have m3 := B2.c 3 rfl; have m4 := B2.c 4 rfl; have m5 := B2.c 5 rfl; have n0 := B2.fz 0; have n1 := B2.fz 1; have n2 := B2.fz 2; have n3 := B2.fz 3; have n4 := B2.fz 4; have n5 := B2.fz 5)
    | (go_at_call 88; (with_reducible refine (H1.out _ BU.dc).mono ?_); rintro e w3 ⟨rfl, h3, k3⟩; have B3 : Bx w w.heap.size 47 #[.int .i64 op, .int .i64 0, .int .i64 0, .string ⟨#[]⟩, .string ⟨#[]⟩, .string ⟨#[]⟩] D r v pv bs P w3 s1 := BU.call h3 k3; have E3 := EU.call h3 k3; have d3 := B3.dc.c0; have a30 := B3.fz 0; have b30 := B3.c 0 rfl; have a31 := B3.fz 1; have b31 := B3.c 1 rfl; have a32 := B3.fz 2; have b32 := B3.c 2 rfl; have a33 := B3.fz 3; have b33 := B3.c 3 rfl; have a34 := B3.fz 4; have b34 := B3.c 4 rfl; have a35 := B3.fz 5; have b35 := B3.c 5 rfl; have c30 := E3.c 0 rfl; have c31 := E3.c 1 rfl; have c32 := E3.c 2 rfl; have c33 := E3.c 3 rfl; have c34 := E3.c 4 rfl; have Q3 := B3.set 5 (.string x1); have R3 := E3.oth w.heap.size 5 (.string x1) (Nat.le_refl _) (Nat.ne_of_lt hlt))
    | fail)
  go_step3
  go_wp2_with (first
    | (go_at_call 87; (with_reducible refine (at_any r v bs s.a s.f _ B0.dc.rd).mono ?_); rintro e w' ⟨rfl, hw⟩; have hw := hw.symm; subst hw)
    | (go_at_call 122; (with_reducible refine (H0.out _ B0.dc).mono ?_); rintro e w1 ⟨rfl, h1, k1⟩; have B1 := B0.call h1 k1; have f10 := B1.fz 0; have g10 := B1.c 0 rfl)
    | (go_at_call 101; (with_reducible refine (HO.out _).mono ?_); rintro e w2 ⟨rfl, k2⟩; have B2 : Bx w w.heap.size 47 #[.int .i64 op, .int .i64 0, .int .i64 0, .string ⟨#[]⟩, .string ⟨#[]⟩, .string ⟨#[]⟩] D r v pv bs P w2 s0 := (B1.set 0 (.int .i64 op)).ch k2; have hlt := B2.lt; have hDl : D < w2.heap.size := Nat.lt_trans hD hlt; have BU := (B2.ch ((Ch.refl _).alloc (.cells #[.bool false, .bool false, .bool false, .bool false, .bool true] 141))); have EU : Bx w w2.heap.size 141 #[.bool false, .bool false, .bool false, .bool false, .bool true] D r v pv bs P _ s0 := (B2.new2 #[.bool false, .bool false, .bool false, .bool false, .bool true] 141); have f2 := B2.fz 0; have cU := B2.dc.c0; have m0 := B2.c 0 rfl; have m1 := B2.c 1 rfl; have m2 := B2.c 2 rfl; have m3 := B2.c 3 rfl; have m4 := B2.c 4 rfl; have m5 := B2.c 5 rfl; have n0 := B2.fz 0; have n1 := B2.fz 1; have n2 := B2.fz 2; have n3 := B2.fz 3; have n4 := B2.fz 4; have n5 := B2.fz 5)
    | (go_at_call 88; (with_reducible refine (H1.out _ BU.dc).mono ?_); rintro e w3 ⟨rfl, h3, k3⟩; have B3 : Bx w w.heap.size 47 #[.int .i64 op, .int .i64 0, .int .i64 0, .string ⟨#[]⟩, .string ⟨#[]⟩, .string ⟨#[]⟩] D r v pv bs P w3 s1 := BU.call h3 k3; have E3 := EU.call h3 k3; have d3 := B3.dc.c0; have a30 := B3.fz 0; have b30 := B3.c 0 rfl; have a31 := B3.fz 1; have b31 := B3.c 1 rfl; have a32 := B3.fz 2; have b32 := B3.c 2 rfl; have a33 := B3.fz 3; have b33 := B3.c 3 rfl; have a34 := B3.fz 4; have b34 := B3.c 4 rfl; have a35 := B3.fz 5; have b35 := B3.c 5 rfl; have c30 := E3.c 0 rfl; have c31 := E3.c 1 rfl; have c32 := E3.c 2 rfl; have c33 := E3.c 3 rfl; have c34 := E3.c 4 rfl; have Q3 := B3.set 5 (.string x1); have R3 := E3.oth w.heap.size 5 (.string x1) (Nat.le_refl _) (Nat.ne_of_lt hlt))
    | fail)
  refine wp_label ?_
  go_wp2_with fail
  have B9 : Bx w w.heap.size 47 #[.int .i64 op, .int .i64 0, .int .i64 0, .string ⟨#[]⟩, .string ⟨#[]⟩, .string x1] D r v pv bs P _ s1 := ((((((Q3.set 0 (.int .i64 op)).set 1 (.int .i64 0)).set 2 (.int .i64 0)).set 3 (.string ⟨#[]⟩)).set 4 (.string ⟨#[]⟩)).set 5 (.string x1))
  try rw [Exit.noGoto_ret]
  refine bodyPost_ret (results_cell_row rfl _ _ w.heap.size 47 _ (0, 0) _ rfl B9.b Tryz.underlying47 rfl info47) rfl ?_
  exact ⟨rfl, B9.dc, B9.k⟩

set_option maxHeartbeats 8000000 in
theorem ins_core5 (w : World) (h : Dc w D r v pv bs P s) (op : Int) (s0 : St) (h0 : nR bs 1 s = (op, s0)) (kk : Int) (hk : kd (ix op) = kk) (hk0 : kk ≠ 0)
    (p1 : sA kk = false) (p2 : sB kk = false) (p3 : sC kk = true) (p4 : sN kk = true) (p5 : sD kk = true) :
    Calls Tryz.prog 124 #[.pointer (some ⟨D, 0, none⟩)] w fun e w' => e = .returned (insV (insR bs P s).1) ∧ Dc w' D r v pv bs P (insR bs P s).2 ∧ Dk D r w w' := by
  have H0 : Hid (∀ w', Dc w' D r v pv bs P s → Calls Tryz.prog 122 #[.pointer (some ⟨r, 0, none⟩)] w' fun e w'' => e = .returned (.int .i64 op) ∧ Dc w'' D r v pv bs P s0 ∧ Dk D r w' w'') := fun w' h' => by
    have := u1_any D r v pv bs P s w' h'; rw [h0] at this; exact this
  unfold insR
  simp only [h0, hk, if_neg hk0, p1, p2, p3, p4, p5, if_true, Bool.false_eq_true, if_false]
  have HO : Hid (∀ w', _) := fun w' => of_any op w'
  have hk1 : (kk != 0) = true := by simpa using hk0
  simp only [sh, hk, p1, p2, p3, p4, p5, hk1] at HO
  clear h0 hk hk0 hk1 p1 p2 p3 p4 p5
  obtain ⟨⟨x1, s1⟩, e1⟩ : ∃ q, txtR bs P s0 = q := ⟨_, rfl⟩
  have H1 : Hid (∀ w', Dc w' D r v pv bs P s0 → Calls Tryz.prog 88 #[.pointer (some ⟨D, 0, none⟩)] w' fun e w'' => e = .returned (.string x1) ∧ Dc w'' D r v pv bs P s1 ∧ Dk D r w' w'') := fun w' h' => by
    have := dtext_any D r v pv bs P s0 w' h'; rw [e1] at this; exact this
  rw [e1]
  dsimp only
  clear e1
  obtain ⟨⟨x2, s2⟩, e2⟩ : ∃ q, txtR bs P s1 = q := ⟨_, rfl⟩
  have H2 : Hid (∀ w', Dc w' D r v pv bs P s1 → Calls Tryz.prog 88 #[.pointer (some ⟨D, 0, none⟩)] w' fun e w'' => e = .returned (.string x2) ∧ Dc w'' D r v pv bs P s2 ∧ Dk D r w' w'') := fun w' h' => by
    have := dtext_any D r v pv bs P s1 w' h'; rw [e2] at this; exact this
  rw [e2]
  dsimp only
  clear e2
  obtain ⟨⟨x3, s3⟩, e3⟩ : ∃ q, txtR bs P s2 = q := ⟨_, rfl⟩
  have H3 : Hid (∀ w', Dc w' D r v pv bs P s2 → Calls Tryz.prog 88 #[.pointer (some ⟨D, 0, none⟩)] w' fun e w'' => e = .returned (.string x3) ∧ Dc w'' D r v pv bs P s3 ∧ Dk D r w' w'') := fun w' h' => by
    have := dtext_any D r v pv bs P s2 w' h'; rw [e3] at this; exact this
  rw [e3]
  dsimp only
  clear e3
  unfold insV
  dsimp only
  have hD := h.lt
  have B0 := Bx.new h #[.int .i64 0, .int .i64 0, .int .i64 0, .string ⟨#[]⟩, .string ⟨#[]⟩, .string ⟨#[]⟩] 47
  have c0 := B0.dc.c0
  clear h
  go_enter Tryz.func124, Tryz.ntmps124
  go_wp2_with (first
    | (go_at_call 87; (with_reducible refine (at_any r v bs s.a s.f _ B0.dc.rd).mono ?_); rintro e w' ⟨rfl, hw⟩; have hw := hw.symm; subst hw)
    | (go_at_call 122; (with_reducible refine (H0.out _ B0.dc).mono ?_); rintro e w1 ⟨rfl, h1, k1⟩; have B1 := B0.call h1 k1; have f10 := B1.fz 0; have g10 := B1.c 0 rfl)
    | (go_at_call 101; (with_reducible refine (HO.out _).mono ?_); rintro e w2 ⟨rfl, k2⟩; have B2 : Bx w w.heap.size 47 #[.int .i64 op, .int .i64 0, .int .i64 0, .string ⟨#[]⟩, .string ⟨#[]⟩, .string ⟨#[]⟩] D r v pv bs P w2 s0 := (B1.set 0 (.int .i64 op)).ch k2; have hlt := B2.lt; have hDl : D < w2.heap.size := Nat.lt_trans hD hlt; have BU := (B2.ch ((Ch.refl _).alloc (.cells #[.bool false, .bool false, .bool true, .bool true, .bool true] 141))); have EU : Bx w w2.heap.size 141 #[.bool false, .bool false, .bool true, .bool true, .bool true] D r v pv bs P _ s0 := (B2.new2 #[.bool false, .bool false, .bool true, .bool true, .bool true] 141); have f2 := B2.fz 0; have cU := B2.dc.c0; have m0 := B2.c 0 rfl; have m1 := B2.c 1 rfl; have m2 := B2.c 2 rfl; have m3 := B2.c 3 rfl; have m4 := B2.c 4 rfl; have m5 := B2.c 5 rfl; have n0 := B2.fz 0; have n1 := B2.fz 1; have n2 := B2.fz 2; have n3 := B2.fz 3; have n4 := B2.fz 4; have n5 := B2.fz 5)
    | (go_at_call 88; (with_reducible refine (H1.out _ BU.dc).mono ?_); rintro e w3 ⟨rfl, h3, k3⟩; have B3 : Bx w w.heap.size 47 #[.int .i64 op, .int .i64 0, .int .i64 0, .string ⟨#[]⟩, .string ⟨#[]⟩, .string ⟨#[]⟩] D r v pv bs P w3 s1 := BU.call h3 k3; have E3 := EU.call h3 k3; have d3 := B3.dc.c0; have a30 := B3.fz 0; have b30 := B3.c 0 rfl; have a31 := B3.fz 1; have b31 := B3.c 1 rfl; have a32 := B3.fz 2; have b32 := B3.c 2 rfl; have a33 := B3.fz 3; have b33 := B3.c 3 rfl; have a34 := B3.fz 4; have b34 := B3.c 4 rfl; have a35 := B3.fz 5; have b35 := B3.c 5 rfl; have c30 := E3.c 0 rfl; have c31 := E3.c 1 rfl; have c32 := E3.c 2 rfl; have c33 := E3.c 3 rfl; have c34 := E3.c 4 rfl; have Q3 := B3.set 3 (.string x1); have R3 := E3.oth w.heap.size 3 (.string x1) (Nat.le_refl _) (Nat.ne_of_lt hlt))
    | (go_at_call 88; (with_reducible refine (H2.out _ Q3.dc).mono ?_); rintro e w4 ⟨rfl, h4, k4⟩; have B4 : Bx w w.heap.size 47 #[.int .i64 op, .int .i64 0, .int .i64 0, .string x1, .string ⟨#[]⟩, .string ⟨#[]⟩] D r v pv bs P w4 s2 := Q3.call h4 k4; have E4 := R3.call h4 k4; have d4 := B4.dc.c0; have a40 := B4.fz 0; have b40 := B4.c 0 rfl; have a41 := B4.fz 1; have b41 := B4.c 1 rfl; have a42 := B4.fz 2; have b42 := B4.c 2 rfl; have a43 := B4.fz 3; have b43 := B4.c 3 rfl; have a44 := B4.fz 4; have b44 := B4.c 4 rfl; have a45 := B4.fz 5; have b45 := B4.c 5 rfl; have c40 := E4.c 0 rfl; have c41 := E4.c 1 rfl; have c42 := E4.c 2 rfl; have c43 := E4.c 3 rfl; have c44 := E4.c 4 rfl; have Q4 := B4.set 4 (.string x2); have R4 := E4.oth w.heap.size 4 (.string x2) (Nat.le_refl _) (Nat.ne_of_lt hlt))
    | (go_at_call 88; (with_reducible refine (H3.out _ Q4.dc).mono ?_); rintro e w5 ⟨rfl, h5, k5⟩; have B5 : Bx w w.heap.size 47 #[.int .i64 op, .int .i64 0, .int .i64 0, .string x1, .string x2, .string ⟨#[]⟩] D r v pv bs P w5 s3 := Q4.call h5 k5; have E5 := R4.call h5 k5; have d5 := B5.dc.c0; have a50 := B5.fz 0; have b50 := B5.c 0 rfl; have a51 := B5.fz 1; have b51 := B5.c 1 rfl; have a52 := B5.fz 2; have b52 := B5.c 2 rfl; have a53 := B5.fz 3; have b53 := B5.c 3 rfl; have a54 := B5.fz 4; have b54 := B5.c 4 rfl; have a55 := B5.fz 5; have b55 := B5.c 5 rfl; have c50 := E5.c 0 rfl; have c51 := E5.c 1 rfl; have c52 := E5.c 2 rfl; have c53 := E5.c 3 rfl; have c54 := E5.c 4 rfl; have Q5 := B5.set 5 (.string x3); have R5 := E5.oth w.heap.size 5 (.string x3) (Nat.le_refl _) (Nat.ne_of_lt hlt))
    | fail)
  go_step3
  go_wp2_with (first
    | (go_at_call 87; (with_reducible refine (at_any r v bs s.a s.f _ B0.dc.rd).mono ?_); rintro e w' ⟨rfl, hw⟩; have hw := hw.symm; subst hw)
    | (go_at_call 122; (with_reducible refine (H0.out _ B0.dc).mono ?_); rintro e w1 ⟨rfl, h1, k1⟩; have B1 := B0.call h1 k1; have f10 := B1.fz 0; have g10 := B1.c 0 rfl)
    | (go_at_call 101; (with_reducible refine (HO.out _).mono ?_); rintro e w2 ⟨rfl, k2⟩; have B2 : Bx w w.heap.size 47 #[.int .i64 op, .int .i64 0, .int .i64 0, .string ⟨#[]⟩, .string ⟨#[]⟩, .string ⟨#[]⟩] D r v pv bs P w2 s0 := (B1.set 0 (.int .i64 op)).ch k2; have hlt := B2.lt; have hDl : D < w2.heap.size := Nat.lt_trans hD hlt; have BU := (B2.ch ((Ch.refl _).alloc (.cells #[.bool false, .bool false, .bool true, .bool true, .bool true] 141))); have EU : Bx w w2.heap.size 141 #[.bool false, .bool false, .bool true, .bool true, .bool true] D r v pv bs P _ s0 := (B2.new2 #[.bool false, .bool false, .bool true, .bool true, .bool true] 141); have f2 := B2.fz 0; have cU := B2.dc.c0; have m0 := B2.c 0 rfl; have m1 := B2.c 1 rfl; have m2 := B2.c 2 rfl; have m3 := B2.c 3 rfl; have m4 := B2.c 4 rfl; have m5 := B2.c 5 rfl; have n0 := B2.fz 0; have n1 := B2.fz 1; have n2 := B2.fz 2; have n3 := B2.fz 3; have n4 := B2.fz 4; have n5 := B2.fz 5)
    | (go_at_call 88; (with_reducible refine (H1.out _ BU.dc).mono ?_); rintro e w3 ⟨rfl, h3, k3⟩; have B3 : Bx w w.heap.size 47 #[.int .i64 op, .int .i64 0, .int .i64 0, .string ⟨#[]⟩, .string ⟨#[]⟩, .string ⟨#[]⟩] D r v pv bs P w3 s1 := BU.call h3 k3; have E3 := EU.call h3 k3; have d3 := B3.dc.c0; have a30 := B3.fz 0; have b30 := B3.c 0 rfl; have a31 := B3.fz 1; have b31 := B3.c 1 rfl; have a32 := B3.fz 2; have b32 := B3.c 2 rfl; have a33 := B3.fz 3; have b33 := B3.c 3 rfl; have a34 := B3.fz 4; have b34 := B3.c 4 rfl; have a35 := B3.fz 5; have b35 := B3.c 5 rfl; have c30 := E3.c 0 rfl; have c31 := E3.c 1 rfl; have c32 := E3.c 2 rfl; have c33 := E3.c 3 rfl; have c34 := E3.c 4 rfl; have Q3 := B3.set 3 (.string x1); have R3 := E3.oth w.heap.size 3 (.string x1) (Nat.le_refl _) (Nat.ne_of_lt hlt))
    | (go_at_call 88; (with_reducible refine (H2.out _ Q3.dc).mono ?_); rintro e w4 ⟨rfl, h4, k4⟩; have B4 : Bx w w.heap.size 47 #[.int .i64 op, .int .i64 0, .int .i64 0, .string x1, .string ⟨#[]⟩, .string ⟨#[]⟩] D r v pv bs P w4 s2 := Q3.call h4 k4; have E4 := R3.call h4 k4; have d4 := B4.dc.c0; have a40 := B4.fz 0; have b40 := B4.c 0 rfl; have a41 := B4.fz 1; have b41 := B4.c 1 rfl; have a42 := B4.fz 2; have b42 := B4.c 2 rfl; have a43 := B4.fz 3; have b43 := B4.c 3 rfl; have a44 := B4.fz 4; have b44 := B4.c 4 rfl; have a45 := B4.fz 5; have b45 := B4.c 5 rfl; have c40 := E4.c 0 rfl; have c41 := E4.c 1 rfl; have c42 := E4.c 2 rfl; have c43 := E4.c 3 rfl; have c44 := E4.c 4 rfl; have Q4 := B4.set 4 (.string x2); have R4 := E4.oth w.heap.size 4 (.string x2) (Nat.le_refl _) (Nat.ne_of_lt hlt))
    | (go_at_call 88; (with_reducible refine (H3.out _ Q4.dc).mono ?_); rintro e w5 ⟨rfl, h5, k5⟩; have B5 : Bx w w.heap.size 47 #[.int .i64 op, .int .i64 0, .int .i64 0, .string x1, .string x2, .string ⟨#[]⟩] D r v pv bs P w5 s3 := Q4.call h5 k5; have E5 := R4.call h5 k5; have d5 := B5.dc.c0; have a50 := B5.fz 0; have b50 := B5.c 0 rfl; have a51 := B5.fz 1; have b51 := B5.c 1 rfl; have a52 := B5.fz 2; have b52 := B5.c 2 rfl; have a53 := B5.fz 3; have b53 := B5.c 3 rfl; have a54 := B5.fz 4; have b54 := B5.c 4 rfl; have a55 := B5.fz 5; have b55 := B5.c 5 rfl; have c50 := E5.c 0 rfl; have c51 := E5.c 1 rfl; have c52 := E5.c 2 rfl; have c53 := E5.c 3 rfl; have c54 := E5.c 4 rfl; have Q5 := B5.set 5 (.string x3); have R5 := E5.oth w.heap.size 5 (.string x3) (Nat.le_refl _) (Nat.ne_of_lt hlt))
    | fail)
  refine wp_label ?_
  go_wp2_with fail
  have B9 : Bx w w.heap.size 47 #[.int .i64 op, .int .i64 0, .int .i64 0, .string x1, .string x2, .string x3] D r v pv bs P _ s3 := ((((((Q5.set 0 (.int .i64 op)).set 1 (.int .i64 0)).set 2 (.int .i64 0)).set 3 (.string x1)).set 4 (.string x2)).set 5 (.string x3))
  try rw [Exit.noGoto_ret]
  refine bodyPost_ret (results_cell_row rfl _ _ w.heap.size 47 _ (0, 0) _ rfl B9.b Tryz.underlying47 rfl info47) rfl ?_
  exact ⟨rfl, B9.dc, B9.k⟩

set_option maxHeartbeats 8000000 in
theorem ins_bad (w : World) (h : Dc w D r v pv bs P s) (op : Int) (s0 : St) (h0 : nR bs 1 s = (op, s0)) (hk : kd (ix op) = 0) :
    Calls Tryz.prog 124 #[.pointer (some ⟨D, 0, none⟩)] w fun e w' => e = .returned (insV (insR bs P s).1) ∧ Dc w' D r v pv bs P (insR bs P s).2 ∧ Dk D r w w' := by
  have H0 : Hid (∀ w', Dc w' D r v pv bs P s → Calls Tryz.prog 122 #[.pointer (some ⟨r, 0, none⟩)] w' fun e w'' => e = .returned (.int .i64 op) ∧ Dc w'' D r v pv bs P s0 ∧ Dk D r w' w'') := fun w' h' => by
    have := u1_any D r v pv bs P s w' h'; rw [h0] at this; exact this
  have HF : Hid (∀ w', Dc w' D r v pv bs P s0 → _) := fun w' h' => fail_any D r v pv bs P s0 3 s.a w' h'
  unfold insR
  simp only [h0, hk, if_true]
  have HO : Hid (∀ w', _) := fun w' => of_any op w'
  have hk1 : ((0 : Int) != 0) = false := rfl
  have q1 : sA 0 = false := rfl
  have q2 : sB 0 = false := rfl
  have q3 : sC 0 = false := rfl
  have q4 : sN 0 = false := rfl
  have q5 : sD 0 = false := rfl
  simp only [sh, hk, q1, q2, q3, q4, q5, hk1] at HO
  clear h0 hk hk1 q1 q2 q3 q4 q5
  generalize fl s0 3 s.a = s1 at *
  unfold insV
  dsimp only
  have hD := h.lt
  have B0 := Bx.new h #[.int .i64 0, .int .i64 0, .int .i64 0, .string ⟨#[]⟩, .string ⟨#[]⟩, .string ⟨#[]⟩] 47
  have c0 := B0.dc.c0
  clear h
  go_enter Tryz.func124, Tryz.ntmps124
  go_wp2_with (first
    | (go_at_call 87; (with_reducible refine (at_any r v bs s.a s.f _ B0.dc.rd).mono ?_); rintro e w' ⟨rfl, hw⟩; have hw := hw.symm; subst hw)
    | (go_at_call 122; (with_reducible refine (H0.out _ B0.dc).mono ?_); rintro e w1 ⟨rfl, h1, k1⟩; have B1 := B0.call h1 k1; have f10 := B1.fz 0; have g10 := B1.c 0 rfl)
    | (go_at_call 101; (with_reducible refine (HO.out _).mono ?_); rintro e w2 ⟨rfl, k2⟩; have B2 : Bx w w.heap.size 47 #[.int .i64 op, .int .i64 0, .int .i64 0, .string ⟨#[]⟩, .string ⟨#[]⟩, .string ⟨#[]⟩] D r v pv bs P w2 s0 := (B1.set 0 (.int .i64 op)).ch k2; have BU := B2.ch ((Ch.refl _).alloc (.cells #[.bool false, .bool false, .bool false, .bool false, .bool false] 141)))
    | (go_at_call 45; (with_reducible refine (HF.out _ BU.dc).mono ?_); rintro e w3 ⟨rfl, h3, k3⟩; have B3 := BU.call h3 k3; have a30 := B3.fz 0; have b30 := B3.c 0 rfl; have a31 := B3.fz 1; have b31 := B3.c 1 rfl; have a32 := B3.fz 2; have b32 := B3.c 2 rfl; have a33 := B3.fz 3; have b33 := B3.c 3 rfl; have a34 := B3.fz 4; have b34 := B3.c 4 rfl; have a35 := B3.fz 5; have b35 := B3.c 5 rfl)
    | fail)
  refine wp_scope_once 0 (by rfl) ?_
  go_wp2_with (first
    | (go_at_call 87; (with_reducible refine (at_any r v bs s.a s.f _ B0.dc.rd).mono ?_); rintro e w' ⟨rfl, hw⟩; have hw := hw.symm; subst hw)
    | (go_at_call 122; (with_reducible refine (H0.out _ B0.dc).mono ?_); rintro e w1 ⟨rfl, h1, k1⟩; have B1 := B0.call h1 k1; have f10 := B1.fz 0; have g10 := B1.c 0 rfl)
    | (go_at_call 101; (with_reducible refine (HO.out _).mono ?_); rintro e w2 ⟨rfl, k2⟩; have B2 : Bx w w.heap.size 47 #[.int .i64 op, .int .i64 0, .int .i64 0, .string ⟨#[]⟩, .string ⟨#[]⟩, .string ⟨#[]⟩] D r v pv bs P w2 s0 := (B1.set 0 (.int .i64 op)).ch k2; have BU := B2.ch ((Ch.refl _).alloc (.cells #[.bool false, .bool false, .bool false, .bool false, .bool false] 141)))
    | (go_at_call 45; (with_reducible refine (HF.out _ BU.dc).mono ?_); rintro e w3 ⟨rfl, h3, k3⟩; have B3 := BU.call h3 k3; have a30 := B3.fz 0; have b30 := B3.c 0 rfl; have a31 := B3.fz 1; have b31 := B3.c 1 rfl; have a32 := B3.fz 2; have b32 := B3.c 2 rfl; have a33 := B3.fz 3; have b33 := B3.c 3 rfl; have a34 := B3.fz 4; have b34 := B3.c 4 rfl; have a35 := B3.fz 5; have b35 := B3.c 5 rfl)
    | fail)
  go_step3
  refine And.intro rfl ?_
  change Code.wp Tryz.prog _ _ _ _
  go_wp2_with fail
  have B9 : Bx w w.heap.size 47 #[.int .i64 op, .int .i64 0, .int .i64 0, .string ⟨#[]⟩, .string ⟨#[]⟩, .string ⟨#[]⟩] D r v pv bs P _ s1 := (((((B3.set 0 (.int .i64 op)).set 1 (.int .i64 0)).set 2 (.int .i64 0)).set 3 (.string ⟨#[]⟩)).set 4 (.string ⟨#[]⟩)).set 5 (.string ⟨#[]⟩)
  try rw [Exit.noGoto_ret]
  refine bodyPost_ret (results_cell_row rfl _ _ w.heap.size 47 _ (0, 0) _ rfl B9.b Tryz.underlying47 rfl info47) rfl ?_
  exact ⟨rfl, B9.dc, B9.k⟩

theorem kd_rng (k : Nat) : 0 ≤ kd k ∧ kd k ≤ 10 := by
  have h : ∀ x ∈ kindsL, (0 : Int) ≤ x ∧ x ≤ 10 := by decide
  unfold kd
  simp only [List.getD]
  cases e : kindsL[k]? with
  | none => simp
  | some x => exact h x (List.mem_of_getElem? e)
theorem instruction_any (w : World) (h : Dc w D r v pv bs P s) :
    Calls Tryz.prog 124 #[.pointer (some ⟨D, 0, none⟩)] w fun e w' => e = .returned (insV (insR bs P s).1) ∧ Dc w' D r v pv bs P (insR bs P s).2 ∧ Dk D r w w' := by
  obtain ⟨⟨op, s0⟩, h0⟩ : ∃ q, nR bs 1 s = q := ⟨_, rfl⟩
  obtain ⟨kk, hk⟩ : ∃ k, kd (ix op) = k := ⟨_, rfl⟩
  by_cases hk0 : kk = 0
  · subst hk0; exact ins_bad D r v pv bs P s w h op s0 h0 hk
  · have hp := pat_kind (hk ▸ kd_rng (ix op))
    rcases hp with ⟨a, b, c, d, e⟩ | ⟨a, b, c, d, e⟩ | ⟨a, b, c, d, e⟩ | ⟨a, b, c, d, e⟩ | ⟨a, b, c, d, e⟩ | ⟨a, b, c, d, e⟩
    · exact ins_core0 D r v pv bs P s w h op s0 h0 kk hk hk0 a b c d e
    · exact ins_core1 D r v pv bs P s w h op s0 h0 kk hk hk0 a b c d e
    · exact ins_core2 D r v pv bs P s w h op s0 h0 kk hk hk0 a b c d e
    · exact ins_core3 D r v pv bs P s w h op s0 h0 kk hk hk0 a b c d e
    · exact ins_core4 D r v pv bs P s w h op s0 h0 kk hk hk0 a b c d e
    · exact ins_core5 D r v pv bs P s w h op s0 h0 kk hk hk0 a b c d e
end
end Go.Proofs.YtdalibfgkkgcpaaGreat
