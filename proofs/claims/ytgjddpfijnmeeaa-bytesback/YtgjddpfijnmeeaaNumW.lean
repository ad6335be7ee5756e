/- The walk of the law BytesNumbers. -/
import Derived.Test.YtgjddpfijnmeeaaAwake
import Derived.Deep.RegionHeld
namespace Go.Proofs.Ytgjddpfijnmeeaa
open Go.RowKit
set_option linter.unusedVariables false
attribute [local go_sem ↓] Go.wp_at_zero Go.wp_at_succ

theorem Rd.alloc {w : World} {r : Nat} {v : Value} {bs : List Int} {a : Nat} {f : Bool} (h : Rd w r v bs a f) (o : Obj) : Rd (w.alloc o) r v bs a f :=
  h.keep ((Ch.refl (fun _ => False) w).alloc o) (fun x => x) (fun _ _ x => x)
theorem Wt.alloc {w : World} {r : Nat} {v : Value} {bs : List Int} {b : Bool} (h : Wt w r v bs b) (o : Obj) : Wt (w.alloc o) r v bs b :=
  h.keep ((Ch.refl (fun _ => False) w).alloc o) (fun x => x) (fun _ _ x => x)

/-- Two readers and a writer, side by side. -/
structure NS (w0 W : World) (rx ry rw : Nat) (vx vy : Value) (bs : List Int) (ax ay : Nat) : Prop where
  x : Rd W rx vx bs ax false
  y : Rd W ry vy bs ay false
  t : Wt W rw (.slice none 0 0) [] false
  ne : rx ≠ ry
  bx : w0.heap.size ≤ rx
  bY : w0.heap.size ≤ ry
  bw : w0.heap.size ≤ rw
  c : Ch (fun _ => False) w0 W

theorem NS.drew {w0 W : World} {rx ry rw : Nat} {vx vy : Value} {bs : List Int} {ax ay : Nat} (h : NS w0 W rx ry rw vx vy bs ax ay) : NS w0 W.drew rx ry rw vx vy bs ax ay :=
  ⟨h.x.drewN 1, h.y.drewN 1, h.t.drewN 1, h.ne, h.bx, h.bY, h.bw, h.c.drew⟩
theorem NS.drewN {w0 W : World} {rx ry rw : Nat} {vx vy : Value} {bs : List Int} {ax ay : Nat} (h : NS w0 W rx ry rw vx vy bs ax ay) (n : Nat) : NS w0 (W.drewN n) rx ry rw vx vy bs ax ay :=
  ⟨h.x.drewN n, h.y.drewN n, h.t.drewN n, h.ne, h.bx, h.bY, h.bw, h.c.drewN n⟩
theorem NS.alloc {w0 W : World} {rx ry rw : Nat} {vx vy : Value} {bs : List Int} {ax ay : Nat} (h : NS w0 W rx ry rw vx vy bs ax ay) (o : Obj) : NS w0 (W.alloc o) rx ry rw vx vy bs ax ay :=
  ⟨h.x.alloc o, h.y.alloc o, h.t.alloc o, h.ne, h.bx, h.bY, h.bw, h.c.alloc o⟩

theorem rd_wt_ne {w : World} {r r' : Nat} {v v' : Value} {bs bs' : List Int} {a : Nat} {f b : Bool} (h : Rd w r v bs a f) (k : Wt w r' v' bs' b) : r ≠ r' := by
  rintro rfl
  have := h.blk
  rw [k.blk] at this
  simp at this
theorem rd_own_ne {w : World} {r r' : Nat} {v v' : Value} {bs bs' : List Int} {a a' : Nat} {f f' : Bool} (h : Rd w r v bs a f) (k : Rd w r' v' bs' a' f') : ∀ g, v.ownBlock = some g → g ≠ r' := by
  rintro g hg rfl
  rcases h.own.2 with ⟨hv, _⟩ | ⟨g', cap, cur, hv, hb, hh, _⟩
  · rw [hv] at hg; cases hg
  · rw [hv] at hg
    have : g' = g := by simpa [Value.ownBlock] using hg
    subst this
    rw [k.blk] at hh
    simp at hh

theorem NS.readX {w0 W W' : World} {rx ry rw : Nat} {vx vy : Value} {bs : List Int} {ax ay ax' : Nat} (h : NS w0 W rx ry rw vx vy bs ax ay) (k : Rd W' rx vx bs ax' false) (c : Ch (· = rx) W W') : NS w0 W' rx ry rw vx vy bs ax' ay :=
  ⟨k, h.y.keep c (fun e => h.ne e.symm) (rd_own_ne h.y h.x), h.t.keep c (fun e => rd_wt_ne h.x h.t e.symm) (fun g hg => by cases hg), h.ne, h.bx, h.bY, h.bw, h.c.chain c (fun i hi e => by have := h.bx; omega)⟩
theorem NS.readY {w0 W W' : World} {rx ry rw : Nat} {vx vy : Value} {bs : List Int} {ax ay ay' : Nat} (h : NS w0 W rx ry rw vx vy bs ax ay) (k : Rd W' ry vy bs ay' false) (c : Ch (· = ry) W W') : NS w0 W' rx ry rw vx vy bs ax ay' :=
  ⟨h.x.keep c h.ne (rd_own_ne h.x h.y), k, h.t.keep c (fun e => rd_wt_ne h.y h.t e.symm) (fun g hg => by cases hg), h.ne, h.bx, h.bY, h.bw, h.c.chain c (fun i hi e => by have := h.bY; omega)⟩

/-- Behind the writing: the writer's bytes. -/
def NW (w0 W : World) (rw : Nat) (bs : List Int) : Prop := w0.heap.size ≤ rw ∧ Ch (fun _ => False) w0 W ∧ ∃ v, Wt W rw v bs false
theorem NW.alloc {w0 W : World} {rw : Nat} {bs : List Int} (h : NW w0 W rw bs) (o : Obj) : NW w0 (W.alloc o) rw bs := ⟨h.1, h.2.1.alloc o, h.2.2.imp fun _ x => x.alloc o⟩
/-- A row that lies there. -/
def NR (w0 W : World) (v : Value) (bs : List Int) : Prop := Row W v bs ∧ Ch (fun _ => False) w0 W
theorem NR.alloc {w0 W : World} {v : Value} {bs : List Int} (h : NR w0 W v bs) (o : Obj) : NR w0 (W.alloc o) v bs := ⟨h.1.keep ((Ch.refl (fun _ => False) W).alloc o) (fun _ _ x => x), h.2.alloc o⟩

section
variable {w0 W : World} {rx ry rw : Nat} {vx vy : Value} {bs : List Int}
theorem n18 (N : Int) (hN : sgn (num bs) = N) (hl : bs.length = 4) (h : NS w0 W rx ry rw vx vy bs 0 0) :
    Calls Try.prog 18 #[.pointer (some ⟨rx, 0, none⟩)] W fun e W' => e = .returned (.int .i64 N) ∧ NS w0 W' rx ry rw vx vy bs 4 0 :=
  (i4_ok rx vx bs 0 W h.x (by omega)).mono fun e W' ⟨h1, h2, h3⟩ => ⟨by rw [h1, ← hN, List.drop_zero, List.take_of_length_le (by omega)], h.readX h2 h3⟩
theorem n17 (N : Int) (hN : num (bs.take 2) = N) (hl : bs.length = 4) (h : NS w0 W rx ry rw vx vy bs 4 0) :
    Calls Try.prog 17 #[.pointer (some ⟨ry, 0, none⟩)] W fun e W' => e = .returned (.int .i64 N) ∧ NS w0 W' rx ry rw vx vy bs 4 2 :=
  (u2_ok ry vy bs 0 W h.y (by omega)).mono fun e W' ⟨h1, h2, h3⟩ => ⟨by rw [h1, ← hN, List.drop_zero], h.readY h2 h3⟩
theorem n16 (N : Int) (hN : num ((bs.drop 2).take 1) = N) (hl : bs.length = 4) (h : NS w0 W rx ry rw vx vy bs 4 2) :
    Calls Try.prog 16 #[.pointer (some ⟨ry, 0, none⟩)] W fun e W' => e = .returned (.int .i64 N) ∧ NS w0 W' rx ry rw vx vy bs 4 3 :=
  (u1_ok ry vy bs 2 W h.y (by omega)).mono fun e W' ⟨h1, h2, h3⟩ => ⟨by rw [h1, ← hN], h.readY h2 h3⟩
theorem n21 (h : NS w0 W rx ry rw vx vy bs 4 3) :
    Calls Try.prog 21 #[.pointer (some ⟨ry, 0, none⟩)] W fun e W' => e = .returned (.int .i64 3) ∧ NS w0 W' rx ry rw vx vy bs 4 3 :=
  (at_any ry vy bs 3 false W h.y).mono fun e W' ⟨h1, h2⟩ => ⟨h1, h2 ▸ h⟩
theorem n22 (hl : bs.length = 4) (h : NS w0 W rx ry rw vx vy bs 4 3) :
    Calls Try.prog 22 #[.pointer (some ⟨ry, 0, none⟩)] W fun e W' => e = .returned (.int .i64 1) ∧ NS w0 W' rx ry rw vx vy bs 4 3 :=
  (left_any ry vy bs 3 false W h.y).mono fun e W' ⟨h1, nq, h2⟩ => ⟨by rw [h1, hl]; rfl, h2 ▸ h.drewN nq⟩
theorem n24 (N : Int) (h1 : -2147483648 ≤ N) (h2 : N ≤ 2147483647) (hN : be N 4 = bs) (h : NS w0 W rx ry rw vx vy bs 4 3) :
    Calls Try.prog 24 #[.pointer (some ⟨rw, 0, none⟩), .int .i64 N] W fun e W' => e = .returned (.pointer (some ⟨rw, 0, none⟩)) ∧ NW w0 W' rw bs ∧ ∀ g, g < W.heap.size → g ≠ rw → W'.heap[g]? = W.heap[g]? :=
  (wi4_any N rw _ [] false W h.t (by simp)).mono fun e W' ⟨h1', v, h2', h3', _⟩ => by
    have hr : inR (-2147483648) 2147483647 N = true := by simp [inR, h1, h2]
    rw [hr] at h2'
    refine ⟨h1', ⟨h.bw, h.c.chain h3' (fun i hi e => ?_), v, by simpa [wroteB, wroteF, hN] using h2'⟩, fun g hg hne => h3'.block g hg (fun e => ?_)⟩
    · have := h.bw; simp [Value.ownBlock] at e; omega
    · simp [Value.ownBlock] at e; exact hne e
theorem n12 (h : NW w0 W rw bs) :
    Calls Try.prog 12 #[.pointer (some ⟨rw, 0, none⟩)] W fun e W' => ∃ v, e = .returned v ∧ NR w0 W' v bs ∧ ∀ g, g < W.heap.size → W'.heap[g]? = W.heap[g]? := by
  obtain ⟨_, hc, v, ht⟩ := h
  exact (bytes_any rw v bs false W ht).mono fun e W' ⟨v', h1, h2, h3⟩ => ⟨v', h1, ⟨row_of_owns h2, hc.chain h3 (fun _ _ x => x)⟩, fun g hg => h3.block g hg (fun x => x)⟩
theorem n8 (h : Ch (fun _ => False) w0 W) : Calls Try.prog 8 #[] W fun e W' => e = .returned (.bool true) ∧ Ch (fun _ => False) w0 W' :=
  (awake_any W).mono fun e W' ⟨h1, h2⟩ => ⟨h1, h.chain h2 (fun _ _ x => x)⟩
end


theorem or4 (a0 a1 a2 a3 : Int) (p0 : 0 ≤ a0) (p1 : a0 < 256) (p2 : 0 ≤ a1) (p3 : a1 < 256) (p4 : 0 ≤ a2) (p5 : a2 < 256) (p6 : 0 ≤ a3) (p7 : a3 < 256) :
    bits .or .i64 (bits .or .i64 (bits .or .i64 (a0 * 16777216) (a1 * 65536)) (a2 * 256)) a3 = a0 * 16777216 + a1 * 65536 + a2 * 256 + a3 := by
  have hk : ∀ n : Int, 0 ≤ n → n < 2 ^ 62 → IntKind.i64.wrap n = n := fun n h0 h1 => by rw [IntKind.wrap_i64]; omega
  rw [bits_join .i64 62 (by decide) hk 24 (a0 * 16777216) (a1 * 65536) (by omega) (by omega) (by omega) (by omega) (by omega) (by omega)]
  rw [bits_join .i64 62 (by decide) hk 16 (a0 * 16777216 + a1 * 65536) (a2 * 256) (by omega) (by omega) (by omega) (by omega) (by omega) (by omega)]
  rw [bits_join .i64 62 (by decide) hk 8 (a0 * 16777216 + a1 * 65536 + a2 * 256) a3 (by omega) (by omega) (by omega) (by omega) (by omega) (by omega)]

theorem num4 (a0 a1 a2 a3 : Int) : num [a0, a1, a2, a3] = a0 * 16777216 + a1 * 65536 + a2 * 256 + a3 := by simp only [num, List.foldl]; omega
theorem be4 (a0 a1 a2 a3 N : Int) (p0 : 0 ≤ a0) (p1 : a0 < 256) (p2 : 0 ≤ a1) (p3 : a1 < 256) (p4 : 0 ≤ a2) (p5 : a2 < 256) (p6 : 0 ≤ a3) (p7 : a3 < 256)
    (hN : N = a0 * 16777216 + a1 * 65536 + a2 * 256 + a3 ∨ N = a0 * 16777216 + a1 * 65536 + a2 * 256 + a3 - 4294967296) : be N 4 = [a0, a1, a2, a3] := by
  have e3 : N / 256 ^ 3 % 256 = a0 := by omega
  have e2 : N / 256 ^ 2 % 256 = a1 := by omega
  have e1 : N / 256 ^ 1 % 256 = a2 := by omega
  have e0 : N / 256 ^ 0 % 256 = a3 := by omega
  simp only [be, e3, e2, e1, e0]

theorem lit_conv {W : World} {g : Nat} {a0 a1 a2 a3 : Int} (h : W.heap[g]? = some (.cells #[.int .u8 a0, .int .u8 a1, .int .u8 a2, .int .u8 a3] 5 (0, 0))) :
    (convert 25 9 (.slice (some ⟨g, 0, none⟩) 4 4)).run Try.prog W = .ok (.string (strOfNums [a0, a1, a2, a3])) W :=
  row_string (row_lit (cap := 4) (bs := [a0, a1, a2, a3]) h)
theorem lit_keep {W W' : World} {a0 a1 a2 a3 : Int} (k : ∀ g, g < (W.alloc (.cells #[.int .u8 a0, .int .u8 a1, .int .u8 a2, .int .u8 a3] 5)).heap.size → W'.heap[g]? = (W.alloc (.cells #[.int .u8 a0, .int .u8 a1, .int .u8 a2, .int .u8 a3] 5)).heap[g]?) :
    W'.heap[W.heap.size]? = some (.cells #[.int .u8 a0, .int .u8 a1, .int .u8 a2, .int .u8 a3] 5 (0, 0)) :=
  (k W.heap.size (by simp)).trans (heap_alloc_new W _)
theorem lit_keep8 {W W' : World} {r : Nat} {a0 a1 a2 a3 : Int} (k : ∀ g, g < (W.alloc (.cells #[.int .u8 a0, .int .u8 a1, .int .u8 a2, .int .u8 a3] 5)).heap.size → g ≠ r → W'.heap[g]? = (W.alloc (.cells #[.int .u8 a0, .int .u8 a1, .int .u8 a2, .int .u8 a3] 5)).heap[g]?) (hr : r < W.heap.size) :
    W'.heap[W.heap.size]? = some (.cells #[.int .u8 a0, .int .u8 a1, .int .u8 a2, .int .u8 a3] 5 (0, 0)) :=
  (k W.heap.size (by simp) (by omega)).trans (heap_alloc_new W _)

end Go.Proofs.Ytgjddpfijnmeeaa
