/- The encoder: an instruction. -/
import Derived.Test.YtdalibfgkkgcpaaGreatKEncB
import Derived.Test.YtdalibfgkkgcpaaGreatKPoolE
namespace Go.Proofs.YtdalibfgkkgcpaaGreat
open Go.RowKit
set_option linter.unusedVariables false

/-- The bytes of an instruction, a handler, a field, a method, a class; L: the pool. -/
def insB (L : List (List UInt8)) (x : Ins) : List Int := be x.op 1 ++ ((if sA (kd (ix x.op)) then be x.a 4 else []) ++ ((if sB (kd (ix x.op)) then be x.b 4 else []) ++ (insX x).flatMap (pB L)))
def hndB (L : List (List UInt8)) (h : Hnd) : List Int := be h.fr 2 ++ (be h.to 2 ++ (be h.pl 2 ++ pB L (bl h.c)))
def fldB (L : List (List UInt8)) (f : Fld) : List Int := (pB L (bl f.n) ++ pB L (bl f.d)) ++ yB f.st
def mthB (L : List (List UInt8)) (m : Mth) : List Int := (pB L (bl m.n) ++ pB L (bl m.d)) ++ (yB m.st ++ (yB m.ab ++ (be m.sk 1 ++ (be m.lo 1 ++ (be m.code.length 2 ++ (m.code.flatMap (insB L) ++ (be m.hs.length 2 ++ m.hs.flatMap (hndB L))))))))
def clsB (L : List (List UInt8)) (c : Cls) : List Int := (pB L (bl c.n) ++ pB L (bl c.s)) ++ (yB c.it ++ (yB c.ab ++ (be c.im.length 2 ++ ((c.im.map bl).flatMap (pB L) ++ (be c.fs.length 2 ++ (c.fs.flatMap (fldB L) ++ (be c.me.length 2 ++ c.me.flatMap (mthB L))))))))

structure InsOk (x : Ins) : Prop where
  op : 0 ≤ x.op ∧ x.op ≤ 255
  a : sA (kd (ix x.op)) = true → -2147483648 ≤ x.a ∧ x.a ≤ 2147483647
  b : sB (kd (ix x.op)) = true → -2147483648 ≤ x.b ∧ x.b ≤ 2147483647
theorem pickL_len (b : Bool) (s : ByteArray) : (pickL b s).length ≤ 1 := by cases b <;> simp [pickL]
theorem insX_le (x : Ins) : (insX x).length ≤ 3 := by
  unfold insX
  have h1 := pickL_len (sC (kd (ix x.op))) x.c
  have h2 := pickL_len (sN (kd (ix x.op))) x.n
  have h3 := pickL_len (sD (kd (ix x.op))) x.d
  rw [List.length_append, List.length_append]
  omega
theorem flat_le {α β : Type} (f : α → List β) (n : Nat) (h : ∀ x, (f x).length ≤ n) : ∀ l : List α, (l.flatMap f).length ≤ n * l.length
  | [] => by simp
  | x :: l => by
    have h1 := flat_le f n h l
    have h2 := h x
    rw [List.flatMap_cons, List.length_append, List.length_cons, Nat.mul_add]
    omega
theorem insB_le (L : List (List UInt8)) (x : Ins) : (insB L x).length ≤ 15 := by
  unfold insB
  have h1 := flat_le (pB L) 2 (fun s => by rw [pB_len]; omega) (insX x)
  have h2 := insX_le x
  have h3 : (if sA (kd (ix x.op)) then be x.a 4 else []).length ≤ 4 := by split <;> simp [be_len]
  have h4 : (if sB (kd (ix x.op)) then be x.b 4 else []).length ≤ 4 := by split <;> simp [be_len]
  simp only [List.length_append, be_len]
  omega

variable {B r M : Nat} {L : List (List UInt8)} {w0 w : World} {bs : List Int}
theorem Es.textsO (h : Es B r M L w0 w bs) {base : Nat} {ts : List (List UInt8)} {v : Value} (ho : w.ownsRow base 9 1 v ts.length (ts.map strV)) (hsz : ∀ s ∈ ts, s.length ≤ 100000) (hl : bs.length + 2 * ts.length ≤ 2000000) :
    Calls Tryz.prog 63 #[.pointer (some ⟨r, 0, none⟩), v] w fun e w' => e = .returned (.tuple #[]) ∧ Put B r M L w0 (bs ++ ts.flatMap (pB L)) w w' := by
  have h1 := h.texts (ts.map ms) v (sl_own ho) (fun b off n c e hp => by
    obtain ⟨_, cur, hcur⟩ := own_obj ho (g := b) (by rw [e]; rfl)
    exact Or.inr ⟨cur, 9, _, hcur, by decide⟩) (fun s hs => by
      obtain ⟨l, hl, rfl⟩ := List.mem_map.1 hs
      rw [ms_size]; exact hsz l hl) (by simpa using hl)
  rw [ms_bl_map] at h1
  exact h1
theorem Es.texts2 (h : Es B r M L w0 w bs) (x y : ByteArray) (g : Nat) (hg : g = w.heap.size) (hx : x.size ≤ 100000) (hy : y.size ≤ 100000) (hl : bs.length + 4 ≤ 2000000) :
    Calls Tryz.prog 63 #[.pointer (some ⟨r, 0, none⟩), .slice (some ⟨g, 0, none⟩) 2 2] (w.alloc (.cells #[.string x, .string y] 9)) fun e w' => e = .returned (.tuple #[]) ∧ Put B r M L w0 (bs ++ (pB L (bl x) ++ pB L (bl y))) w w' := by
  subst hg
  have hb2 : (w.alloc (.cells #[.string x, .string y] 9)).heap[w.heap.size]? = some (.cells #[.string x, .string y] 9) := heap_alloc_new _ _
  have ht := (h.chr ((Ch.refl w).alloc (.cells #[.string x, .string y] 9))).texts [x, y] (.slice (some ⟨w.heap.size, 0, none⟩) 2 2) (sl_row (xs := [x, y]) hb2 2 rfl (by omega)) (fun b off n' c e _ => by
    obtain ⟨⟨rfl, _⟩, _⟩ : (w.heap.size = b ∧ 0 = off) ∧ _ := by simpa using e
    exact Or.inr ⟨_, _, _, hb2, by decide⟩) (fun s hs => by simp at hs; rcases hs with rfl | rfl <;> assumption) (by simp; omega)
  rw [show ([x, y].map bl).flatMap (pB L) = pB L (bl x) ++ pB L (bl y) by simp] at ht
  exact ht.mono fun e w' ⟨h1, h2, h3⟩ => ⟨h1, h2, (Kp.of_ch ((Ch.refl w).alloc _)).trans h3⟩
theorem Es.texts1 (h : Es B r M L w0 w bs) (x : ByteArray) (g : Nat) (hg : g = w.heap.size) (hx : x.size ≤ 100000) (hl : bs.length + 2 ≤ 2000000) :
    Calls Tryz.prog 63 #[.pointer (some ⟨r, 0, none⟩), .slice (some ⟨g, 0, none⟩) 1 1] (w.alloc (.cells #[.string x] 9)) fun e w' => e = .returned (.tuple #[]) ∧ Put B r M L w0 (bs ++ pB L (bl x)) w w' := by
  subst hg
  have hb2 : (w.alloc (.cells #[.string x] 9)).heap[w.heap.size]? = some (.cells #[.string x] 9) := heap_alloc_new _ _
  have ht := (h.chr ((Ch.refl w).alloc (.cells #[.string x] 9))).texts [x] (.slice (some ⟨w.heap.size, 0, none⟩) 1 1) (sl_row (xs := [x]) hb2 1 rfl (by omega)) (fun b off n' c e _ => by
    obtain ⟨⟨rfl, _⟩, _⟩ : (w.heap.size = b ∧ 0 = off) ∧ _ := by simpa using e
    exact Or.inr ⟨_, _, _, hb2, by decide⟩) (fun s hs => by simp at hs; rcases hs with rfl; assumption) (by simp; omega)
  rw [show ([x].map bl).flatMap (pB L) = pB L (bl x) by simp] at ht
  exact ht.mono fun e w' ⟨h1, h2, h3⟩ => ⟨h1, h2, (Kp.of_ch ((Ch.refl w).alloc _)).trans h3⟩

set_option maxRecDepth 100000 in
set_option maxHeartbeats 8000000 in
theorem Es.ins_at (h : Es B r M L w0 w bs) (op a b : Int) (c n d : ByteArray) (X : List (List UInt8)) (s1 s2 s3 s4 s5 kn : Bool)
    (hof : ∀ w0, Calls Tryz.prog 101 #[.int .i64 op] w0 fun e w' => e = .returned (.tuple #[.agg #[.bool s1, .bool s2, .bool s3, .bool s4, .bool s5], .bool kn]) ∧ Ch w0 w')
    (hox : ∀ w0, Calls Tryz.prog 60 #[.agg #[.int .i64 op, .int .i64 a, .int .i64 b, .string c, .string n, .string d]] w0 fun e w' => ∃ v, e = .returned v ∧ w'.ownsRow w0.heap.size 9 1 v X.length (X.map strV) ∧ Ch w0 w')
    (hX : X.length ≤ 3) (hsz : ∀ s ∈ X, s.length ≤ 100000) (hop : 0 ≤ op ∧ op ≤ 255) (ha : s1 = true → -2147483648 ≤ a ∧ a ≤ 2147483647) (hb : s2 = true → -2147483648 ≤ b ∧ b ≤ 2147483647) (hl : bs.length + 20 ≤ 2000000) :
    Calls Tryz.prog 103 #[.pointer (some ⟨r, 0, none⟩), .agg #[.int .i64 op, .int .i64 a, .int .i64 b, .string c, .string n, .string d]] w fun e w' => e = .returned (.tuple #[]) ∧ Put B r M L w0 (bs ++ (be op 1 ++ ((if s1 then be a 4 else []) ++ ((if s2 then be b 4 else []) ++ X.flatMap (pB L))))) w w' := by
  have hE1 : Es B r M L w0 (w.alloc (.cells (insC op a b c n d) 47)) bs := h.chr ((Ch.refl w).alloc _)
  have HB : Hid ((w.alloc (.cells (insC op a b c n d) 47)).heap[w.heap.size]? = some (.cells (insC op a b c n d) 47)) := heap_alloc_new _ _
  have HW : Hid (Ch w (w.alloc (.cells (insC op a b c n d) 47))) := (Ch.refl w).alloc _
  clear h
  unfold insC at *
  go_enter Tryz.func103, Tryz.ntmps103
  go_wp2_with (first
    | (go_at_call 101; (with_reducible refine (hof _).mono ?_); rintro e w3 ⟨rfl, hc3⟩; have hE3 := (hE1.chr hc3).chr ((Ch.refl w3).alloc (.cells #[.bool s1, .bool s2, .bool s3, .bool s4, .bool s5] 141)); have KC : Hid (∀ w', Kp B [5, 63] (w3.alloc (.cells #[.bool s1, .bool s2, .bool s3, .bool s4, .bool s5] 141)) w' → _) := (fun w' k => And.intro (insC_at (k.cells (kept_at ((Ch.refl w3).alloc _) (kept_at hc3 HB.out)) (by decide))) (shC_at (k.cells (heap_alloc_new _ _) (by decide)))); have HW3 : Hid (Ch w (w3.alloc (.cells #[.bool s1, .bool s2, .bool s3, .bool s4, .bool s5] 141))) := (HW.out.trans hc3).alloc _))
  have HA : Hid (s1 = true → -2147483648 ≤ a ∧ a ≤ 2147483647) := ha
  have HBb : Hid (s2 = true → -2147483648 ≤ b ∧ b ≤ 2147483647) := hb
  clear ha hb
  generalize w3.alloc (.cells #[.bool s1, .bool s2, .bool s3, .bool s4, .bool s5] 141) = W at *
  clear hE1 HB HW hc3
  obtain ⟨⟨i0, i1, i2, i3, i4, i5⟩, ⟨j0, j1, j2, j3, j4⟩⟩ := KC.out W (Kp.refl _ _ _)
  have HT5 : Hid (∀ w', Ch W w' → w'.cell? ⟨w.heap.size, 0, none⟩ = some (.int .i64 op)) := fun w' hw => cell_keep hw i0
  have hu := (hE3.chr (Ch.refl W).drew).u1 op hop (by omega)
  go_region_held (fun w' => w'.cell? ⟨w.heap.size, 0, none⟩ = some (.int .i64 op)) (first | assumption | (refine HT5.out _ ?_; repeat (first | exact Ch.refl _ | refine Ch.drew ?_ | refine Ch.alloc ?_ _ | refine Ch.trans ?_ (by assumption)))) (first
    | (go_at_call 102; (with_reducible refine hu.mono ?_); rintro e w5 ⟨rfl, hE5, hk5⟩; have hk05 := (Kp.of_ch (Ch.refl W).drew).trans hk5; have c5 := (KC.out w5 hk05).1.1))
  clear hu HT5 i0 i1 i2 i3 i4 i5 j0 j1 j2 j3 j4 c5 hE3
  obtain ⟨⟨i0, i1, i2, i3, i4, i5⟩, ⟨j0, j1, j2, j3, j4⟩⟩ := KC.out w5 hk05
  have hl5 : (bs ++ be op 1).length ≤ 1999985 := by rw [List.length_append, be_len]; omega
  obtain ⟨b5, hb5⟩ : ∃ l, l = bs ++ be op 1 := ⟨_, rfl⟩
  rw [← hb5] at hE5 hl5
  cases s1
  · skip
    cases s2
    · skip
      have hoX := hox
      go_wp2_with (first
        | (go_at_call 60; (with_reducible refine (hoX _).mono ?_); rintro e w8 ⟨v8, rfl, ho8, hc8⟩)
        | (go_at_call 63; (with_reducible refine ((hE5.chr hc8).textsO ho8 hsz (by omega)).mono ?_); rintro e w9 ⟨rfl, hE9, hk9⟩))
      go_end0
      refine ⟨rfl, ?_, (Kp.of_ch HW3.out).trans ((hk05.chr hc8).trans hk9)⟩
      rw [hb5] at hE9
      simpa [List.append_assoc] using hE9
    · go_wp2_with fail
      have HT7 : Hid (∀ w', Ch w5 w' → w'.cell? ⟨w.heap.size, 2, none⟩ = some (.int .i64 b)) := fun w' hw => cell_keep hw i2
      have hu := (hE5.chr (Ch.refl w5).drew).i4 b (HBb.out (by first | rfl | trivial)) (by omega)
      go_region_held (fun w' => w'.cell? ⟨w.heap.size, 2, none⟩ = some (.int .i64 b)) (first | assumption | (refine HT7.out _ ?_; repeat (first | exact Ch.refl _ | refine Ch.drew ?_ | refine Ch.alloc ?_ _ | refine Ch.trans ?_ (by assumption)))) (first
        | (go_at_call 24; (with_reducible refine hu.mono ?_); rintro e w7 ⟨rfl, hE7, hk7⟩; have hk07 := (hk05.chr (Ch.refl w5).drew).trans hk7; have c7 := (KC.out w7 hk07).1.2.2.1))
      clear hu HT7 i0 i1 i2 i3 i4 i5 j0 j1 j2 j3 j4 c7 hE5
      obtain ⟨⟨i0, i1, i2, i3, i4, i5⟩, ⟨j0, j1, j2, j3, j4⟩⟩ := KC.out w7 hk07
      have hl7 : (b5 ++ be b 4).length ≤ 1999993 := by rw [List.length_append, be_len]; omega
      obtain ⟨b7, hb7⟩ : ∃ l, l = b5 ++ be b 4 := ⟨_, rfl⟩
      rw [← hb7] at hE7 hl7
      have hoX := hox
      go_wp2_with (first
        | (go_at_call 60; (with_reducible refine (hoX _).mono ?_); rintro e w8 ⟨v8, rfl, ho8, hc8⟩)
        | (go_at_call 63; (with_reducible refine ((hE7.chr hc8).textsO ho8 hsz (by omega)).mono ?_); rintro e w9 ⟨rfl, hE9, hk9⟩))
      go_end0
      refine ⟨rfl, ?_, (Kp.of_ch HW3.out).trans ((hk07.chr hc8).trans hk9)⟩
      rw [hb7, hb5] at hE9
      simpa [List.append_assoc] using hE9
  · go_wp2_with fail
    have HT6 : Hid (∀ w', Ch w5 w' → w'.cell? ⟨w.heap.size, 1, none⟩ = some (.int .i64 a)) := fun w' hw => cell_keep hw i1
    have hu := (hE5.chr (Ch.refl w5).drew).i4 a (HA.out (by first | rfl | trivial)) (by omega)
    go_region_held (fun w' => w'.cell? ⟨w.heap.size, 1, none⟩ = some (.int .i64 a)) (first | assumption | (refine HT6.out _ ?_; repeat (first | exact Ch.refl _ | refine Ch.drew ?_ | refine Ch.alloc ?_ _ | refine Ch.trans ?_ (by assumption)))) (first
      | (go_at_call 24; (with_reducible refine hu.mono ?_); rintro e w6 ⟨rfl, hE6, hk6⟩; have hk06 := (hk05.chr (Ch.refl w5).drew).trans hk6; have c6 := (KC.out w6 hk06).1.2.1))
    clear hu HT6 i0 i1 i2 i3 i4 i5 j0 j1 j2 j3 j4 c6 hE5
    obtain ⟨⟨i0, i1, i2, i3, i4, i5⟩, ⟨j0, j1, j2, j3, j4⟩⟩ := KC.out w6 hk06
    have hl6 : (b5 ++ be a 4).length ≤ 1999989 := by rw [List.length_append, be_len]; omega
    obtain ⟨b6, hb6⟩ : ∃ l, l = b5 ++ be a 4 := ⟨_, rfl⟩
    rw [← hb6] at hE6 hl6
    cases s2
    · skip
      have hoX := hox
      go_wp2_with (first
        | (go_at_call 60; (with_reducible refine (hoX _).mono ?_); rintro e w8 ⟨v8, rfl, ho8, hc8⟩)
        | (go_at_call 63; (with_reducible refine ((hE6.chr hc8).textsO ho8 hsz (by omega)).mono ?_); rintro e w9 ⟨rfl, hE9, hk9⟩))
      go_end0
      refine ⟨rfl, ?_, (Kp.of_ch HW3.out).trans ((hk06.chr hc8).trans hk9)⟩
      rw [hb6, hb5] at hE9
      simpa [List.append_assoc] using hE9
    · go_wp2_with fail
      have HT7 : Hid (∀ w', Ch w6 w' → w'.cell? ⟨w.heap.size, 2, none⟩ = some (.int .i64 b)) := fun w' hw => cell_keep hw i2
      have hu := (hE6.chr (Ch.refl w6).drew).i4 b (HBb.out (by first | rfl | trivial)) (by omega)
      go_region_held (fun w' => w'.cell? ⟨w.heap.size, 2, none⟩ = some (.int .i64 b)) (first | assumption | (refine HT7.out _ ?_; repeat (first | exact Ch.refl _ | refine Ch.drew ?_ | refine Ch.alloc ?_ _ | refine Ch.trans ?_ (by assumption)))) (first
        | (go_at_call 24; (with_reducible refine hu.mono ?_); rintro e w7 ⟨rfl, hE7, hk7⟩; have hk07 := (hk06.chr (Ch.refl w6).drew).trans hk7; have c7 := (KC.out w7 hk07).1.2.2.1))
      clear hu HT7 i0 i1 i2 i3 i4 i5 j0 j1 j2 j3 j4 c7 hE6
      obtain ⟨⟨i0, i1, i2, i3, i4, i5⟩, ⟨j0, j1, j2, j3, j4⟩⟩ := KC.out w7 hk07
      have hl7 : (b6 ++ be b 4).length ≤ 1999993 := by rw [List.length_append, be_len]; omega
      obtain ⟨b7, hb7⟩ : ∃ l, l = b6 ++ be b 4 := ⟨_, rfl⟩
      rw [← hb7] at hE7 hl7
      have hoX := hox
      go_wp2_with (first
        | (go_at_call 60; (with_reducible refine (hoX _).mono ?_); rintro e w8 ⟨v8, rfl, ho8, hc8⟩)
        | (go_at_call 63; (with_reducible refine ((hE7.chr hc8).textsO ho8 hsz (by omega)).mono ?_); rintro e w9 ⟨rfl, hE9, hk9⟩))
      go_end0
      refine ⟨rfl, ?_, (Kp.of_ch HW3.out).trans ((hk07.chr hc8).trans hk9)⟩
      rw [hb7, hb6, hb5] at hE9
      simpa [List.append_assoc] using hE9

theorem Es.ins (h : Es B r M L w0 w bs) (x : Ins) (hx : InsOk x) (hs : x.c.size ≤ 90000 ∧ x.n.size ≤ 90000 ∧ x.d.size ≤ 90000) (hl : bs.length + 20 ≤ 2000000) :
    Calls Tryz.prog 103 #[.pointer (some ⟨r, 0, none⟩), .agg #[.int .i64 x.op, .int .i64 x.a, .int .i64 x.b, .string x.c, .string x.n, .string x.d]] w fun e w' => e = .returned (.tuple #[]) ∧ Put B r M L w0 (bs ++ insB L x) w w' :=
  h.ins_at x.op x.a x.b x.c x.n x.d (insX x) _ _ _ _ _ _ (fun w0 => of_any x.op w0) (fun w0 => ownX_any x w0) (insX_le x) (insX_sz hs) hx.op hx.a hx.b hl
end Go.Proofs.YtdalibfgkkgcpaaGreat
