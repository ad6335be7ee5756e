/- What stands above a class; resolve's Method, isInterface, takes and Call, of a program. -/
/- resolve's Call, of a program. -/
/- Classes in another order: turned; the program is the same. -/
/- LinkOrder, walked. -/
import Derived.Test.YthmepecmeambmaaGreatKLyG
import Derived.Test.YthmepecmeambmaaGreatKLzD
import Derived.Test.YthmepecmeambmaaGreatKLzB
import Derived.Test.YthmepecmeambmaaGreatKLtB
import Derived.Test.YthmepecmeambmaaGreatKEqA
import Derived.Deep.RegionHeld3
namespace Go.Proofs.YthmepecmeambmaaGreat
open Go.RowKit
set_option linter.unusedVariables false

theorem abv_nms {P : List Cls} (g : Gd P) {c m : ByteArray} (hm : m ∈ abv P c) : m ∈ nms P := by
  unfold abv at hm
  rcases List.mem_append.1 hm with h | h
  · exact walk_in c P m h
  · have hi : isIf P m = true := by
      rcases ifc_mem.1 h with h2 | ⟨h1, h2⟩
      · exact ifs_if g c m h2
      · rw [h1]; exact h2
    unfold isIf at hi
    cases hl : lk P m with
    | none => rw [hl] at hi; cases hi
    | some d => exact nms_lk hl
set_option maxHeartbeats 4000000 in
theorem above_any (n : ByteArray) (P : List Cls) (g b : Nat) (w : World) (h : Pm w g b P) (G : Gd P) :
    Calls Tryz.prog 131 #[.pointer (some ⟨g, 0, none⟩), .string n] w fun e w' => ∃ v, e = .returned v ∧ Ow 1 9 RS w.heap.size w' v (abv P n) ∧ Ch w w' := by
  have h1 := supers_any n P g b w h
  have HI : Hid (∀ w', Ch w w' → Calls Tryz.prog 34 #[.pointer (some ⟨g, 0, none⟩), .string n] w' fun e w2 => ∃ v, e = .returned v ∧ Ow 1 9 RS w'.heap.size w2 v (ifcE P n) ∧ Ch w' w2) := fun w' k => interfaces_told n P g b w' (h.keep k) G.im
  have hl1 : (walkN P n).1.length ≤ 100000 := by
    obtain ⟨e, _, h2, h3, _⟩ := walk_none G n
    have := way_le h2 h3
    have := h.2.1
    omega
  have hl2 : (ifcE P n).length ≤ 100000 := by
    have := ifc_len G n
    have := h.2.1
    omega
  unfold abv
  clear h G
  generalize (walkN P n).1 = W at *
  generalize ifcE P n = I at *
  go_enter Tryz.func131, Tryz.ntmps131
  go_wp2_with (first
    | (go_at_call 33; (with_reducible refine h1.mono ?_); clear h1; rintro e w1 ⟨v1, rfl, o1, c1⟩; have hi := HI.out w1 c1)
    | (go_at_call 34; (with_reducible refine hi.mono ?_); clear hi; rintro e w2 ⟨v2, rfl, o2, c2⟩; have o1 := o1.keepS c2; have c12 := c1.trans c2; have hsz := c12.size; obtain ⟨a1, d1, rfl⟩ := o1.form; obtain ⟨a2, d2, rfl⟩ := o2.form)
    | (at_builtin; refine o1.catS o2 rfl (.tmp 7) (.tmp 10) rfl rfl rfl hl1 hl2 hsz ?_; intro v3 w3 o3 g3 b3; have c3 := c12.grown g3 b3)
    | fail)
  go_ret
  exact ⟨_, rfl, o3, c3⟩

set_option maxHeartbeats 8000000 in
theorem askM_any (x n d : ByteArray) (tp tn td : Nat) (P : List Cls) (g b : Nat) (w : World) (h : Pm w g b P) (hT : okCs P) (hp : w.cell? ⟨tp, 0, none⟩ = some (.pointer (some ⟨g, 0, none⟩))) (hn : w.cell? ⟨tn, 0, none⟩ = some (.string n)) (hd : w.cell? ⟨td, 0, none⟩ = some (.string d)) :
    Calls Tryz.prog 135 #[.string x, .pointer (some ⟨tp, 0, none⟩), .pointer (some ⟨tn, 0, none⟩), .pointer (some ⟨td, 0, none⟩)] w fun e w' => ∃ v m, e = .returned (.tuple #[v, .bool (mth P x n d).isSome]) ∧ Mw w w' v m ∧ (∀ m', mth P x n d = some m' → m = m') ∧ Ch w w' := by
  have R0 := Bo.new (Ch.refl w) #[.string ⟨#[]⟩, .string ⟨#[]⟩, .bool false, .bool false, .int .i64 0, .int .i64 0, .slice none 0 0, .slice none 0 0] 66
  have q1 := cell_keep R0.ch hp
  have q2 := cell_keep R0.ch hn
  have q3 := cell_keep R0.ch hd
  have hm := lkMethod_any x n d P g b _ (h.keep R0.ch) hT
  clear h hp hn hd
  have HR : Hid (∀ m', mth P x n d = some m' → (mth P x n d).getD noM = m') := fun m' h => by rw [h]; rfl
  generalize mth P x n d = o at *
  generalize o.isSome = t at *
  generalize o.getD noM = m at *
  go_enter Tryz.func135, Tryz.ntmps135
  go_wp2_with (first
    | (go_at_call 136; (with_reducible refine hm.mono ?_); clear hm; rintro e w2 ⟨v, rfl, ⟨vc, vh, rfl, oc, oh⟩, c2⟩; have oc := oc.base (B' := w.heap.size) R0.ch.size; have oh := oh.base (B' := w.heap.size) R0.ch.size; obtain ⟨ac, cc, rfl⟩ := oc.form; obtain ⟨ah, chh, rfl⟩ := oh.form; unfold mV; have R := R0.call c2)
    | (refine wpList_store_row rfl 66 (.tmp 5) (.tmp 12) rfl w.heap.size #[.string m.n, .string m.d, .bool m.st, .bool m.ab, .int .i64 m.sk, .int .i64 m.lo, .slice ac m.code.length cc, .slice ah m.hs.length chh] rfl rfl 66 _ R.b infoM rfl (one8 _ _ _ _ _ _ _ _ _ _ _ _) ?_; have R3 := R.setRow #[.string m.n, .string m.d, .bool m.st, .bool m.ab, .int .i64 m.sk, .int .i64 m.lo, .slice ac m.code.length cc, .slice ah m.hs.length chh]; have oc1 := oc.rowI #[.string m.n, .string m.d, .bool m.st, .bool m.ab, .int .i64 m.sk, .int .i64 m.lo, .slice ac m.code.length cc, .slice ah m.hs.length chh] R.b (by decide); have oh1 := oh.rowH #[.string m.n, .string m.d, .bool m.st, .bool m.ab, .int .i64 m.sk, .int .i64 m.lo, .slice ac m.code.length cc, .slice ah m.hs.length chh] R.b (by decide))
    | fail)
  refine bodyPost_ret (results_cell_one rfl _ _ w.heap.size 66 _ (0, 0) _ rfl R3.b Tryz.underlying66 rfl infoM) rfl ?_
  exact ⟨_, _, rfl, ⟨_, _, rfl, oc1, oh1⟩, HR.out, R3.ch⟩
def mthF (P : List Cls) (n d : ByteArray) (c : ByteArray) : Option Mth := mth P c n d
theorem methodP_any (c n d : ByteArray) (P : List Cls) (g b : Nat) (w : World) (h : Pm w g b P) (hT : okCs P) (G : Gd P) :
    Calls Tryz.prog 64 #[.pointer (some ⟨g, 0, none⟩), .string c, .string n, .string d] w fun e w' => ∃ v, e = .returned (.tuple #[.string (fst1 (mthF P n d) (abv P c)).1, v, .int .i64 (er (fst1 (mthF P n d) (abv P c)).2)]) ∧ Mw w w' v ((fst1 (mthF P n d) (abv P c)).2.getD noM) ∧ Ch w w' :=
  method_gen c n d (some ⟨g, 0, none⟩) (abv P c) (mthF P n d) w (fun x hx => nms_sz hT x (abv_nms G hx))
    (fun w' k => (above_any c P g b w' (h.keep k) G).mono (fun e w2 ⟨v, h1, h2, h3⟩ => ⟨v, h1, h2.sl, h3⟩))
    (fun w' tp tn td k k1 k2 k3 x _ => askM_any x n d tp tn td P g b w' (h.keep k) hT k1 k2 k3)
/-- Is it an interface? -/
def isIc (P : List Cls) (c : ByteArray) : Bool := hasN (ifcE P c) c
theorem isI_any (c : ByteArray) (P : List Cls) (g b : Nat) (w : World) (h : Pm w g b P) (hI : imIn P) :
    Calls Tryz.prog 202 #[.pointer (some ⟨g, 0, none⟩), .string c] w fun e w' => e = .returned (.bool (isIc P c)) ∧ Ch w w' := by
  have h1 := interfaces_told c P g b w h hI
  have HC : Hid (∀ w' v, Sl 1 RS w' v (ifcE P c) → Calls Tryz.prog 100 #[v, .string c] w' fun e w2 => e = .returned (.bool (hasN (ifcE P c) c)) ∧ w2 = w') := fun w' v hv => containsS_any c _ v w' hv
  unfold isIc
  clear h hI
  generalize hasN (ifcE P c) c = r at *
  go_enter Tryz.func202, Tryz.ntmps202
  go_wp2_with (first
    | (go_at_call 34; (with_reducible refine h1.mono ?_); clear h1; rintro e w1 ⟨v1, rfl, o1, c1⟩; have hc := HC.out w1 v1 o1.sl; obtain ⟨a1, d1, rfl⟩ := o1.form)
    | (go_at_call 100; (with_reducible refine hc.mono ?_); clear hc; rintro e w2 ⟨rfl, hw⟩; have hw := hw.symm; subst hw)
    | fail)
  go_ret
  exact ⟨rfl, c1⟩
theorem isI_if {P : List Cls} (g : Gd P) (c : ByteArray) : isIc P c = isIf P c := by
  unfold isIc
  cases h : isIf P c with
  | true => exact hasN_iff.2 (ifc_mem.2 (Or.inr ⟨rfl, h⟩))
  | false =>
    refine hasN_no.2 fun hm => ?_
    rcases ifc_mem.1 hm with h2 | ⟨_, h2⟩
    · rw [ifs_if g c c h2] at h; cases h
    · rw [h2] at h; cases h
/-- May a call of that operation, of class c, be one of m, whose owner is o? -/
def tkB (i : Bool) (op : Int) (c o : ByteArray) (m : Mth) : Bool :=
  if op = 32 then m.st else if op = 33 then !m.st && (!m.ab && (!nq m.n nInit || nq o c)) else if op = 34 then !m.st && !i else if op = 35 then !m.st && i else false
set_option maxHeartbeats 16000000 in
set_option maxRecDepth 100000 in
theorem takes_any (x : Ins) (o : ByteArray) (m : Mth) (vc vh : Value) (P : List Cls) (g b : Nat) (w : World) (h : Pm w g b P) (hI : imIn P) (h1 : Sl 6 RI w vc m.code) (h2 : Sl 4 RH w vh m.hs) :
    Calls Tryz.prog 137 #[.pointer (some ⟨g, 0, none⟩), x.v, .string o, mV vc vh m] w fun e w' => e = .returned (.bool (tkB (isIc P x.c) x.op x.c o m)) ∧ Ch w w' := by
  obtain ⟨ac, cc, rfl, _, _⟩ := h1.form
  obtain ⟨ah, chh, rfl, _, _⟩ := h2.form
  have HII : Hid (∀ w', Ch w w' → Calls Tryz.prog 202 #[.pointer (some ⟨g, 0, none⟩), .string x.c] w' fun e w2 => e = .returned (.bool (isIc P x.c)) ∧ Ch w' w2) := fun w' k => isI_any x.c P g b w' (h.keep k) hI
  clear h1 h2 h hI
  unfold Ins.v mV
  generalize isIc P x.c = ii at *
  generalize x.op = a1 at *
  generalize x.a = a2 at *
  generalize x.b = a3 at *
  generalize x.c = a4 at *
  generalize x.n = a5 at *
  generalize x.d = a6 at *
  obtain ⟨mn, md, st, ab, sk, lo, code, hs⟩ := m
  unfold tkB
  dsimp only at *
  have hq1 : (mn.toList == [60, 105, 110, 105, 116, 62]) = nq mn nInit := by rw [bl_toList]; rfl
  have hq2 : (o.toList == a4.toList) = nq o a4 := toList_nq _ _
  generalize nq mn nInit = r at *
  generalize nq o a4 = s at *
  have hq3 : (mn.toList != [60, 105, 110, 105, 116, 62]) = !r := by rw [← hq1]; rfl
  have B1 := Bo.new (Ch.refl w) #[.int .i64 a1, .int .i64 a2, .int .i64 a3, .string a4, .string a5, .string a6] 62
  have B2 := Bo.new B1.ch #[.string mn, .string md, .bool st, .bool ab, .int .i64 sk, .int .i64 lo, .slice ac code.length cc, .slice ah hs.length chh] 66
  have B1 := B1.call ((Ch.refl _).alloc (.cells #[.string mn, .string md, .bool st, .bool ab, .int .i64 sk, .int .i64 lo, .slice ac code.length cc, .slice ah hs.length chh] 66))
  have e1 : (w.alloc (.cells #[.int .i64 a1, .int .i64 a2, .int .i64 a3, .string a4, .string a5, .string a6] 62)).heap.size = w.heap.size + 1 := by simp
  rw [e1] at B2
  clear e1
  have q0 := B1.c 0 rfl
  have q3 := B1.c 3 rfl
  have m0 := B2.c 0 rfl
  have m2 := B2.c 2 rfl
  have m3 := B2.c 3 rfl
  have hii := HII.out _ B2.ch
  by_cases h32 : a1 = 32
  · subst h32
    rw [if_pos rfl]
    cases st <;>
    · go_enter Tryz.func137, Tryz.ntmps137
      go_wp2_with (first
        | (go_at_call 202; (with_reducible refine hii.mono ?_); clear hii; rintro e w2 ⟨rfl, c2⟩)
        | fail)
      go_ret
      exact ⟨rfl, by first | exact B2.ch | exact B2.ch.trans c2⟩
  rw [if_neg h32]
  have u32 : (a1 == 32) = false := by simpa using h32
  by_cases h33 : a1 = 33
  · subst h33
    rw [if_pos rfl]
    cases st <;> cases ab <;> cases r <;> cases s <;>
    · try rw [Bool.not_true] at hq3
      try rw [Bool.not_false] at hq3
      go_enter Tryz.func137, Tryz.ntmps137
      go_wp2_with (first
        | (go_at_call 202; (with_reducible refine hii.mono ?_); clear hii; rintro e w2 ⟨rfl, c2⟩)
        | fail)
      go_ret
      exact ⟨rfl, by first | exact B2.ch | exact B2.ch.trans c2⟩
  rw [if_neg h33]
  have u33 : (a1 == 33) = false := by simpa using h33
  by_cases h34 : a1 = 34
  · subst h34
    rw [if_pos rfl]
    cases st <;> cases ii <;>
    · go_enter Tryz.func137, Tryz.ntmps137
      go_wp2_with (first
        | (go_at_call 202; (with_reducible refine hii.mono ?_); clear hii; rintro e w2 ⟨rfl, c2⟩)
        | fail)
      go_ret
      exact ⟨rfl, by first | exact B2.ch | exact B2.ch.trans c2⟩
  rw [if_neg h34]
  have u34 : (a1 == 34) = false := by simpa using h34
  by_cases h35 : a1 = 35
  · subst h35
    rw [if_pos rfl]
    cases st <;> cases ii <;>
    · go_enter Tryz.func137, Tryz.ntmps137
      go_wp2_with (first
        | (go_at_call 202; (with_reducible refine hii.mono ?_); clear hii; rintro e w2 ⟨rfl, c2⟩)
        | fail)
      go_ret
      exact ⟨rfl, by first | exact B2.ch | exact B2.ch.trans c2⟩
  rw [if_neg h35]
  have u35 : (a1 == 35) = false := by simpa using h35
  go_enter Tryz.func137, Tryz.ntmps137
  go_wp2_with (first
    | (go_at_call 202; (with_reducible refine hii.mono ?_); clear hii; rintro e w2 ⟨rfl, c2⟩)
    | fail)
  go_ret
  exact ⟨rfl, by first | exact B2.ch | exact B2.ch.trans c2⟩
end Go.Proofs.YthmepecmeambmaaGreat
namespace Go.Proofs.YthmepecmeambmaaGreat
open Go.RowKit
set_option linter.unusedVariables false

/-- What a call's names lead to. -/
def resQ (P : List Cls) (x : Ins) : ByteArray × Option Mth := match fst1 (mthF P x.n x.d) (abv P x.c) with
  | (o, some m) => if tkB (isIc P x.c) x.op x.c o m then (o, some m) else (⟨#[]⟩, none)
  | (_, none) => (⟨#[]⟩, none)
set_option maxHeartbeats 16000000 in
set_option maxRecDepth 100000 in
theorem call_any (x : Ins) (P : List Cls) (g b : Nat) (w : World) (h : Pm w g b P) (hT : okCs P) (G : Gd P) : Calls Tryz.prog 67 #[.pointer (some ⟨g, 0, none⟩), x.v] w fun e w' => ∃ v, e = .returned (.tuple #[.string (resQ P x).1, v, .int .i64 (er (resQ P x).2)]) ∧ Mw w w' v ((resQ P x).2.getD noM) ∧ Ch w w' := by
  have HT : Hid (∀ w' o m vc vh, Ch w w' → Sl 6 RI w' vc m.code → Sl 4 RH w' vh m.hs → Calls Tryz.prog 137 #[.pointer (some ⟨g, 0, none⟩), x.v, .string o, mV vc vh m] w' fun e w2 => e = .returned (.bool (tkB (isIc P x.c) x.op x.c o m)) ∧ Ch w' w2) := fun w' o m vc vh k s1 s2 => takes_any x o m vc vh P g b w' (h.keep k) G.im s1 s2
  have HM : Hid (∀ w', Ch w w' → Calls Tryz.prog 64 #[.pointer (some ⟨g, 0, none⟩), .string x.c, .string x.n, .string x.d] w' fun e w2 => ∃ v, e = .returned (.tuple #[.string (fst1 (mthF P x.n x.d) (abv P x.c)).1, v, .int .i64 (er (fst1 (mthF P x.n x.d) (abv P x.c)).2)]) ∧ Mw w' w2 v ((fst1 (mthF P x.n x.d) (abv P x.c)).2.getD noM) ∧ Ch w' w2) := fun w' k => methodP_any x.c x.n x.d P g b w' (h.keep k) hT G
  have HN : Hid ((fst1 (mthF P x.n x.d) (abv P x.c)).2 = none → (fst1 (mthF P x.n x.d) (abv P x.c)).1 = ⟨#[]⟩) := fst1_none _ _
  unfold resQ
  clear h hT G
  generalize fst1 (mthF P x.n x.d) (abv P x.c) = res at *
  unfold Ins.v at *
  generalize isIc P x.c = ii at *
  generalize x.op = a1 at *
  generalize x.a = a2 at *
  generalize x.b = a3 at *
  generalize x.c = a4 at *
  generalize x.n = a5 at *
  generalize x.d = a6 at *
  have B1 := Bo.new (Ch.refl w) #[.int .i64 a1, .int .i64 a2, .int .i64 a3, .string a4, .string a5, .string a6] 62
  have R := Bo.new B1.ch #[.string ⟨#[]⟩, .string ⟨#[]⟩, .bool false, .bool false, .int .i64 0, .int .i64 0, .slice none 0 0, .slice none 0 0] 66
  have B1 := B1.call ((Ch.refl _).alloc (.cells #[.string ⟨#[]⟩, .string ⟨#[]⟩, .bool false, .bool false, .int .i64 0, .int .i64 0, .slice none 0 0, .slice none 0 0] 66))
  have e2 : (w.alloc (.cells #[.int .i64 a1, .int .i64 a2, .int .i64 a3, .string a4, .string a5, .string a6] 62)).heap.size = w.heap.size + 1 := by simp
  rw [e2] at R
  clear e2
  have q3 := B1.c 3 rfl
  have q4 := B1.c 4 rfl
  have q5 := B1.c 5 rfl
  have hf := HM.out _ R.ch
  clear HM
  obtain ⟨ow, om⟩ := res
  cases om with
  | none =>
    have hno := HN.out rfl
    dsimp only at *
    have hno : ow = ⟨#[]⟩ := hno
    subst hno
    generalize hm : Option.getD none noM = m at hf ⊢
    unfold er at *
    go_enter Tryz.func67, Tryz.ntmps67
    go_wp2_with (first
      | (go_at_call 64; (with_reducible refine hf.mono ?_); clear hf; rintro e w3 ⟨v3, rfl, ⟨vc, vh, rfl, oc, oh⟩, c3⟩; have R3 := R.call c3; obtain ⟨ac, cc, rfl⟩ := oc.form; obtain ⟨ah, chh, rfl⟩ := oh.form; unfold mV)
      | (refine wpList_store_row rfl 66 (.tmp 5) (.tmp 17) rfl (w.heap.size + 1) #[.string m.n, .string m.d, .bool m.st, .bool m.ab, .int .i64 m.sk, .int .i64 m.lo, .slice ac m.code.length cc, .slice ah m.hs.length chh] rfl rfl 66 _ R3.b infoM rfl (one8 _ _ _ _ _ _ _ _ _ _ _ _) ?_; have R4 := R3.setRow #[.string m.n, .string m.d, .bool m.st, .bool m.ab, .int .i64 m.sk, .int .i64 m.lo, .slice ac m.code.length cc, .slice ah m.hs.length chh])
      | (refine wpList_store_row rfl 66 (.tmp 5) (.tmp 29) rfl (w.heap.size + 1) #[.string ⟨#[]⟩, .string ⟨#[]⟩, .bool false, .bool false, .int .i64 0, .int .i64 0, .slice none 0 0, .slice none 0 0] rfl rfl 66 _ R4.b infoM rfl (one8 _ _ _ _ _ _ _ _ _ _ _ _) ?_; have R5 := R4.setRow #[.string ⟨#[]⟩, .string ⟨#[]⟩, .bool false, .bool false, .int .i64 0, .int .i64 0, .slice none 0 0, .slice none 0 0])
      | fail)
    refine bodyPost_ret (results_cells rfl _ _ (w.heap.size + 1) 66 _ (0, 0) _ rfl R5.b Tryz.underlying66 rfl infoM) rfl ?_
    exact ⟨_, rfl, hm ▸ ⟨_, _, rfl, Ow.nil, Ow.nil⟩, R5.ch⟩
  | some m =>
    dsimp only at *
    have HK : Hid (∀ w' vc vh, Ch w w' → Sl 6 RI w' vc m.code → Sl 4 RH w' vh m.hs → Calls Tryz.prog 137 #[.pointer (some ⟨g, 0, none⟩), .agg #[.int .i64 a1, .int .i64 a2, .int .i64 a3, .string a4, .string a5, .string a6], .string ow, mV vc vh m] w' fun e w2 => e = .returned (.bool (tkB ii a1 a4 ow m)) ∧ Ch w' w2) := fun w' vc vh k s1 s2 => HT.out w' ow m vc vh k s1 s2
    clear HT HN
    generalize tkB ii a1 a4 ow m = tk at *
    unfold er at *
    have e0 : (some m).getD noM = m := rfl
    rw [e0] at hf
    clear e0
    cases tk with
    | false =>
      go_enter Tryz.func67, Tryz.ntmps67
      go_wp2_with (first
        | (go_at_call 64; (with_reducible refine hf.mono ?_); clear hf; rintro e w3 ⟨v3, rfl, ⟨vc, vh, rfl, oc, oh⟩, c3⟩; have R3 := R.call c3; have B3 := B1.call c3; have oc := oc.base (B' := w.heap.size) R.ch.size; have oh := oh.base (B' := w.heap.size) R.ch.size; obtain ⟨ac, cc, rfl⟩ := oc.form; obtain ⟨ah, chh, rfl⟩ := oh.form; unfold mV)
        | (refine wpList_store_row rfl 66 (.tmp 5) (.tmp 17) rfl (w.heap.size + 1) #[.string m.n, .string m.d, .bool m.st, .bool m.ab, .int .i64 m.sk, .int .i64 m.lo, .slice ac m.code.length cc, .slice ah m.hs.length chh] rfl rfl 66 _ R3.b infoM rfl (one8 _ _ _ _ _ _ _ _ _ _ _ _) ?_; have R4 := R3.setRow #[.string m.n, .string m.d, .bool m.st, .bool m.ab, .int .i64 m.sk, .int .i64 m.lo, .slice ac m.code.length cc, .slice ah m.hs.length chh]; have B4 := B3.farRow (g' := w.heap.size + 1) #[.string m.n, .string m.d, .bool m.st, .bool m.ab, .int .i64 m.sk, .int .i64 m.lo, .slice ac m.code.length cc, .slice ah m.hs.length chh] (by omega) (by omega); have oc4 := oc.rowI #[.string m.n, .string m.d, .bool m.st, .bool m.ab, .int .i64 m.sk, .int .i64 m.lo, .slice ac m.code.length cc, .slice ah m.hs.length chh] R3.b (by decide); have oh4 := oh.rowH #[.string m.n, .string m.d, .bool m.st, .bool m.ab, .int .i64 m.sk, .int .i64 m.lo, .slice ac m.code.length cc, .slice ah m.hs.length chh] R3.b (by decide); clear q3 q4 q5; have q0 := B4.c 0 rfl; have q1 := B4.c 1 rfl; have q2 := B4.c 2 rfl; have q3 := B4.c 3 rfl; have q4 := B4.c 4 rfl; have q5 := B4.c 5 rfl; have z0 := R4.c 0 rfl; have z1 := R4.c 1 rfl; have z2 := R4.c 2 rfl; have z3 := R4.c 3 rfl; have z4 := R4.c 4 rfl; have z5 := R4.c 5 rfl; have z6 := R4.c 6 rfl; have z7 := R4.c 7 rfl; have hk := HK.out _ _ _ R4.ch oc4.sl oh4.sl; unfold mV at hk)
        | (go_at_call 137; (with_reducible refine hk.mono ?_); clear hk; rintro e w5 ⟨rfl, c5⟩; have R5 := R4.call c5)
        | (refine wpList_store_row rfl 66 (.tmp 5) (.tmp 29) rfl (w.heap.size + 1) #[.string ⟨#[]⟩, .string ⟨#[]⟩, .bool false, .bool false, .int .i64 0, .int .i64 0, .slice none 0 0, .slice none 0 0] rfl rfl 66 _ R5.b infoM rfl (one8 _ _ _ _ _ _ _ _ _ _ _ _) ?_; have R6 := R5.setRow #[.string ⟨#[]⟩, .string ⟨#[]⟩, .bool false, .bool false, .int .i64 0, .int .i64 0, .slice none 0 0, .slice none 0 0])
        | fail)
      refine bodyPost_ret (results_cells rfl _ _ (w.heap.size + 1) 66 _ (0, 0) _ rfl R6.b Tryz.underlying66 rfl infoM) rfl ?_
      exact ⟨_, rfl, ⟨_, _, rfl, Ow.nil, Ow.nil⟩, R6.ch⟩
    | true =>
      go_enter Tryz.func67, Tryz.ntmps67
      go_wp2_with (first
        | (go_at_call 64; (with_reducible refine hf.mono ?_); clear hf; rintro e w3 ⟨v3, rfl, ⟨vc, vh, rfl, oc, oh⟩, c3⟩; have R3 := R.call c3; have B3 := B1.call c3; have oc := oc.base (B' := w.heap.size) R.ch.size; have oh := oh.base (B' := w.heap.size) R.ch.size; obtain ⟨ac, cc, rfl⟩ := oc.form; obtain ⟨ah, chh, rfl⟩ := oh.form; unfold mV)
        | (refine wpList_store_row rfl 66 (.tmp 5) (.tmp 17) rfl (w.heap.size + 1) #[.string m.n, .string m.d, .bool m.st, .bool m.ab, .int .i64 m.sk, .int .i64 m.lo, .slice ac m.code.length cc, .slice ah m.hs.length chh] rfl rfl 66 _ R3.b infoM rfl (one8 _ _ _ _ _ _ _ _ _ _ _ _) ?_; have R4 := R3.setRow #[.string m.n, .string m.d, .bool m.st, .bool m.ab, .int .i64 m.sk, .int .i64 m.lo, .slice ac m.code.length cc, .slice ah m.hs.length chh]; have B4 := B3.farRow (g' := w.heap.size + 1) #[.string m.n, .string m.d, .bool m.st, .bool m.ab, .int .i64 m.sk, .int .i64 m.lo, .slice ac m.code.length cc, .slice ah m.hs.length chh] (by omega) (by omega); have oc4 := oc.rowI #[.string m.n, .string m.d, .bool m.st, .bool m.ab, .int .i64 m.sk, .int .i64 m.lo, .slice ac m.code.length cc, .slice ah m.hs.length chh] R3.b (by decide); have oh4 := oh.rowH #[.string m.n, .string m.d, .bool m.st, .bool m.ab, .int .i64 m.sk, .int .i64 m.lo, .slice ac m.code.length cc, .slice ah m.hs.length chh] R3.b (by decide); clear q3 q4 q5; have q0 := B4.c 0 rfl; have q1 := B4.c 1 rfl; have q2 := B4.c 2 rfl; have q3 := B4.c 3 rfl; have q4 := B4.c 4 rfl; have q5 := B4.c 5 rfl; have z0 := R4.c 0 rfl; have z1 := R4.c 1 rfl; have z2 := R4.c 2 rfl; have z3 := R4.c 3 rfl; have z4 := R4.c 4 rfl; have z5 := R4.c 5 rfl; have z6 := R4.c 6 rfl; have z7 := R4.c 7 rfl; have hk := HK.out _ _ _ R4.ch oc4.sl oh4.sl; unfold mV at hk)
        | (go_at_call 137; (with_reducible refine hk.mono ?_); clear hk; rintro e w5 ⟨rfl, c5⟩; have R5 := R4.call c5)
        | fail)
      have R6 := R5.call (Ch.refl _).drew
      refine wp_region_held_drew (S := fun w' => w'.cell? ⟨w.heap.size + 1, 0, none⟩ = some (.string m.n) ∧ w'.cell? ⟨w.heap.size + 1, 1, none⟩ = some (.string m.d) ∧ w'.cell? ⟨w.heap.size + 1, 2, none⟩ = some (.bool m.st) ∧ w'.cell? ⟨w.heap.size + 1, 3, none⟩ = some (.bool m.ab) ∧ w'.cell? ⟨w.heap.size + 1, 4, none⟩ = some (.int .i64 m.sk) ∧ w'.cell? ⟨w.heap.size + 1, 5, none⟩ = some (.int .i64 m.lo) ∧ w'.cell? ⟨w.heap.size + 1, 6, none⟩ = some (.slice ac m.code.length cc) ∧ w'.cell? ⟨w.heap.size + 1, 7, none⟩ = some (.slice ah m.hs.length chh)) (by kernel_rfl) (by exact ⟨(R6).c 0 rfl, (R6).c 1 rfl, (R6).c 2 rfl, (R6).c 3 rfl, (R6).c 4 rfl, (R6).c 5 rfl, (R6).c 6 rfl, (R6).c 7 rfl⟩) (fun hHeld => ?_)
      refine wpAnyH_take (i := 0) (oi := ({ dst := some 30, op := Go.Op.move (Go.Operand.tmp 4), type := 9, pos := "resolve.go:44", after := #[], guard := none } : Oper)) (v := ?_) rfl (by kernel_rfl) (by kernel_rfl) (by kernel_rfl) (fun _ _ _ h => h) (Or.inl ⟨by rfl, ?_⟩) (by assumption) ?_
      rotate_left
      focus (intro w' hSw; (try dsimp only at hSw); go_split_ands; go_simp; try with_reducible rfl)
      (try simp only [Act.put, List.setIfInBounds_toArray, List.set_cons_zero, List.set_cons_succ])
      refine wpAnyH_take (i := 1) (oi := ({ dst := some 31, op := Go.Op.load 66 (Go.Operand.tmp 5), type := 66, pos := "resolve.go:44", after := #[{ on := 2, ground := Go.Ground.gcOnly Go.Departure.lateStores }], guard := none } : Oper)) (v := ?_) rfl (by kernel_rfl) (by kernel_rfl) (by kernel_rfl) (fun _ _ _ h => h) (Or.inl ⟨by rfl, ?_⟩) (by assumption) ?_
      rotate_left
      focus (intro w' hSw; (try dsimp only at hSw); go_split_ands; go_simp; try with_reducible rfl)
      (try simp only [Act.put, List.setIfInBounds_toArray, List.set_cons_zero, List.set_cons_succ])
      refine wpAnyH_take (i := 2) (oi := ({ dst := some 4, op := Go.Op.assign (Go.Operand.tmp 30), type := 9, pos := "resolve.go:44", after := #[{ on := 0, ground := Go.Ground.data }, { on := 0, ground := Go.Ground.phase }, { on := 1, ground := Go.Ground.textOnly Go.Departure.lateStores }], guard := none } : Oper)) (v := ?_) rfl (by kernel_rfl) (by kernel_rfl) (by kernel_rfl) (fun _ _ _ h => h) (Or.inl ⟨by rfl, ?_⟩) (by assumption) ?_
      rotate_left
      focus (intro w' hSw; (try dsimp only at hSw); go_split_ands; go_simp; try with_reducible rfl)
      (try simp only [Act.put, List.setIfInBounds_toArray, List.set_cons_zero, List.set_cons_succ])
      refine wpAnyH_ready (rs := [3]) (by kernel_rfl) (by simp) ?_
      refine AllReadyH.cons (o := ({ dst := none, op := Go.Op.store 66 (Go.Operand.tmp 5) (Go.Operand.tmp 31), type := 0, pos := "resolve.go:44", after := #[{ on := 1, ground := Go.Ground.data }, { on := 2, ground := Go.Ground.chain }, { on := 0, ground := Go.Ground.phase }, { on := 1, ground := Go.Ground.phase }, { on := 2, ground := Go.Ground.phase }], guard := none } : Oper)) rfl (fun K hK => ?_) AllReadyH.nil
      refine wp_store_row 66 (.tmp 5) (.tmp 31) rfl (w.heap.size + 1) #[.string m.n, .string m.d, .bool m.st, .bool m.ab, .int .i64 m.sk, .int .i64 m.lo, .slice ac m.code.length cc, .slice ah m.hs.length chh] rfl rfl 66 _ R6.b infoM rfl (one8 _ _ _ _ _ _ _ _ _ _ _ _) ?_
      have R7 := R6.setRow #[.string m.n, .string m.d, .bool m.st, .bool m.ab, .int .i64 m.sk, .int .i64 m.lo, .slice ac m.code.length cc, .slice ah m.hs.length chh]
      refine hK.out _ _ ?_ (fun hHeld => ?_)
      exact ⟨(R7).c 0 rfl, (R7).c 1 rfl, (R7).c 2 rfl, (R7).c 3 rfl, (R7).c 4 rfl, (R7).c 5 rfl, (R7).c 6 rfl, (R7).c 7 rfl⟩
      clear hK K
      (try simp only [Act.put])
      refine wpAnyH_take (i := 4) (oi := ({ dst := some 6, op := Go.Op.assign (Go.Operand.const (Go.Value.int Go.IntKind.i64 0)), type := 26, pos := "resolve.go:44", after := #[{ on := 3, ground := Go.Ground.chain }, { on := 0, ground := Go.Ground.phase }, { on := 1, ground := Go.Ground.phase }, { on := 2, ground := Go.Ground.phase }, { on := 3, ground := Go.Ground.phase }], guard := none } : Oper)) (v := ?_) rfl (by kernel_rfl) (by kernel_rfl) (by kernel_rfl) (fun _ _ _ h => h) (Or.inl ⟨by rfl, ?_⟩) (by assumption) ?_
      rotate_left
      focus (intro w' hSw; (try dsimp only at hSw); go_split_ands; go_simp; try with_reducible rfl)
      (try simp only [Act.put, List.setIfInBounds_toArray, List.set_cons_zero, List.set_cons_succ])
      refine wpAnyH_done (by kernel_rfl) ?_ _
      go_wp2_with fail
      refine bodyPost_ret (results_cells rfl _ _ (w.heap.size + 1) 66 _ (0, 0) _ rfl R7.b Tryz.underlying66 rfl infoM) rfl ?_
      exact ⟨_, rfl, ⟨_, _, rfl, ((oc4.keepI c5).keepI (Ch.refl _).drew).rowI _ R6.b (by decide), ((oh4.keepH c5).keepH (Ch.refl _).drew).rowH _ R6.b (by decide)⟩, R7.ch⟩
end Go.Proofs.YthmepecmeambmaaGreat
namespace Go.Proofs.YthmepecmeambmaaGreat
open Go.RowKit
set_option linter.unusedVariables false

theorem len_clsT : ∀ l : List Cls, l.length ≤ (l.map clsT).sum
  | [] => by simp
  | c :: r => by
    have := len_clsT r
    have h : 1 ≤ clsT c := by unfold clsT; omega
    rw [List.map_cons, List.sum_cons, List.length_cons]
    omega
/-- What the guard over classes answers. -/
def GuardL (l : List Cls) (e : Ending) : Prop := ∃ r : Bool, e = .returned (.bool r) ∧ (r = true → okCs l ∧ l.length ≤ 12000)
set_option maxHeartbeats 3000000 in
set_option maxRecDepth 100000 in
theorem classesL_any (l : List Cls) (v : Value) (w : World) (h : Sl 7 RC w v l) :
    Calls Tryz.prog 22 #[v, .int .i64 12000] w fun e w' => GuardL l e ∧ Ch w w' := by
  obtain ⟨ao, c, rfl, hc1, hc2⟩ := h.form
  have HS : Hid (∀ w', Ch w w' → Sl 7 RC w' (.slice ao l.length c) l) := fun w' k => h.keep (fun cs a ⟨vi, vf, vm, e, q⟩ => ⟨vi, vf, vm, e, q.keep k⟩) k
  have HO : Hid ((l.map clsT).sum ≤ 12000 → okCs l ∧ l.length ≤ 12000) := fun h => ⟨fun x hx => Nat.le_trans (tsum_le clsT hx) h, Nat.le_trans (len_clsT l) h⟩
  clear h
  go_enter Tryz.func22, Tryz.ntmps22
  go_wp2_with fail
  go_loopw [5, 6] (fun n i wr => ∃ (k : Nat) (m : Int), k ≤ l.length ∧ i = .int .i64 k ∧ n = .int .i64 m ∧ Ok m (tsum clsT l k) ∧ Ch w wr) (fun _ i _ => l.length - (intOf i).toNat)
  case atStart => exact ⟨0, 0, Nat.zero_le _, rfl, rfl, by rw [tsum_zero]; exact ⟨Okk.nat 0, by decide⟩, Ch.refl _⟩
  case round =>
    obtain ⟨k, m, hk, rfl, rfl, hm, hcr⟩ := hrel
    by_cases hlt : k < l.length
    · obtain ⟨x, hx⟩ : ∃ x, l[k]? = some x := ⟨_, List.getElem?_eq_getElem hlt⟩
      obtain ⟨b, off, vi, vf, vm, rfl, hat, q0, q1, q2, q3, q4, q5, q6⟩ := (HS.out wr hcr).atC hx
      have ht := clsT_any x vi vf vm wr hat
      have HT : Hid (tsum clsT l (k + 1) = tsum clsT l k + clsT x) := tsum_succ clsT hx
      have hm0 := hm.1.1
      have hm1 := hm.2
      have HSM : Hid (∀ (q : Int) (w1 : World), OkR (.returned (.int .i64 q)) (clsT x) → Calls Tryz.prog 58 #[.int .i64 m, .slice (some ⟨w1.heap.size, 0, none⟩) 1 1] (w1.alloc (.cells #[.int .i64 q] 3)) fun e w' => OkR e (tsum clsT l k + clsT x) ∧ w' = w1.alloc (.cells #[.int .i64 q] 3)) := fun q w1 ⟨q', e, hq⟩ => by
        cases e
        exact sum1 m q _ _ w1.heap.size _ (heap_alloc_new _ _) hm hq.1
      have HC : Hid (Ch w wr) := hcr
      have HM : Hid (Ok m (tsum clsT l k)) := hm
      obtain ⟨ai, ci, rfl, _, _⟩ := hat.1.form
      obtain ⟨af, cf, rfl, _, _⟩ := hat.2.1.form
      obtain ⟨am, cm, rfl, _, _⟩ := hat.2.2.form
      clear hx hm hcr hat
      generalize tsum clsT l k = tk at *
      generalize clsT x = tx at *
      by_cases h300 : m ≤ 12000
      · go_wp2_with (first
          | (go_at_call 77; (with_reducible refine ht.mono ?_); clear ht; rintro e w1 ⟨⟨q, rfl, hq⟩, c1⟩; have hsm := HSM.out q w1 ⟨q, rfl, hq⟩)
          | (go_at_call 58; (with_reducible refine hsm.mono ?_); clear hsm; rintro e w2 ⟨⟨m2, rfl, hk2⟩, rfl⟩)
          | fail)
        exact ⟨⟨k + 1, m2, by omega, by go_num, rfl, by rw [HT.out]; exact hk2, (HC.out.trans c1).alloc _⟩, by simp [intOf]; omega⟩
      · have t0 : decide (m ≤ 12000) = false := by simpa using h300
        go_wp2_with fail
        go_ret
        exact ⟨⟨false, rfl, fun h => by cases h⟩, HC.out⟩
    · obtain rfl : k = l.length := by omega
      rw [tsum_all] at hm
      have HM : Hid (Ok m ((l.map clsT).sum)) := hm
      have HC : Hid (Ch w wr) := hcr
      have hm0 := hm.1.1
      clear hm hcr
      by_cases h300 : m ≤ 12000
      · have t0 : decide (m ≤ 12000) = true := by simpa using h300
        go_wp2_with fail
        go_ret
        exact ⟨⟨true, rfl, fun _ => HO.out (by have := HM.out.1.2 h300; omega)⟩, HC.out⟩
      · have t0 : decide (m ≤ 12000) = false := by simpa using h300
        go_wp2_with fail
        go_ret
        exact ⟨⟨false, rfl, fun h => by cases h⟩, HC.out⟩

theorem place_any (k : Int) (n : Nat) (w : World) (hn : 0 < n) (hn2 : n ≤ 100000) :
    Calls Tryz.prog 38 #[.int .i64 k, .int .i64 (n : Int)] w fun e w' => e = .returned (.int .i64 ((pl k n : Nat) : Int)) ∧ w' = w := by
  have h := round_any k n w (by omega) (by omega)
  have e : rnd k n = ((pl k n : Nat) : Int) := by
    have h1 := Int.emod_nonneg k (b := (n : Int)) (by omega)
    unfold pl rnd
    omega
  rw [e] at h
  exact h
/-- The row, from r on, and then what stands ahead of r. -/
def trn {α : Type} (l : List α) (r : Nat) : List α := l.drop r ++ l.take r
theorem trn_perm {α : Type} (l : List α) (r : Nat) : (trn l r).Perm l := by
  have h : (trn l r).Perm (l.take r ++ l.drop r) := List.perm_append_comm
  rwa [List.take_append_drop] at h
theorem trn_len {α : Type} (l : List α) (r : Nat) : (trn l r).length = l.length := (trn_perm l r).length_eq
theorem trn_at {α : Type} (l : List α) {r i : Nat} (hr : r < l.length) (hi : i < l.length) : (trn l r)[i]? = l[pl ((i + r : Nat) : Int) l.length]? := by
  have e : pl ((i + r : Nat) : Int) l.length = (i + r) % l.length := by
    unfold pl rnd
    omega
  rw [e]
  unfold trn
  by_cases h : i < l.length - r
  · rw [List.getElem?_append_left (by rw [List.length_drop]; omega), List.getElem?_drop, Nat.mod_eq_of_lt (by omega), Nat.add_comm]
  · rw [List.getElem?_append_right (by rw [List.length_drop]; omega), List.length_drop, List.getElem?_take_of_lt (by omega), Nat.mod_eq_sub_mod (by omega), Nat.mod_eq_of_lt (by omega)]
    congr 1
    omega
theorem Sl.imp {α : Type} {k : Nat} {R R' : World → List Value → α → Prop} {w : World} {v : Value} {xs : List α} (h : Sl k R w v xs) (hR : ∀ cs a, R w cs a → R' w cs a) : Sl k R' w v xs := by
  obtain ⟨ao, cap, hv, h1, h2, h3⟩ := h
  refine ⟨ao, cap, hv, h1, h2, fun hp => ?_⟩
  obtain ⟨b, off, ha, hc⟩ := h3 hp
  refine ⟨b, off, ha, fun i a hi => ?_⟩
  obtain ⟨cs, hr, hcell⟩ := hc i a hi
  exact ⟨cs, hR cs a hr, hcell⟩
/-- A class as it was told in W. -/
def RCc (W : World) (_ : World) (cs : List Value) (c : Cls) : Prop := RC W cs c
theorem RC.k {w : World} {cs : List Value} {c : Cls} (h : RC w cs c) : cs.length = 7 ∧ ∀ u ∈ cs, u.oneCell' = true := by
  obtain ⟨vi, vf, vm, rfl, h1⟩ := h
  obtain ⟨a1, c1, rfl, _⟩ := h1.1.form
  obtain ⟨a2, c2, rfl, _⟩ := h1.2.1.form
  obtain ⟨a3, c3, rfl, _⟩ := h1.2.2.form
  exact ⟨rfl, by simp [Value.oneCell']⟩
set_option maxHeartbeats 4000000 in
set_option maxRecDepth 100000 in
theorem turned_any (l : List Cls) (k : Int) (v : Value) (w : World) (h : Sl 7 RC w v l) (hl : 0 < l.length) (hl2 : l.length ≤ 12000) :
    Calls Tryz.prog 30 #[v, .int .i64 k] w fun e w' => ∃ u, e = .returned u ∧ Sl 7 RC w' u (trn l (pl k l.length)) ∧ Ch w w' := by
  have hr := pl_lt k l.length hl
  have HR1 : Hid (∀ w, Calls Tryz.prog 38 #[.int .i64 k, .int .i64 (l.length : Int)] w fun e w' => e = .returned (.int .i64 ((pl k l.length : Nat) : Int)) ∧ w' = w) := fun w => place_any k l.length w hl (by omega)
  have HR2 : Hid (∀ (i : Nat) w, Calls Tryz.prog 38 #[.int .i64 ((i : Int) + (pl k l.length : Nat)), .int .i64 (l.length : Int)] w fun e w' => e = .returned (.int .i64 ((pl ((i + pl k l.length : Nat) : Int) l.length : Nat) : Int)) ∧ w' = w) := fun i w => place_any _ l.length w hl (by omega)
  have HS : Hid (∀ w', Ch w w' → Sl 7 RC w' v l) := fun w' k => h.keep (fun cs a ⟨vi, vf, vm, e, q⟩ => ⟨vi, vf, vm, e, q.keep k⟩) k
  have HL2 : Hid (∀ i : Nat, i < l.length → pl ((i : Nat) : Int) l.length < l.length) := fun i _ => pl_lt _ _ hl
  have HPL : Hid (∀ i : Nat, pl ((i + pl k l.length : Nat) : Int) l.length < l.length) := fun i => pl_lt _ _ hl
  have HAT : Hid (∀ i, i < l.length → (trn l (pl k l.length))[i]? = l[pl ((i + pl k l.length : Nat) : Int) l.length]?) := fun i hi => trn_at l hr hi
  have HTL := trn_len l (pl k l.length)
  obtain ⟨ao, cl, rfl, _, _⟩ := h.form
  clear h
  generalize pl k l.length = r at *
  refine Calls.mono (R := fun e w' => ∃ u, e = .returned u ∧ Hid (Ow 7 41 (RCc w) w.heap.size w' u (trn l r) ∧ Ch w w')) ?_ (fun e w' ⟨u, h1, h2⟩ => ⟨u, h1, (h2.out.1.sl).imp (fun cs a ⟨vi, vf, vm, e, q⟩ => ⟨vi, vf, vm, e, q.keep h2.out.2⟩), h2.out.2⟩)
  go_enter Tryz.func30, Tryz.ntmps30
  go_wp2_with fail
  go_loopw [5, 6] (fun o i wr => ∃ j : Nat, j ≤ l.length ∧ i = .int .i64 j ∧ Ow 7 41 (RCc w) w.heap.size wr o ((trn l r).take j) ∧ Ch w wr) (fun _ i _ => l.length - (intOf i).toNat)
  case atStart => exact ⟨0, Nat.zero_le _, rfl, Ow.nil, Ch.refl _⟩
  case round =>
    obtain ⟨j, hj, rfl, ho, hcr⟩ := hrel
    obtain ⟨a5, d5, rfl⟩ := ho.form
    by_cases hlt : j < l.length
    · have hp := HPL.out j
      have hr2 := HR2.out j
      obtain ⟨x, hx⟩ : ∃ x, l[pl ((j + r : Nat) : Int) l.length]? = some x := ⟨_, List.getElem?_eq_getElem hp⟩
      have HT : Hid ((trn l r).take (j + 1) = (trn l r).take j ++ [x]) := by
        have h1 := HAT.out j hlt
        rw [hx] at h1
        obtain ⟨h2, h3⟩ := List.getElem?_eq_some_iff.1 h1
        show _ = _
        rw [List.take_succ_eq_append_getElem h2, h3]
      obtain ⟨b, off, vi, vf, vm, rfl, hat, q0, q1, q2, q3, q4, q5, q6⟩ := (HS.out w (Ch.refl _)).atC hx
      have q0 := cell_keep hcr q0
      have q1 := cell_keep hcr q1
      have q2 := cell_keep hcr q2
      have q3 := cell_keep hcr q3
      have q4 := cell_keep hcr q4
      have q5 := cell_keep hcr q5
      have q6 := cell_keep hcr q6
      have hRC : RC w [.string x.n, .string x.s, .bool x.it, .bool x.ab, vi, vf, vm] x := ⟨_, _, _, rfl, hat⟩
      have hk7 := hRC.k.2
      have HX : Hid (RC w [.string x.n, .string x.s, .bool x.it, .bool x.ab, vi, vf, vm] x) := hRC
      obtain ⟨ai, ci, rfl, _, _⟩ := hat.1.form
      obtain ⟨af, cf, rfl, _, _⟩ := hat.2.1.form
      obtain ⟨am, cm, rfl, _, _⟩ := hat.2.2.form
      have hwrap : IntKind.i64.wrap ((j : Int) + (r : Int)) = (j : Int) + (r : Int) := by rw [IntKind.wrap_i64]; omega
      have hlw : ((trn l r).take j).length ≤ 100000 := by simp; omega
      have hsz := hcr.size
      have HO : Hid (Ow 7 41 (RCc w) w.heap.size wr (.slice a5 ((trn l r).take j).length d5) ((trn l r).take j)) := ho
      have HCR : Hid (Ch w wr) := hcr
      clear hx hat hRC ho hcr
      generalize (trn l r).take j = ab at *
      generalize pl ((j + r : Nat) : Int) l.length = p at *
      go_wp2_with (first
        | (go_at_call 38; (with_reducible refine (HR1.out _).mono ?_); rintro e w2 ⟨rfl, hw⟩; have hw := hw.symm; subst hw)
        | (go_at_call 38; (with_reducible refine (hr2 _).mono ?_); rintro e w3 ⟨rfl, hw⟩; have hw := hw.symm; subst hw)
        | (at_builtin; refine Ow.pushK (B := w.heap.size) (R := RCc w) (Ow.keep (w' := wr.alloc (.cells #[.string x.n, .string x.s, .bool x.it, .bool x.ab, .slice ai x.im.length ci, .slice af x.fs.length cf, .slice am x.me.length cm] 41)) HO.out (fun _ _ x => x) ((Ch.refl wr).alloc _)) (by decide) infC rfl (by decide) Tryz.underlying22 rfl (.tmp 13) (.tmp 26) rfl rfl [.string x.n, .string x.s, .bool x.it, .bool x.ab, .slice ai x.im.length ci, .slice af x.fs.length cf, .slice am x.me.length cm] rfl x (fun _ => HX.out) (fun _ _ _ _ x => x) hk7 wr.heap.size 1 rfl (heap_alloc_new _ _) hlw (by simp; omega) ?_; intro v6 w6 o6 g6 b6)
        | fail)
      exact ⟨⟨j + 1, by omega, by go_num, by rw [HT.out]; exact o6, (HCR.out.alloc _).grown g6 b6⟩, by simp [intOf]; omega⟩
    · obtain rfl : j = l.length := by omega
      have e : (trn l r).take l.length = trn l r := List.take_of_length_le (by omega)
      rw [e] at ho ⊢
      have HO : Hid (Ow 7 41 (RCc w) w.heap.size wr (.slice a5 (trn l r).length d5) (trn l r)) := ho
      have HCR : Hid (Ch w wr) := hcr
      clear ho hcr
      go_wp2_with fail
      go_ret
      exact ⟨_, rfl, HO.out, HCR.out⟩

theorem link_perm {l l' : List Cls} (h : l'.Perm l) (hT : okCs l) : (∃ e n e' n', link l = (none, e, n) ∧ e ≠ 0 ∧ link l' = (none, e', n') ∧ e' ≠ 0) ∨ (link l = (some (prog l), 0, nNone) ∧ link l' = (some (prog l), 0, nNone) ∧ Gd (prog l)) := by
  have key : ∀ {a b : List Cls}, b.Perm a → okCs a → link a = (some (prog a), 0, nNone) → Gd (prog a) → link b = (some (prog a), 0, nNone) := fun {a b} hp ha hl g => by
    have hpp : (prog b).Perm (prog a) := (prog_perm b).trans ((List.Perm.append_left given hp).trans (prog_perm a).symm)
    have he : prog a = prog b := srt_one hpp.symm (prog_srt a) (prog_srt b) g.nd
    have hs : (link b).1.isSome = true := by
      have hs0 : (link a).1.isSome = true := by rw [hl]; rfl
      unfold link at hs0 ⊢
      by_cases h1 : 30 < a.length
      · rw [if_pos h1] at hs0; cases hs0
      · rw [if_neg h1] at hs0
        rw [if_neg (by rw [hp.length_eq]; exact h1)]
        cases h2 : (a.find? fun c => chkE c != 0) with
        | some c => rw [h2] at hs0; cases hs0
        | none =>
          rw [h2] at hs0
          have h2' : (b.find? fun c => chkE c != 0) = none := by
            rw [List.find?_eq_none] at h2 ⊢
            exact fun x hx => h2 x (hp.mem_iff.1 hx)
          rw [h2']
          dsimp only at hs0 ⊢
          cases h3 : brkR (prog a) a [0, 1, 2, 3, 4, 5, 6, 7] with
          | some c => rw [h3] at hs0; cases hs0
          | none =>
            have h3' : brkR (prog b) b [0, 1, 2, 3, 4, 5, 6, 7] = none := by
              unfold brkR at h3 ⊢
              rw [List.findSome?_eq_none_iff] at h3 ⊢
              intro r hr
              have h4 := h3 r hr
              rw [brk_none] at h4 ⊢
              rw [← he]
              exact fun c hc => h4 c (hp.mem_iff.1 hc)
            rw [h3']
            rfl
    rw [link_ok hs, ← he]
  have hT' : okCs l' := fun c hc => hT c (h.mem_iff.1 hc)
  rcases link_two l hT with ⟨e, n, h1, h2⟩ | ⟨h1, g⟩
  · rcases link_two l' hT' with ⟨e', n', h3, h4⟩ | ⟨h3, g'⟩
    · exact Or.inl ⟨e, n, e', n', h1, h2, h3, h4⟩
    · have := key h.symm hT' h3 g'
      rw [h1] at this
      cases this
  · exact Or.inr ⟨h1, key h hT h1 g, g⟩

set_option maxHeartbeats 4000000 in
/-- Two rows of the same names. -/
theorem texts_any (xs : List ByteArray) (v u : Value) (w : World) (hv : Sl 1 RS w v xs) (hu : Sl 1 RS w u xs) :
    Calls Tryz.prog 27 #[v, u] w fun e w' => e = .returned (.bool true) ∧ Ch w w' := by
  have HV : Hid (∀ w', Ch w w' → Sl 1 RS w' v xs ∧ Sl 1 RS w' u xs) := fun w' k => ⟨hv.keepS k, hu.keepS k⟩
  obtain ⟨av, cv, rfl, hx1, hx2⟩ := hv.form
  obtain ⟨au, cu, rfl, hx3, hx4⟩ := hu.form
  clear hv hu
  have hnn : ((xs.length : Int) != (xs.length : Int)) = false := by simp
  go_enter Tryz.func27, Tryz.ntmps27
  go_wp2_with fail
  go_loopw [5] (fun i wr => ∃ k : Nat, k ≤ xs.length ∧ i = .int .i64 k ∧ Ch w wr) (fun i _ => xs.length - (intOf i).toNat)
  case atStart => exact ⟨0, Nat.zero_le _, rfl, Ch.refl _⟩
  case round =>
    obtain ⟨k, hk, rfl, hcr⟩ := hrel
    by_cases hlt : k < xs.length
    · obtain ⟨x, hx⟩ : ∃ x, xs[k]? = some x := ⟨_, List.getElem?_eq_getElem hlt⟩
      obtain ⟨b, off, e1, q0⟩ := (HV.out wr.drew (hcr.trans (Ch.refl _).drew)).1.atS hx
      obtain ⟨b', off', e2, q1⟩ := (HV.out wr.drew (hcr.trans (Ch.refl _).drew)).2.atS hx
      subst e1 e2
      have hq0 : (x.toList != x.toList) = false := by simp
      have HCR : Hid (Ch w wr) := hcr
      clear hx hcr
      go_wp2_with fail
      go_region_held3 (fun w' => w'.cell? ⟨b, off + k, none⟩ = some (.string x) ∧ w'.cell? ⟨b', off' + k, none⟩ = some (.string x)) (first | (with_reducible exact ⟨q0, q1⟩) | fail) (first | fail)
      go_wp2_with fail
      exact ⟨⟨k + 1, by omega, by go_num, HCR.out.drew⟩, by simp [intOf]; omega⟩
    · obtain rfl : k = xs.length := by omega
      go_wp2_with fail
      go_ret
      exact ⟨rfl, hcr⟩
end Go.Proofs.YthmepecmeambmaaGreat
namespace Go.Proofs.YthmepecmeambmaaGreat
open Go.RowKit
set_option linter.unusedVariables false

theorem eqM_refl (m : Mth) : eqM m m = true := by
  have h1 : eqL eqO m.code m.code = true := eqL_refl eqO (fun x => eqI_refl _) _
  have h2 : eqL eqH m.hs m.hs = true := eqL_refl eqH (fun x => by simp [eqH]) _
  unfold eqM
  rw [h1, h2]
  simp
theorem eqC_refl (c : Cls) : eqC c c = true := by
  have h1 : eqL eqT c.im c.im = true := eqL_refl eqT (fun x => by simp [eqT]) _
  have h2 : eqL eqF c.fs c.fs = true := eqL_refl eqF (fun x => by simp [eqF]) _
  have h3 : eqL eqM c.me c.me = true := eqL_refl eqM eqM_refl _
  unfold eqC
  rw [h1, h2, h3]
  simp
set_option maxHeartbeats 32000000 in
set_option maxRecDepth 100000 in
theorem order_walk (HSMA : ∀ (a b : Cls) (vi vf vm ui uf um : Value) (w : World) (ha : ClsAt w a vi vf vm) (hb : ClsAt w b ui uf um), Calls Tryz.prog 32 #[.agg #[.string a.n, .string a.s, .bool a.it, .bool a.ab, vi, vf, vm], .agg #[.string b.n, .string b.s, .bool b.it, .bool b.ab, ui, uf, um]] w fun e w' => e = .returned (.bool (eqC a b)) ∧ Ch w w')
    (l : List Cls) (kk : Int) (v : Value) (w : World) (h : Sl 7 RC w v l) : Calls Tryz.prog 4 #[v, .int .i64 kk] w fun e w' => e = .returned (.bool true) ∧ Ch w w' := by
  have hg := classesL_any l v w h
  have HV : Hid (∀ w', Ch w w' → Sl 7 RC w' v l) := fun w' k => h.keep (fun cs a ⟨vi, vf, vm, e, q⟩ => ⟨vi, vf, vm, e, q.keep k⟩) k
  have HSM0 : Hid (∀ (x : Cls) vi vf vm ui uf um w, ClsAt w x vi vf vm → ClsAt w x ui uf um → Calls Tryz.prog 32 #[.agg #[.string x.n, .string x.s, .bool x.it, .bool x.ab, vi, vf, vm], .agg #[.string x.n, .string x.s, .bool x.it, .bool x.ab, ui, uf, um]] w fun e w' => e = .returned (.bool true) ∧ Ch w w') := fun x vi vf vm ui uf um w ha hb => by
    have := HSMA x x vi vf vm ui uf um w ha hb
    rwa [eqC_refl] at this
  clear HSMA
  obtain ⟨ao, cl, rfl, _, _⟩ := h.form
  clear h
  by_cases hz : l.length = 0
  · have t0 : ((l.length : Int) == 0) = true := by rw [hz]; rfl
    clear hz
    go_enter Tryz.func4, Tryz.ntmps4
    go_wp2_with (first
      | (go_at_call 22; (with_reducible refine hg.mono ?_); clear hg; rintro e w1 ⟨⟨r, rfl, hr⟩, c1⟩; cases r)
      | fail)
    · go_wp2_with (first
        | (go_at_call 23; (with_reducible refine (awake6 _).mono ?_); rintro e w2 ⟨rfl, c2⟩)
        | fail)
      go_ret
      exact ⟨rfl, c1.trans c2⟩
    · go_wp2_with (first
        | (go_at_call 23; (with_reducible refine (awake6 _).mono ?_); rintro e w2 ⟨rfl, c2⟩)
        | fail)
      go_ret
      exact ⟨rfl, c1.trans c2⟩
  have t0 : ((l.length : Int) == 0) = false := by rw [beq_eq_false_iff_ne]; omega
  go_enter Tryz.func4, Tryz.ntmps4
  go_wp2_with (first
    | (go_at_call 22; (with_reducible refine hg.mono ?_); clear hg; rintro e w1 ⟨⟨r, rfl, hr⟩, c1⟩; cases r)
    | fail)
  · go_wp2_with (first
      | (go_at_call 23; (with_reducible refine (awake6 _).mono ?_); rintro e w2 ⟨rfl, c2⟩)
      | fail)
    go_ret
    exact ⟨rfl, c1.trans c2⟩
  · obtain ⟨hT, hln⟩ := hr (by first | rfl | trivial)
    clear hr
    have hc1 := classes_any l _ w1 (HV.out w1 c1) hT
    have HTU : Hid (∀ w', Ch w w' → Calls Tryz.prog 30 #[.slice ao l.length cl, .int .i64 kk] w' fun e w2 => ∃ u, e = .returned u ∧ Sl 7 RC w2 u (trn l (pl kk l.length)) ∧ Ch w' w2) := fun w' k => turned_any l kk _ w' (HV.out w' k) (by omega) hln
    have hpm := trn_perm l (pl kk l.length)
    have hT2 : okCs (trn l (pl kk l.length)) := fun c hc => hT c (hpm.mem_iff.1 hc)
    have HC2 : Hid (∀ w' u, Sl 7 RC w' u (trn l (pl kk l.length)) → Calls Tryz.prog 24 #[u] w' fun e w2 => ∃ v, e = .returned (.tuple #[v, .int .i64 (link (trn l (pl kk l.length))).2.1, .string (link (trn l (pl kk l.length))).2.2]) ∧ Pv w2 (link (trn l (pl kk l.length))).1 v ∧ Ch w' w2) := fun w' u hu => classes_any _ u w' hu hT2
    have hlp := link_perm hpm hT
    have hTP : okCs (prog l) := okc_prog hT
    generalize trn l (pl kk l.length) = l2 at *
    clear hpm hT2 hz
    rcases hlp with ⟨er, nm, er2, nm2, hl, hne, hl2, hne2⟩ | ⟨hl, hl2, g⟩
    · rw [hl] at hc1
      rw [hl2] at HC2
      have t1 : (er == 0) = false := by simpa using hne
      have t2 : (er2 == 0) = false := by simpa using hne2
      go_wp2_with (first
        | (go_at_call 24; (with_reducible refine hc1.mono ?_); clear hc1; rintro e w2 ⟨u, rfl, hu, c2⟩; have hu : u = .pointer none := hu; subst hu; have htu := HTU.out w2 (c1.trans c2))
        | (go_at_call 30; (with_reducible refine htu.mono ?_); clear htu; rintro e w3 ⟨u3, rfl, s3, c3⟩; have hc2 := HC2.out w3 u3 s3; obtain ⟨a3, d3, rfl, _, _⟩ := s3.form)
        | (go_at_call 24; (with_reducible refine hc2.mono ?_); clear hc2; rintro e w4 ⟨u4, rfl, hu4, c4⟩; have hu4 : u4 = .pointer none := hu4; subst hu4)
        | (go_at_call 23; (with_reducible refine (awake6 _).mono ?_); rintro e w5 ⟨rfl, c5⟩)
        | fail)
      go_ret
      exact ⟨rfl, (((c1.trans c2).trans c3).trans c4).trans c5⟩
    · rw [hl] at hc1
      rw [hl2] at HC2
      have HG : Hid (Gd (prog l)) := g
      have HTP : Hid (okCs (prog l)) := hTP
      clear hl hl2 g hTP hT
      generalize prog l = P at *
      have hnl : (nms P).length = P.length := by unfold nms; simp
      go_wp2_with (first
        | (go_at_call 24; (with_reducible refine hc1.mono ?_); clear hc1; rintro e w2 ⟨u, rfl, ⟨gp, bp, rfl, hmp⟩, c2⟩; have htu := HTU.out w2 (c1.trans c2))
        | (go_at_call 30; (with_reducible refine htu.mono ?_); clear htu; rintro e wt ⟨u3, rfl, s3, c3⟩; have hc2 := HC2.out wt u3 s3; obtain ⟨at', dt, rfl, _, _⟩ := s3.form)
        | (go_at_call 24; (with_reducible refine hc2.mono ?_); clear hc2; rintro e w4 ⟨u4, rfl, ⟨gq, bq, rfl, hmq⟩, c4⟩; have hmp4 := hmp.keep (c3.trans c4); have hnp := namesAll_any P gp bp w4 hmp4)
        | (go_at_call 26; (with_reducible refine hnp.mono ?_); clear hnp; rintro e w5 ⟨v5, rfl, o5, c5⟩; have hnq := namesAll_any P gq bq w5 (hmq.keep c5); have hform : ∃ a d, v5 = .slice a P.length d := (by obtain ⟨a, d, h⟩ := o5.form; exact ⟨a, d, by rw [h, hnl]⟩); obtain ⟨a5, d5, rfl⟩ := hform)
        | (go_at_call 26; (with_reducible refine hnq.mono ?_); clear hnq; rintro e w6 ⟨v6, rfl, o6, c6⟩; have hform : ∃ a d, v6 = .slice a P.length d := (by obtain ⟨a, d, h⟩ := o6.form; exact ⟨a, d, by rw [h, hnl]⟩); obtain ⟨a6, d6, rfl⟩ := hform; have htx := texts_any _ _ _ w6 (o5.keepS c6).sl o6.sl)
        | (go_at_call 27; (with_reducible refine htx.mono ?_); clear htx; rintro e w3 ⟨rfl, c7⟩)
        | fail)
      have c57 := (c5.trans c6).trans c7
      have HPp : Hid (∀ w', Ch w3 w' → Pm w' gp bp P) := fun w' k => hmp4.keep (c57.trans k)
      have HPq : Hid (∀ w', Ch w3 w' → Pm w' gq bq P) := fun w' k => hmq.keep (c57.trans k)
      have HN : Hid (∀ w', Ch w3 w' → Ow 1 9 RS w4.heap.size w' (.slice a5 P.length d5) (nms P)) := fun w' k => o5.keepS ((c6.trans c7).trans k)
      have H3 : Hid (Ch w w3) := (((c1.trans c2).trans c3).trans c4).trans c57
      have hPl := hmp.2.1
      clear hmp hmq hmp4 o5 o6 s3 c1 c2 c3 c4 c5 c6 c7 c57 HTU HC2 HV
      go_loopw [12] (fun i wr => ∃ k : Nat, k ≤ P.length ∧ i = .int .i64 k ∧ Ch w3 wr) (fun i _ => P.length - (intOf i).toNat)
      case atStart => exact ⟨0, Nat.zero_le _, rfl, Ch.refl _⟩
      case round =>
        obtain ⟨k, hk, rfl, hcr⟩ := hrel
        by_cases hlt : k < P.length
        · obtain ⟨x, hx⟩ : ∃ x, P[k]? = some x := ⟨_, List.getElem?_eq_getElem hlt⟩
          have hxn : (nms P)[k]? = some x.n := by unfold nms; rw [List.getElem?_map, hx]; rfl
          have hxm := List.mem_of_getElem? hx
          have HXC : Hid (clsOf P x.n = (x, true)) := by show _ = _; unfold clsOf; rw [lk_of HG.out.nd hxm]
          obtain ⟨gn, _, e1, _, _, e2, q0, _⟩ := (HN.out wr hcr).at hxn
          have e2 : _ = [Value.string x.n] := e2
          subst e1 e2
          have HNX : Hid (∀ w', Ch w3 w' → w'.cell? ⟨gn, k, none⟩ = some (.string x.n)) := fun w' kk => by
            obtain ⟨g', cs, e1, _, _, e2, q0, _⟩ := (HN.out w' kk).at hxn
            have e2 : cs = [.string x.n] := e2
            subst e2
            cases e1
            have q0 := q0 0 _ rfl
            have off0 : k * 1 + 0 = k := by omega
            rw [off0] at q0
            exact q0
          have qn := HNX.out wr hcr
          have HSM : Hid (∀ vi vf vm ui uf um w, ClsAt w x vi vf vm → ClsAt w x ui uf um → Calls Tryz.prog 32 #[.agg #[.string x.n, .string x.s, .bool x.it, .bool x.ab, vi, vf, vm], .agg #[.string x.n, .string x.s, .bool x.it, .bool x.ab, ui, uf, um]] w fun e w' => e = .returned (.bool true) ∧ Ch w w') := HSM0.out x
          have HSUp : Hid (∀ w', Ch w3 w' → Calls Tryz.prog 33 #[.pointer (some ⟨gp, 0, none⟩), .string x.n] w' fun e w2 => ∃ v, e = .returned v ∧ Ow 1 9 RS w'.heap.size w2 v (walkN P x.n).1 ∧ Ch w' w2) := fun w' kk => supers_any x.n P gp bp w' (HPp.out w' kk)
          have HTIp : Hid (∀ w', Ch w3 w' → Calls Tryz.prog 34 #[.pointer (some ⟨gp, 0, none⟩), .string x.n] w' fun e w2 => ∃ v, e = .returned v ∧ Ow 1 9 RS w'.heap.size w2 v (ifcE P x.n) ∧ Ch w' w2) := fun w' kk => interfaces_told x.n P gp bp w' (HPp.out w' kk) HG.out.im
          have HSBp : Hid (∀ w', Ch w3 w' → Calls Tryz.prog 35 #[.pointer (some ⟨gp, 0, none⟩), .string x.n] w' fun e w2 => ∃ v, e = .returned v ∧ Ow 1 9 RS w'.heap.size w2 v (subsE P x.n) ∧ Ch w' w2) := fun w' kk => subs_any x.n P gp bp w' (HPp.out w' kk) HG.out.im
          have HCLp : Hid (∀ w', Ch w3 w' → Calls Tryz.prog 31 #[.pointer (some ⟨gp, 0, none⟩), .string x.n] w' fun e w2 => ∃ vi vf vm, e = .returned (.tuple #[.agg #[.string x.n, .string x.s, .bool x.it, .bool x.ab, vi, vf, vm], .bool true]) ∧ OwC w'.heap.size w2 x vi vf vm ∧ Ch w' w2) := fun w' kk => by
            have := class_any x.n P gp bp w' (HPp.out w' kk) HTP.out
            rw [HXC.out] at this
            exact this
          have HSUq : Hid (∀ w', Ch w3 w' → Calls Tryz.prog 33 #[.pointer (some ⟨gq, 0, none⟩), .string x.n] w' fun e w2 => ∃ v, e = .returned v ∧ Ow 1 9 RS w'.heap.size w2 v (walkN P x.n).1 ∧ Ch w' w2) := fun w' kk => supers_any x.n P gq bq w' (HPq.out w' kk)
          have HTIq : Hid (∀ w', Ch w3 w' → Calls Tryz.prog 34 #[.pointer (some ⟨gq, 0, none⟩), .string x.n] w' fun e w2 => ∃ v, e = .returned v ∧ Ow 1 9 RS w'.heap.size w2 v (ifcE P x.n) ∧ Ch w' w2) := fun w' kk => interfaces_told x.n P gq bq w' (HPq.out w' kk) HG.out.im
          have HSBq : Hid (∀ w', Ch w3 w' → Calls Tryz.prog 35 #[.pointer (some ⟨gq, 0, none⟩), .string x.n] w' fun e w2 => ∃ v, e = .returned v ∧ Ow 1 9 RS w'.heap.size w2 v (subsE P x.n) ∧ Ch w' w2) := fun w' kk => subs_any x.n P gq bq w' (HPq.out w' kk) HG.out.im
          have HCLq : Hid (∀ w', Ch w3 w' → Calls Tryz.prog 31 #[.pointer (some ⟨gq, 0, none⟩), .string x.n] w' fun e w2 => ∃ vi vf vm, e = .returned (.tuple #[.agg #[.string x.n, .string x.s, .bool x.it, .bool x.ab, vi, vf, vm], .bool true]) ∧ OwC w'.heap.size w2 x vi vf vm ∧ Ch w' w2) := fun w' kk => by
            have := class_any x.n P gq bq w' (HPq.out w' kk) HTP.out
            rw [HXC.out] at this
            exact this
          generalize (walkN P x.n).1 = W at *
          generalize ifcE P x.n = I at *
          generalize subsE P x.n = U at *
          have hcp := HCLp.out wr hcr
          clear hx hxn hxm q0 hnl
          go_wp2_with (first
            | (go_at_call 31; (with_reducible refine hcp.mono ?_); clear hcp; rintro e wc ⟨vi, vf, vm, rfl, ow, cc⟩; have T1 := Bo.new (hcr.trans cc) #[.string ⟨#[]⟩, .string ⟨#[]⟩, .bool false, .bool false, .slice none 0 0, .slice none 0 0, .slice none 0 0] 41; have OW1 : Hid (OwC wr.heap.size wc x vi vf vm) := ow; obtain ⟨ac3, dc3, rfl⟩ := Ow.form ow.i; obtain ⟨ac4, dc4, rfl⟩ := Ow.form ow.f; obtain ⟨ac5, dc5, rfl⟩ := Ow.form ow.m; clear ow)
            | (refine wpList_store_row rfl 41 (.tmp 13) (.tmp 75) rfl wc.heap.size #[.string x.n, .string x.s, .bool x.it, .bool x.ab, .slice ac3 x.im.length dc3, .slice ac4 x.fs.length dc4, .slice ac5 x.me.length dc5] rfl rfl 41 _ T1.b infoC rfl (one7 _ _ _ _ _ _ _ _ _ _ _ _ _) ?_; have hci := (((Ch.refl wc).alloc (.cells #[.string ⟨#[]⟩, .string ⟨#[]⟩, .bool false, .bool false, .slice none 0 0, .slice none 0 0, .slice none 0 0] 41)).setRow wc.heap.size #[.string x.n, .string x.s, .bool x.it, .bool x.ab, .slice ac3 x.im.length dc3, .slice ac4 x.fs.length dc4, .slice ac5 x.me.length dc5] (Nat.le_refl _)); have T1 := T1.setRow #[.string x.n, .string x.s, .bool x.it, .bool x.ab, .slice ac3 x.im.length dc3, .slice ac4 x.fs.length dc4, .slice ac5 x.me.length dc5]; have hcq := HCLq.out _ T1.ch; have qn1 := HNX.out _ T1.ch)
            | (go_at_call 31; (with_reducible refine hcq.mono ?_); clear hcq; rintro e we ⟨vi, vf, vm, rfl, ow, ce⟩; have T1 := T1.call ce; have T2 := Bo.new T1.ch #[.string ⟨#[]⟩, .string ⟨#[]⟩, .bool false, .bool false, .slice none 0 0, .slice none 0 0, .slice none 0 0] 41; have OW2 : Hid (OwC _ we x vi vf vm) := ow; obtain ⟨ae3, de3, rfl⟩ := Ow.form ow.i; obtain ⟨ae4, de4, rfl⟩ := Ow.form ow.f; obtain ⟨ae5, de5, rfl⟩ := Ow.form ow.m; clear ow)
            | (refine wpList_store_row rfl 41 (.tmp 15) (.tmp 84) rfl we.heap.size #[.string x.n, .string x.s, .bool x.it, .bool x.ab, .slice ae3 x.im.length de3, .slice ae4 x.fs.length de4, .slice ae5 x.me.length de5] rfl rfl 41 _ T2.b infoC rfl (one7 _ _ _ _ _ _ _ _ _ _ _ _ _) ?_; have kc1 := ((hci.trans ce).alloc (.cells #[.string ⟨#[]⟩, .string ⟨#[]⟩, .bool false, .bool false, .slice none 0 0, .slice none 0 0, .slice none 0 0] 41)).setRow we.heap.size #[.string x.n, .string x.s, .bool x.it, .bool x.ab, .slice ae3 x.im.length de3, .slice ae4 x.fs.length de4, .slice ae5 x.me.length de5] (Nat.le_of_lt T1.lt); have hei := (((Ch.refl we).alloc (.cells #[.string ⟨#[]⟩, .string ⟨#[]⟩, .bool false, .bool false, .slice none 0 0, .slice none 0 0, .slice none 0 0] 41)).setRow we.heap.size #[.string x.n, .string x.s, .bool x.it, .bool x.ab, .slice ae3 x.im.length de3, .slice ae4 x.fs.length de4, .slice ae5 x.me.length de5] (Nat.le_refl _)); have T1 := (T1.call ((Ch.refl _).alloc (.cells #[.string ⟨#[]⟩, .string ⟨#[]⟩, .bool false, .bool false, .slice none 0 0, .slice none 0 0, .slice none 0 0] 41))).farRow (g' := we.heap.size) #[.string x.n, .string x.s, .bool x.it, .bool x.ab, .slice ae3 x.im.length de3, .slice ae4 x.fs.length de4, .slice ae5 x.me.length de5] (Nat.ne_of_lt T1.lt) T1.ch.size; have T2 := T2.setRow #[.string x.n, .string x.s, .bool x.it, .bool x.ab, .slice ae3 x.im.length de3, .slice ae4 x.fs.length de4, .slice ae5 x.me.length de5] )
            | fail)
          have T1 := T1.call (Ch.refl _).drew
          have T2 := T2.call (Ch.refl _).drew
          have cls1 := (OW1.out.keep (kc1.trans (Ch.refl _).drew)).at
          have cls2 := (OW2.out.keep (hei.trans (Ch.refl _).drew)).at
          have kS := T1.ch
          have HS : Hid (∀ w', Ch (((we.alloc (.cells #[.string ⟨#[]⟩, .string ⟨#[]⟩, .bool false, .bool false, .slice none 0 0, .slice none 0 0, .slice none 0 0] 41)).setRow we.heap.size #[.string x.n, .string x.s, .bool x.it, .bool x.ab, .slice ae3 x.im.length de3, .slice ae4 x.fs.length de4, .slice ae5 x.me.length de5]).drew) w' → w'.cell? ⟨wc.heap.size, 0, none⟩ = some (.string x.n) ∧ w'.cell? ⟨wc.heap.size, 1, none⟩ = some (.string x.s) ∧ w'.cell? ⟨wc.heap.size, 2, none⟩ = some (.bool x.it) ∧ w'.cell? ⟨wc.heap.size, 3, none⟩ = some (.bool x.ab) ∧ w'.cell? ⟨wc.heap.size, 4, none⟩ = some (.slice ac3 x.im.length dc3) ∧ w'.cell? ⟨wc.heap.size, 5, none⟩ = some (.slice ac4 x.fs.length dc4) ∧ w'.cell? ⟨wc.heap.size, 6, none⟩ = some (.slice ac5 x.me.length dc5) ∧ w'.cell? ⟨we.heap.size, 0, none⟩ = some (.string x.n) ∧ w'.cell? ⟨we.heap.size, 1, none⟩ = some (.string x.s) ∧ w'.cell? ⟨we.heap.size, 2, none⟩ = some (.bool x.it) ∧ w'.cell? ⟨we.heap.size, 3, none⟩ = some (.bool x.ab) ∧ w'.cell? ⟨we.heap.size, 4, none⟩ = some (.slice ae3 x.im.length de3) ∧ w'.cell? ⟨we.heap.size, 5, none⟩ = some (.slice ae4 x.fs.length de4) ∧ w'.cell? ⟨we.heap.size, 6, none⟩ = some (.slice ae5 x.me.length de5) ∧ w'.cell? ⟨gn, k, none⟩ = some (.string x.n)) := fun w' kx => ⟨(T1.call kx).c 0 rfl, (T1.call kx).c 1 rfl, (T1.call kx).c 2 rfl, (T1.call kx).c 3 rfl, (T1.call kx).c 4 rfl, (T1.call kx).c 5 rfl, (T1.call kx).c 6 rfl, (T2.call kx).c 0 rfl, (T2.call kx).c 1 rfl, (T2.call kx).c 2 rfl, (T2.call kx).c 3 rfl, (T2.call kx).c 4 rfl, (T2.call kx).c 5 rfl, (T2.call kx).c 6 rfl, HNX.out w' (T1.ch.trans kx)⟩
          refine wp_region_held_drew (S := fun w' => w'.cell? ⟨wc.heap.size, 0, none⟩ = some (.string x.n) ∧ w'.cell? ⟨wc.heap.size, 1, none⟩ = some (.string x.s) ∧ w'.cell? ⟨wc.heap.size, 2, none⟩ = some (.bool x.it) ∧ w'.cell? ⟨wc.heap.size, 3, none⟩ = some (.bool x.ab) ∧ w'.cell? ⟨wc.heap.size, 4, none⟩ = some (.slice ac3 x.im.length dc3) ∧ w'.cell? ⟨wc.heap.size, 5, none⟩ = some (.slice ac4 x.fs.length dc4) ∧ w'.cell? ⟨wc.heap.size, 6, none⟩ = some (.slice ac5 x.me.length dc5) ∧ w'.cell? ⟨we.heap.size, 0, none⟩ = some (.string x.n) ∧ w'.cell? ⟨we.heap.size, 1, none⟩ = some (.string x.s) ∧ w'.cell? ⟨we.heap.size, 2, none⟩ = some (.bool x.it) ∧ w'.cell? ⟨we.heap.size, 3, none⟩ = some (.bool x.ab) ∧ w'.cell? ⟨we.heap.size, 4, none⟩ = some (.slice ae3 x.im.length de3) ∧ w'.cell? ⟨we.heap.size, 5, none⟩ = some (.slice ae4 x.fs.length de4) ∧ w'.cell? ⟨we.heap.size, 6, none⟩ = some (.slice ae5 x.me.length de5) ∧ w'.cell? ⟨gn, k, none⟩ = some (.string x.n)) (by kernel_rfl) (by exact HS.out _ (Ch.refl _)) (fun hHeld => ?_)
          refine wpAnyH_take (i := 0) (oi := ({ dst := some 86, op := Go.Op.load 41 (Go.Operand.tmp 13), type := 41, pos := "law.go:73", after := #[], guard := none } : Oper)) (v := ?_) rfl (by kernel_rfl) (by kernel_rfl) (by kernel_rfl) (fun _ _ _ h => h) (Or.inl ⟨by rfl, ?_⟩) (by assumption) ?_
          rotate_left
          focus (intro w' hSw; (try dsimp only at hSw); go_split_ands; go_simp; try with_reducible rfl)
          (try simp only [Act.put, List.setIfInBounds_toArray, List.set_cons_zero, List.set_cons_succ])
          refine wpAnyH_take (i := 1) (oi := ({ dst := some 87, op := Go.Op.load 41 (Go.Operand.tmp 15), type := 41, pos := "law.go:73", after := #[], guard := none } : Oper)) (v := ?_) rfl (by kernel_rfl) (by kernel_rfl) (by kernel_rfl) (fun _ _ _ h => h) (Or.inl ⟨by rfl, ?_⟩) (by assumption) ?_
          rotate_left
          focus (intro w' hSw; (try dsimp only at hSw); go_split_ands; go_simp; try with_reducible rfl)
          (try simp only [Act.put, List.setIfInBounds_toArray, List.set_cons_zero, List.set_cons_succ])
          refine wpAnyH_ready (rs := [2]) (by kernel_rfl) (by simp) ?_
          refine AllReadyH.cons (o := ({ dst := some 88, op := Go.Op.call { callee := Go.Callee.value (Go.Operand.func 32), args := #[Go.Operand.tmp 86, Go.Operand.tmp 87], argTypes := #[41, 41] }, type := 4, pos := "law.go:73", after := #[{ on := 0, ground := Go.Ground.data }, { on := 1, ground := Go.Ground.data }], guard := none } : Oper)) rfl (fun K hK => ?_) AllReadyH.nil
          go_simp
          go_at_call 32; (with_reducible refine (HSM.out _ _ _ _ _ _ _ cls1 cls2).mono ?_); rintro e w30 ⟨rfl, k0⟩
          refine hK.out _ _ ?_ (fun hHeld => ?_)
          exact HS.out _ k0
          clear hK K
          (try simp only [Act.put, List.setIfInBounds_toArray, List.set_cons_zero, List.set_cons_succ])
          refine wpAnyH_take (i := 3) (oi := ({ dst := some 89, op := Go.Op.unOp Go.UnOp.not 4 (Go.Operand.tmp 88), type := 4, pos := "law.go:73", after := #[{ on := 2, ground := Go.Ground.data }], guard := none } : Oper)) (v := ?_) rfl (by kernel_rfl) (by kernel_rfl) (by kernel_rfl) (fun _ _ _ h => h) (Or.inl ⟨by rfl, ?_⟩) (by assumption) ?_
          rotate_left
          focus (intro w' hSw; (try dsimp only at hSw); go_split_ands; go_simp; try with_reducible rfl)
          (try simp only [Act.put, List.setIfInBounds_toArray, List.set_cons_zero, List.set_cons_succ])
          refine wpAnyH_take (i := 4) (oi := ({ dst := some 90, op := Go.Op.move (Go.Operand.tmp 89), type := 4, pos := "law.go:73", after := #[{ on := 3, ground := Go.Ground.data }, { on := 2, ground := Go.Ground.chain }], guard := none } : Oper)) (v := ?_) rfl (by kernel_rfl) (by kernel_rfl) (by kernel_rfl) (fun _ _ _ h => h) (Or.inl ⟨by rfl, ?_⟩) (by assumption) ?_
          rotate_left
          focus (intro w' hSw; (try dsimp only at hSw); go_split_ands; go_simp; try with_reducible rfl)
          (try simp only [Act.put, List.setIfInBounds_toArray, List.set_cons_zero, List.set_cons_succ])
          refine wpAnyH_take (i := 5) (oi := ({ dst := some 91, op := Go.Op.move (Go.Operand.tmp 5), type := 25, pos := "law.go:73", after := #[{ on := 4, ground := Go.Ground.guard }], guard := some (4, false) } : Oper)) (v := ?_) rfl (by kernel_rfl) (by kernel_rfl) (by kernel_rfl) (fun _ _ _ h => h) (Or.inl ⟨by rfl, ?_⟩) (by assumption) ?_
          rotate_left
          focus (intro w' hSw; (try dsimp only at hSw); go_split_ands; go_simp; try with_reducible rfl)
          (try simp only [Act.put, List.setIfInBounds_toArray, List.set_cons_zero, List.set_cons_succ])
          refine wpAnyH_take (i := 6) (oi := ({ dst := some 92, op := Go.Op.move (Go.Operand.tmp 11), type := 32, pos := "law.go:73", after := #[{ on := 4, ground := Go.Ground.guard }], guard := some (4, false) } : Oper)) (v := ?_) rfl (by kernel_rfl) (by kernel_rfl) (by kernel_rfl) (fun _ _ _ h => h) (Or.inl ⟨by rfl, ?_⟩) (by assumption) ?_
          rotate_left
          focus (intro w' hSw; (try dsimp only at hSw); go_split_ands; go_simp; try with_reducible rfl)
          (try simp only [Act.put, List.setIfInBounds_toArray, List.set_cons_zero, List.set_cons_succ])
          refine wpAnyH_take (i := 7) (oi := ({ dst := some 93, op := Go.Op.move (Go.Operand.tmp 12), type := 3, pos := "law.go:73", after := #[{ on := 4, ground := Go.Ground.guard }], guard := some (4, false) } : Oper)) (v := ?_) rfl (by kernel_rfl) (by kernel_rfl) (by kernel_rfl) (fun _ _ _ h => h) (Or.inl ⟨by rfl, ?_⟩) (by assumption) ?_
          rotate_left
          focus (intro w' hSw; (try dsimp only at hSw); go_split_ands; go_simp; try with_reducible rfl)
          (try simp only [Act.put, List.setIfInBounds_toArray, List.set_cons_zero, List.set_cons_succ])
          refine wpAnyH_take (i := 8) (oi := ({ dst := some 94, op := Go.Op.indexAddr 32 (Go.Operand.tmp 92) (Go.Operand.tmp 93), type := 0, pos := "law.go:73", after := #[{ on := 6, ground := Go.Ground.data }, { on := 7, ground := Go.Ground.data }, { on := 4, ground := Go.Ground.guard }], guard := some (4, false) } : Oper)) (v := ?_) rfl (by kernel_rfl) (by kernel_rfl) (by kernel_rfl) (fun _ _ _ h => h) (Or.inl ⟨by rfl, ?_⟩) (by assumption) ?_
          rotate_left
          focus (intro w' hSw; (try dsimp only at hSw); go_split_ands; go_simp; try with_reducible rfl)
          (try simp only [Act.put, List.setIfInBounds_toArray, List.set_cons_zero, List.set_cons_succ])
          refine wpAnyH_take (i := 9) (oi := ({ dst := some 95, op := Go.Op.load 9 (Go.Operand.tmp 94), type := 9, pos := "law.go:73", after := #[{ on := 8, ground := Go.Ground.data }, { on := 4, ground := Go.Ground.guard }], guard := some (4, false) } : Oper)) (v := ?_) rfl (by kernel_rfl) (by kernel_rfl) (by kernel_rfl) (fun _ _ _ h => h) (Or.inl ⟨by rfl, ?_⟩) (by assumption) ?_
          rotate_left
          focus (intro w' hSw; (try dsimp only at hSw); go_split_ands; go_simp; try with_reducible rfl)
          (try simp only [Act.put, List.setIfInBounds_toArray, List.set_cons_zero, List.set_cons_succ])
          refine wpAnyH_take (i := 11) (oi := ({ dst := some 97, op := Go.Op.move (Go.Operand.tmp 8), type := 25, pos := "law.go:73", after := #[{ on := 4, ground := Go.Ground.guard }], guard := some (4, false) } : Oper)) (v := ?_) rfl (by kernel_rfl) (by kernel_rfl) (by kernel_rfl) (fun _ _ _ h => h) (Or.inl ⟨by rfl, ?_⟩) (by assumption) ?_
          rotate_left
          focus (intro w' hSw; (try dsimp only at hSw); go_split_ands; go_simp; try with_reducible rfl)
          (try simp only [Act.put, List.setIfInBounds_toArray, List.set_cons_zero, List.set_cons_succ])
          refine wpAnyH_take (i := 12) (oi := ({ dst := some 98, op := Go.Op.move (Go.Operand.tmp 11), type := 32, pos := "law.go:73", after := #[{ on := 4, ground := Go.Ground.guard }], guard := some (4, false) } : Oper)) (v := ?_) rfl (by kernel_rfl) (by kernel_rfl) (by kernel_rfl) (fun _ _ _ h => h) (Or.inl ⟨by rfl, ?_⟩) (by assumption) ?_
          rotate_left
          focus (intro w' hSw; (try dsimp only at hSw); go_split_ands; go_simp; try with_reducible rfl)
          (try simp only [Act.put, List.setIfInBounds_toArray, List.set_cons_zero, List.set_cons_succ])
          refine wpAnyH_take (i := 13) (oi := ({ dst := some 99, op := Go.Op.move (Go.Operand.tmp 12), type := 3, pos := "law.go:73", after := #[{ on := 4, ground := Go.Ground.guard }], guard := some (4, false) } : Oper)) (v := ?_) rfl (by kernel_rfl) (by kernel_rfl) (by kernel_rfl) (fun _ _ _ h => h) (Or.inl ⟨by rfl, ?_⟩) (by assumption) ?_
          rotate_left
          focus (intro w' hSw; (try dsimp only at hSw); go_split_ands; go_simp; try with_reducible rfl)
          (try simp only [Act.put, List.setIfInBounds_toArray, List.set_cons_zero, List.set_cons_succ])
          refine wpAnyH_take (i := 14) (oi := ({ dst := some 100, op := Go.Op.indexAddr 32 (Go.Operand.tmp 98) (Go.Operand.tmp 99), type := 0, pos := "law.go:73", after := #[{ on := 12, ground := Go.Ground.data }, { on := 13, ground := Go.Ground.data }, { on := 4, ground := Go.Ground.guard }], guard := some (4, false) } : Oper)) (v := ?_) rfl (by kernel_rfl) (by kernel_rfl) (by kernel_rfl) (fun _ _ _ h => h) (Or.inl ⟨by rfl, ?_⟩) (by assumption) ?_
          rotate_left
          focus (intro w' hSw; (try dsimp only at hSw); go_split_ands; go_simp; try with_reducible rfl)
          (try simp only [Act.put, List.setIfInBounds_toArray, List.set_cons_zero, List.set_cons_succ])
          refine wpAnyH_take (i := 15) (oi := ({ dst := some 101, op := Go.Op.load 9 (Go.Operand.tmp 100), type := 9, pos := "law.go:73", after := #[{ on := 14, ground := Go.Ground.data }, { on := 4, ground := Go.Ground.guard }], guard := some (4, false) } : Oper)) (v := ?_) rfl (by kernel_rfl) (by kernel_rfl) (by kernel_rfl) (fun _ _ _ h => h) (Or.inl ⟨by rfl, ?_⟩) (by assumption) ?_
          rotate_left
          focus (intro w' hSw; (try dsimp only at hSw); go_split_ands; go_simp; try with_reducible rfl)
          (try simp only [Act.put, List.setIfInBounds_toArray, List.set_cons_zero, List.set_cons_succ])
          refine wpAnyH_ready (rs := [10]) (by kernel_rfl) (by simp) ?_
          refine AllReadyH.cons (o := ({ dst := some 96, op := Go.Op.call { callee := Go.Callee.value (Go.Operand.func 33), args := #[Go.Operand.tmp 91, Go.Operand.tmp 95], argTypes := #[25, 9] }, type := 32, pos := "law.go:73", after := #[{ on := 5, ground := Go.Ground.data }, { on := 9, ground := Go.Ground.data }, { on := 4, ground := Go.Ground.chain }, { on := 4, ground := Go.Ground.guard }], guard := some (4, false) } : Oper)) rfl (fun K hK => ?_) AllReadyH.nil
          go_simp
          go_at_call 33; (with_reducible refine (HSUp.out _ (kS.trans k0)).mono ?_); rintro e w31 ⟨v31, rfl, o31, c31⟩; have k1 := k0.trans c31; obtain ⟨a31, d31, rfl⟩ := o31.form
          refine hK.out _ _ ?_ (fun hHeld => ?_)
          exact HS.out _ k1
          clear hK K
          (try simp only [Act.put, List.setIfInBounds_toArray, List.set_cons_zero, List.set_cons_succ])
          refine wpAnyH_ready (rs := [16]) (by kernel_rfl) (by simp) ?_
          refine AllReadyH.cons (o := ({ dst := some 102, op := Go.Op.call { callee := Go.Callee.value (Go.Operand.func 33), args := #[Go.Operand.tmp 97, Go.Operand.tmp 101], argTypes := #[25, 9] }, type := 32, pos := "law.go:73", after := #[{ on := 11, ground := Go.Ground.data }, { on := 15, ground := Go.Ground.data }, { on := 10, ground := Go.Ground.chain }, { on := 4, ground := Go.Ground.guard }], guard := some (4, false) } : Oper)) rfl (fun K hK => ?_) AllReadyH.nil
          go_simp
          go_at_call 33; (with_reducible refine (HSUq.out _ (kS.trans k1)).mono ?_); rintro e w32 ⟨v32, rfl, o32, c32⟩; have k2 := k1.trans c32; have htx := texts_any _ _ _ w32 (o31.keepS c32).sl o32.sl; obtain ⟨a32, d32, rfl⟩ := o32.form
          refine hK.out _ _ ?_ (fun hHeld => ?_)
          exact HS.out _ k2
          clear hK K
          (try simp only [Act.put, List.setIfInBounds_toArray, List.set_cons_zero, List.set_cons_succ])
          refine wpAnyH_ready (rs := [17]) (by kernel_rfl) (by simp) ?_
          refine AllReadyH.cons (o := ({ dst := some 103, op := Go.Op.call { callee := Go.Callee.value (Go.Operand.func 27), args := #[Go.Operand.tmp 96, Go.Operand.tmp 102], argTypes := #[32, 32] }, type := 4, pos := "law.go:73", after := #[{ on := 10, ground := Go.Ground.data }, { on := 16, ground := Go.Ground.data }, { on := 16, ground := Go.Ground.chain }, { on := 4, ground := Go.Ground.guard }], guard := some (4, false) } : Oper)) rfl (fun K hK => ?_) AllReadyH.nil
          go_simp
          go_at_call 27; (with_reducible refine htx.mono ?_); clear htx; rintro e w33 ⟨rfl, c33⟩; have k3 := k2.trans c33
          refine hK.out _ _ ?_ (fun hHeld => ?_)
          exact HS.out _ k3
          clear hK K
          (try simp only [Act.put, List.setIfInBounds_toArray, List.set_cons_zero, List.set_cons_succ])
          refine wpAnyH_take (i := 18) (oi := ({ dst := some 104, op := Go.Op.unOp Go.UnOp.not 4 (Go.Operand.tmp 103), type := 4, pos := "law.go:73", after := #[{ on := 17, ground := Go.Ground.data }, { on := 4, ground := Go.Ground.guard }], guard := some (4, false) } : Oper)) (v := ?_) rfl (by kernel_rfl) (by kernel_rfl) (by kernel_rfl) (fun _ _ _ h => h) (Or.inl ⟨by rfl, ?_⟩) (by assumption) ?_
          rotate_left
          focus (intro w' hSw; (try dsimp only at hSw); go_split_ands; go_simp; try with_reducible rfl)
          (try simp only [Act.put, List.setIfInBounds_toArray, List.set_cons_zero, List.set_cons_succ])
          refine wpAnyH_take (i := 19) (oi := ({ dst := some 105, op := Go.Op.pick (Go.Operand.tmp 90) (Go.Operand.const (Go.Value.bool true)) (Go.Operand.tmp 104), type := 4, pos := "law.go:73", after := #[{ on := 4, ground := Go.Ground.data }, { on := 18, ground := Go.Ground.data }], guard := none } : Oper)) (v := ?_) rfl (by kernel_rfl) (by kernel_rfl) (by kernel_rfl) (fun _ _ _ h => h) (Or.inl ⟨by rfl, ?_⟩) (by assumption) ?_
          rotate_left
          focus (intro w' hSw; (try dsimp only at hSw); go_split_ands; go_simp; try with_reducible rfl)
          (try simp only [Act.put, List.setIfInBounds_toArray, List.set_cons_zero, List.set_cons_succ])
          refine wpAnyH_take (i := 20) (oi := ({ dst := some 106, op := Go.Op.move (Go.Operand.tmp 105), type := 4, pos := "law.go:73", after := #[{ on := 19, ground := Go.Ground.data }, { on := 17, ground := Go.Ground.chain }], guard := none } : Oper)) (v := ?_) rfl (by kernel_rfl) (by kernel_rfl) (by kernel_rfl) (fun _ _ _ h => h) (Or.inl ⟨by rfl, ?_⟩) (by assumption) ?_
          rotate_left
          focus (intro w' hSw; (try dsimp only at hSw); go_split_ands; go_simp; try with_reducible rfl)
          (try simp only [Act.put, List.setIfInBounds_toArray, List.set_cons_zero, List.set_cons_succ])
          refine wpAnyH_take (i := 21) (oi := ({ dst := some 107, op := Go.Op.move (Go.Operand.tmp 5), type := 25, pos := "law.go:73", after := #[{ on := 20, ground := Go.Ground.guard }], guard := some (20, false) } : Oper)) (v := ?_) rfl (by kernel_rfl) (by kernel_rfl) (by kernel_rfl) (fun _ _ _ h => h) (Or.inl ⟨by rfl, ?_⟩) (by assumption) ?_
          rotate_left
          focus (intro w' hSw; (try dsimp only at hSw); go_split_ands; go_simp; try with_reducible rfl)
          (try simp only [Act.put, List.setIfInBounds_toArray, List.set_cons_zero, List.set_cons_succ])
          refine wpAnyH_take (i := 22) (oi := ({ dst := some 108, op := Go.Op.move (Go.Operand.tmp 11), type := 32, pos := "law.go:73", after := #[{ on := 20, ground := Go.Ground.guard }], guard := some (20, false) } : Oper)) (v := ?_) rfl (by kernel_rfl) (by kernel_rfl) (by kernel_rfl) (fun _ _ _ h => h) (Or.inl ⟨by rfl, ?_⟩) (by assumption) ?_
          rotate_left
          focus (intro w' hSw; (try dsimp only at hSw); go_split_ands; go_simp; try with_reducible rfl)
          (try simp only [Act.put, List.setIfInBounds_toArray, List.set_cons_zero, List.set_cons_succ])
          refine wpAnyH_take (i := 23) (oi := ({ dst := some 109, op := Go.Op.move (Go.Operand.tmp 12), type := 3, pos := "law.go:73", after := #[{ on := 20, ground := Go.Ground.guard }], guard := some (20, false) } : Oper)) (v := ?_) rfl (by kernel_rfl) (by kernel_rfl) (by kernel_rfl) (fun _ _ _ h => h) (Or.inl ⟨by rfl, ?_⟩) (by assumption) ?_
          rotate_left
          focus (intro w' hSw; (try dsimp only at hSw); go_split_ands; go_simp; try with_reducible rfl)
          (try simp only [Act.put, List.setIfInBounds_toArray, List.set_cons_zero, List.set_cons_succ])
          refine wpAnyH_take (i := 24) (oi := ({ dst := some 110, op := Go.Op.indexAddr 32 (Go.Operand.tmp 108) (Go.Operand.tmp 109), type := 0, pos := "law.go:73", after := #[{ on := 22, ground := Go.Ground.data }, { on := 23, ground := Go.Ground.data }, { on := 20, ground := Go.Ground.guard }], guard := some (20, false) } : Oper)) (v := ?_) rfl (by kernel_rfl) (by kernel_rfl) (by kernel_rfl) (fun _ _ _ h => h) (Or.inl ⟨by rfl, ?_⟩) (by assumption) ?_
          rotate_left
          focus (intro w' hSw; (try dsimp only at hSw); go_split_ands; go_simp; try with_reducible rfl)
          (try simp only [Act.put, List.setIfInBounds_toArray, List.set_cons_zero, List.set_cons_succ])
          refine wpAnyH_take (i := 25) (oi := ({ dst := some 111, op := Go.Op.load 9 (Go.Operand.tmp 110), type := 9, pos := "law.go:73", after := #[{ on := 24, ground := Go.Ground.data }, { on := 20, ground := Go.Ground.guard }], guard := some (20, false) } : Oper)) (v := ?_) rfl (by kernel_rfl) (by kernel_rfl) (by kernel_rfl) (fun _ _ _ h => h) (Or.inl ⟨by rfl, ?_⟩) (by assumption) ?_
          rotate_left
          focus (intro w' hSw; (try dsimp only at hSw); go_split_ands; go_simp; try with_reducible rfl)
          (try simp only [Act.put, List.setIfInBounds_toArray, List.set_cons_zero, List.set_cons_succ])
          refine wpAnyH_take (i := 27) (oi := ({ dst := some 113, op := Go.Op.move (Go.Operand.tmp 8), type := 25, pos := "law.go:73", after := #[{ on := 20, ground := Go.Ground.guard }], guard := some (20, false) } : Oper)) (v := ?_) rfl (by kernel_rfl) (by kernel_rfl) (by kernel_rfl) (fun _ _ _ h => h) (Or.inl ⟨by rfl, ?_⟩) (by assumption) ?_
          rotate_left
          focus (intro w' hSw; (try dsimp only at hSw); go_split_ands; go_simp; try with_reducible rfl)
          (try simp only [Act.put, List.setIfInBounds_toArray, List.set_cons_zero, List.set_cons_succ])
          refine wpAnyH_take (i := 28) (oi := ({ dst := some 114, op := Go.Op.move (Go.Operand.tmp 11), type := 32, pos := "law.go:73", after := #[{ on := 20, ground := Go.Ground.guard }], guard := some (20, false) } : Oper)) (v := ?_) rfl (by kernel_rfl) (by kernel_rfl) (by kernel_rfl) (fun _ _ _ h => h) (Or.inl ⟨by rfl, ?_⟩) (by assumption) ?_
          rotate_left
          focus (intro w' hSw; (try dsimp only at hSw); go_split_ands; go_simp; try with_reducible rfl)
          (try simp only [Act.put, List.setIfInBounds_toArray, List.set_cons_zero, List.set_cons_succ])
          refine wpAnyH_take (i := 29) (oi := ({ dst := some 115, op := Go.Op.move (Go.Operand.tmp 12), type := 3, pos := "law.go:73", after := #[{ on := 20, ground := Go.Ground.guard }], guard := some (20, false) } : Oper)) (v := ?_) rfl (by kernel_rfl) (by kernel_rfl) (by kernel_rfl) (fun _ _ _ h => h) (Or.inl ⟨by rfl, ?_⟩) (by assumption) ?_
          rotate_left
          focus (intro w' hSw; (try dsimp only at hSw); go_split_ands; go_simp; try with_reducible rfl)
          (try simp only [Act.put, List.setIfInBounds_toArray, List.set_cons_zero, List.set_cons_succ])
          refine wpAnyH_take (i := 30) (oi := ({ dst := some 116, op := Go.Op.indexAddr 32 (Go.Operand.tmp 114) (Go.Operand.tmp 115), type := 0, pos := "law.go:73", after := #[{ on := 28, ground := Go.Ground.data }, { on := 29, ground := Go.Ground.data }, { on := 20, ground := Go.Ground.guard }], guard := some (20, false) } : Oper)) (v := ?_) rfl (by kernel_rfl) (by kernel_rfl) (by kernel_rfl) (fun _ _ _ h => h) (Or.inl ⟨by rfl, ?_⟩) (by assumption) ?_
          rotate_left
          focus (intro w' hSw; (try dsimp only at hSw); go_split_ands; go_simp; try with_reducible rfl)
          (try simp only [Act.put, List.setIfInBounds_toArray, List.set_cons_zero, List.set_cons_succ])
          refine wpAnyH_take (i := 31) (oi := ({ dst := some 117, op := Go.Op.load 9 (Go.Operand.tmp 116), type := 9, pos := "law.go:73", after := #[{ on := 30, ground := Go.Ground.data }, { on := 20, ground := Go.Ground.guard }], guard := some (20, false) } : Oper)) (v := ?_) rfl (by kernel_rfl) (by kernel_rfl) (by kernel_rfl) (fun _ _ _ h => h) (Or.inl ⟨by rfl, ?_⟩) (by assumption) ?_
          rotate_left
          focus (intro w' hSw; (try dsimp only at hSw); go_split_ands; go_simp; try with_reducible rfl)
          (try simp only [Act.put, List.setIfInBounds_toArray, List.set_cons_zero, List.set_cons_succ])
          refine wpAnyH_ready (rs := [26]) (by kernel_rfl) (by simp) ?_
          refine AllReadyH.cons (o := ({ dst := some 112, op := Go.Op.call { callee := Go.Callee.value (Go.Operand.func 34), args := #[Go.Operand.tmp 107, Go.Operand.tmp 111], argTypes := #[25, 9] }, type := 32, pos := "law.go:73", after := #[{ on := 21, ground := Go.Ground.data }, { on := 25, ground := Go.Ground.data }, { on := 20, ground := Go.Ground.chain }, { on := 20, ground := Go.Ground.guard }], guard := some (20, false) } : Oper)) rfl (fun K hK => ?_) AllReadyH.nil
          go_simp
          go_at_call 34; (with_reducible refine (HTIp.out _ (kS.trans k3)).mono ?_); rintro e w34 ⟨v34, rfl, o34, c34⟩; have k4 := k3.trans c34; obtain ⟨a34, d34, rfl⟩ := o34.form
          refine hK.out _ _ ?_ (fun hHeld => ?_)
          exact HS.out _ k4
          clear hK K
          (try simp only [Act.put, List.setIfInBounds_toArray, List.set_cons_zero, List.set_cons_succ])
          refine wpAnyH_ready (rs := [32]) (by kernel_rfl) (by simp) ?_
          refine AllReadyH.cons (o := ({ dst := some 118, op := Go.Op.call { callee := Go.Callee.value (Go.Operand.func 34), args := #[Go.Operand.tmp 113, Go.Operand.tmp 117], argTypes := #[25, 9] }, type := 32, pos := "law.go:73", after := #[{ on := 27, ground := Go.Ground.data }, { on := 31, ground := Go.Ground.data }, { on := 26, ground := Go.Ground.chain }, { on := 20, ground := Go.Ground.guard }], guard := some (20, false) } : Oper)) rfl (fun K hK => ?_) AllReadyH.nil
          go_simp
          go_at_call 34; (with_reducible refine (HTIq.out _ (kS.trans k4)).mono ?_); rintro e w35 ⟨v35, rfl, o35, c35⟩; have k5 := k4.trans c35; have htx := texts_any _ _ _ w35 (o34.keepS c35).sl o35.sl; obtain ⟨a35, d35, rfl⟩ := o35.form
          refine hK.out _ _ ?_ (fun hHeld => ?_)
          exact HS.out _ k5
          clear hK K
          (try simp only [Act.put, List.setIfInBounds_toArray, List.set_cons_zero, List.set_cons_succ])
          refine wpAnyH_ready (rs := [33]) (by kernel_rfl) (by simp) ?_
          refine AllReadyH.cons (o := ({ dst := some 119, op := Go.Op.call { callee := Go.Callee.value (Go.Operand.func 27), args := #[Go.Operand.tmp 112, Go.Operand.tmp 118], argTypes := #[32, 32] }, type := 4, pos := "law.go:73", after := #[{ on := 26, ground := Go.Ground.data }, { on := 32, ground := Go.Ground.data }, { on := 32, ground := Go.Ground.chain }, { on := 20, ground := Go.Ground.guard }], guard := some (20, false) } : Oper)) rfl (fun K hK => ?_) AllReadyH.nil
          go_simp
          go_at_call 27; (with_reducible refine htx.mono ?_); clear htx; rintro e w36 ⟨rfl, c36⟩; have k6 := k5.trans c36
          refine hK.out _ _ ?_ (fun hHeld => ?_)
          exact HS.out _ k6
          clear hK K
          (try simp only [Act.put, List.setIfInBounds_toArray, List.set_cons_zero, List.set_cons_succ])
          refine wpAnyH_take (i := 34) (oi := ({ dst := some 120, op := Go.Op.unOp Go.UnOp.not 4 (Go.Operand.tmp 119), type := 4, pos := "law.go:73", after := #[{ on := 33, ground := Go.Ground.data }, { on := 20, ground := Go.Ground.guard }], guard := some (20, false) } : Oper)) (v := ?_) rfl (by kernel_rfl) (by kernel_rfl) (by kernel_rfl) (fun _ _ _ h => h) (Or.inl ⟨by rfl, ?_⟩) (by assumption) ?_
          rotate_left
          focus (intro w' hSw; (try dsimp only at hSw); go_split_ands; go_simp; try with_reducible rfl)
          (try simp only [Act.put, List.setIfInBounds_toArray, List.set_cons_zero, List.set_cons_succ])
          refine wpAnyH_take (i := 35) (oi := ({ dst := some 121, op := Go.Op.pick (Go.Operand.tmp 106) (Go.Operand.const (Go.Value.bool true)) (Go.Operand.tmp 120), type := 4, pos := "law.go:73", after := #[{ on := 20, ground := Go.Ground.data }, { on := 34, ground := Go.Ground.data }], guard := none } : Oper)) (v := ?_) rfl (by kernel_rfl) (by kernel_rfl) (by kernel_rfl) (fun _ _ _ h => h) (Or.inl ⟨by rfl, ?_⟩) (by assumption) ?_
          rotate_left
          focus (intro w' hSw; (try dsimp only at hSw); go_split_ands; go_simp; try with_reducible rfl)
          (try simp only [Act.put, List.setIfInBounds_toArray, List.set_cons_zero, List.set_cons_succ])
          refine wpAnyH_take (i := 36) (oi := ({ dst := some 122, op := Go.Op.move (Go.Operand.tmp 121), type := 4, pos := "law.go:73", after := #[{ on := 35, ground := Go.Ground.data }, { on := 33, ground := Go.Ground.chain }], guard := none } : Oper)) (v := ?_) rfl (by kernel_rfl) (by kernel_rfl) (by kernel_rfl) (fun _ _ _ h => h) (Or.inl ⟨by rfl, ?_⟩) (by assumption) ?_
          rotate_left
          focus (intro w' hSw; (try dsimp only at hSw); go_split_ands; go_simp; try with_reducible rfl)
          (try simp only [Act.put, List.setIfInBounds_toArray, List.set_cons_zero, List.set_cons_succ])
          refine wpAnyH_take (i := 37) (oi := ({ dst := some 123, op := Go.Op.move (Go.Operand.tmp 5), type := 25, pos := "law.go:73", after := #[{ on := 36, ground := Go.Ground.guard }], guard := some (36, false) } : Oper)) (v := ?_) rfl (by kernel_rfl) (by kernel_rfl) (by kernel_rfl) (fun _ _ _ h => h) (Or.inl ⟨by rfl, ?_⟩) (by assumption) ?_
          rotate_left
          focus (intro w' hSw; (try dsimp only at hSw); go_split_ands; go_simp; try with_reducible rfl)
          (try simp only [Act.put, List.setIfInBounds_toArray, List.set_cons_zero, List.set_cons_succ])
          refine wpAnyH_take (i := 38) (oi := ({ dst := some 124, op := Go.Op.move (Go.Operand.tmp 11), type := 32, pos := "law.go:73", after := #[{ on := 36, ground := Go.Ground.guard }], guard := some (36, false) } : Oper)) (v := ?_) rfl (by kernel_rfl) (by kernel_rfl) (by kernel_rfl) (fun _ _ _ h => h) (Or.inl ⟨by rfl, ?_⟩) (by assumption) ?_
          rotate_left
          focus (intro w' hSw; (try dsimp only at hSw); go_split_ands; go_simp; try with_reducible rfl)
          (try simp only [Act.put, List.setIfInBounds_toArray, List.set_cons_zero, List.set_cons_succ])
          refine wpAnyH_take (i := 39) (oi := ({ dst := some 125, op := Go.Op.move (Go.Operand.tmp 12), type := 3, pos := "law.go:73", after := #[{ on := 36, ground := Go.Ground.guard }], guard := some (36, false) } : Oper)) (v := ?_) rfl (by kernel_rfl) (by kernel_rfl) (by kernel_rfl) (fun _ _ _ h => h) (Or.inl ⟨by rfl, ?_⟩) (by assumption) ?_
          rotate_left
          focus (intro w' hSw; (try dsimp only at hSw); go_split_ands; go_simp; try with_reducible rfl)
          (try simp only [Act.put, List.setIfInBounds_toArray, List.set_cons_zero, List.set_cons_succ])
          refine wpAnyH_take (i := 40) (oi := ({ dst := some 126, op := Go.Op.indexAddr 32 (Go.Operand.tmp 124) (Go.Operand.tmp 125), type := 0, pos := "law.go:73", after := #[{ on := 38, ground := Go.Ground.data }, { on := 39, ground := Go.Ground.data }, { on := 36, ground := Go.Ground.guard }], guard := some (36, false) } : Oper)) (v := ?_) rfl (by kernel_rfl) (by kernel_rfl) (by kernel_rfl) (fun _ _ _ h => h) (Or.inl ⟨by rfl, ?_⟩) (by assumption) ?_
          rotate_left
          focus (intro w' hSw; (try dsimp only at hSw); go_split_ands; go_simp; try with_reducible rfl)
          (try simp only [Act.put, List.setIfInBounds_toArray, List.set_cons_zero, List.set_cons_succ])
          refine wpAnyH_take (i := 41) (oi := ({ dst := some 127, op := Go.Op.load 9 (Go.Operand.tmp 126), type := 9, pos := "law.go:73", after := #[{ on := 40, ground := Go.Ground.data }, { on := 36, ground := Go.Ground.guard }], guard := some (36, false) } : Oper)) (v := ?_) rfl (by kernel_rfl) (by kernel_rfl) (by kernel_rfl) (fun _ _ _ h => h) (Or.inl ⟨by rfl, ?_⟩) (by assumption) ?_
          rotate_left
          focus (intro w' hSw; (try dsimp only at hSw); go_split_ands; go_simp; try with_reducible rfl)
          (try simp only [Act.put, List.setIfInBounds_toArray, List.set_cons_zero, List.set_cons_succ])
          refine wpAnyH_take (i := 43) (oi := ({ dst := some 129, op := Go.Op.move (Go.Operand.tmp 8), type := 25, pos := "law.go:73", after := #[{ on := 36, ground := Go.Ground.guard }], guard := some (36, false) } : Oper)) (v := ?_) rfl (by kernel_rfl) (by kernel_rfl) (by kernel_rfl) (fun _ _ _ h => h) (Or.inl ⟨by rfl, ?_⟩) (by assumption) ?_
          rotate_left
          focus (intro w' hSw; (try dsimp only at hSw); go_split_ands; go_simp; try with_reducible rfl)
          (try simp only [Act.put, List.setIfInBounds_toArray, List.set_cons_zero, List.set_cons_succ])
          refine wpAnyH_take (i := 44) (oi := ({ dst := some 130, op := Go.Op.move (Go.Operand.tmp 11), type := 32, pos := "law.go:73", after := #[{ on := 36, ground := Go.Ground.guard }], guard := some (36, false) } : Oper)) (v := ?_) rfl (by kernel_rfl) (by kernel_rfl) (by kernel_rfl) (fun _ _ _ h => h) (Or.inl ⟨by rfl, ?_⟩) (by assumption) ?_
          rotate_left
          focus (intro w' hSw; (try dsimp only at hSw); go_split_ands; go_simp; try with_reducible rfl)
          (try simp only [Act.put, List.setIfInBounds_toArray, List.set_cons_zero, List.set_cons_succ])
          refine wpAnyH_take (i := 45) (oi := ({ dst := some 131, op := Go.Op.move (Go.Operand.tmp 12), type := 3, pos := "law.go:73", after := #[{ on := 36, ground := Go.Ground.guard }], guard := some (36, false) } : Oper)) (v := ?_) rfl (by kernel_rfl) (by kernel_rfl) (by kernel_rfl) (fun _ _ _ h => h) (Or.inl ⟨by rfl, ?_⟩) (by assumption) ?_
          rotate_left
          focus (intro w' hSw; (try dsimp only at hSw); go_split_ands; go_simp; try with_reducible rfl)
          (try simp only [Act.put, List.setIfInBounds_toArray, List.set_cons_zero, List.set_cons_succ])
          refine wpAnyH_take (i := 46) (oi := ({ dst := some 132, op := Go.Op.indexAddr 32 (Go.Operand.tmp 130) (Go.Operand.tmp 131), type := 0, pos := "law.go:73", after := #[{ on := 44, ground := Go.Ground.data }, { on := 45, ground := Go.Ground.data }, { on := 36, ground := Go.Ground.guard }], guard := some (36, false) } : Oper)) (v := ?_) rfl (by kernel_rfl) (by kernel_rfl) (by kernel_rfl) (fun _ _ _ h => h) (Or.inl ⟨by rfl, ?_⟩) (by assumption) ?_
          rotate_left
          focus (intro w' hSw; (try dsimp only at hSw); go_split_ands; go_simp; try with_reducible rfl)
          (try simp only [Act.put, List.setIfInBounds_toArray, List.set_cons_zero, List.set_cons_succ])
          refine wpAnyH_take (i := 47) (oi := ({ dst := some 133, op := Go.Op.load 9 (Go.Operand.tmp 132), type := 9, pos := "law.go:73", after := #[{ on := 46, ground := Go.Ground.data }, { on := 36, ground := Go.Ground.guard }], guard := some (36, false) } : Oper)) (v := ?_) rfl (by kernel_rfl) (by kernel_rfl) (by kernel_rfl) (fun _ _ _ h => h) (Or.inl ⟨by rfl, ?_⟩) (by assumption) ?_
          rotate_left
          focus (intro w' hSw; (try dsimp only at hSw); go_split_ands; go_simp; try with_reducible rfl)
          (try simp only [Act.put, List.setIfInBounds_toArray, List.set_cons_zero, List.set_cons_succ])
          refine wpAnyH_ready (rs := [42]) (by kernel_rfl) (by simp) ?_
          refine AllReadyH.cons (o := ({ dst := some 128, op := Go.Op.call { callee := Go.Callee.value (Go.Operand.func 35), args := #[Go.Operand.tmp 123, Go.Operand.tmp 127], argTypes := #[25, 9] }, type := 32, pos := "law.go:73", after := #[{ on := 37, ground := Go.Ground.data }, { on := 41, ground := Go.Ground.data }, { on := 36, ground := Go.Ground.chain }, { on := 36, ground := Go.Ground.guard }], guard := some (36, false) } : Oper)) rfl (fun K hK => ?_) AllReadyH.nil
          go_simp
          go_at_call 35; (with_reducible refine (HSBp.out _ (kS.trans k6)).mono ?_); rintro e w37 ⟨v37, rfl, o37, c37⟩; have k7 := k6.trans c37; obtain ⟨a37, d37, rfl⟩ := o37.form
          refine hK.out _ _ ?_ (fun hHeld => ?_)
          exact HS.out _ k7
          clear hK K
          (try simp only [Act.put, List.setIfInBounds_toArray, List.set_cons_zero, List.set_cons_succ])
          refine wpAnyH_ready (rs := [48]) (by kernel_rfl) (by simp) ?_
          refine AllReadyH.cons (o := ({ dst := some 134, op := Go.Op.call { callee := Go.Callee.value (Go.Operand.func 35), args := #[Go.Operand.tmp 129, Go.Operand.tmp 133], argTypes := #[25, 9] }, type := 32, pos := "law.go:73", after := #[{ on := 43, ground := Go.Ground.data }, { on := 47, ground := Go.Ground.data }, { on := 42, ground := Go.Ground.chain }, { on := 36, ground := Go.Ground.guard }], guard := some (36, false) } : Oper)) rfl (fun K hK => ?_) AllReadyH.nil
          go_simp
          go_at_call 35; (with_reducible refine (HSBq.out _ (kS.trans k7)).mono ?_); rintro e w38 ⟨v38, rfl, o38, c38⟩; have k8 := k7.trans c38; have htx := texts_any _ _ _ w38 (o37.keepS c38).sl o38.sl; obtain ⟨a38, d38, rfl⟩ := o38.form
          refine hK.out _ _ ?_ (fun hHeld => ?_)
          exact HS.out _ k8
          clear hK K
          (try simp only [Act.put, List.setIfInBounds_toArray, List.set_cons_zero, List.set_cons_succ])
          refine wpAnyH_ready (rs := [49]) (by kernel_rfl) (by simp) ?_
          refine AllReadyH.cons (o := ({ dst := some 135, op := Go.Op.call { callee := Go.Callee.value (Go.Operand.func 27), args := #[Go.Operand.tmp 128, Go.Operand.tmp 134], argTypes := #[32, 32] }, type := 4, pos := "law.go:73", after := #[{ on := 42, ground := Go.Ground.data }, { on := 48, ground := Go.Ground.data }, { on := 48, ground := Go.Ground.chain }, { on := 36, ground := Go.Ground.guard }], guard := some (36, false) } : Oper)) rfl (fun K hK => ?_) AllReadyH.nil
          go_simp
          go_at_call 27; (with_reducible refine htx.mono ?_); clear htx; rintro e w39 ⟨rfl, c39⟩; have k9 := k8.trans c39
          refine hK.out _ _ ?_ (fun hHeld => ?_)
          exact HS.out _ k9
          clear hK K
          (try simp only [Act.put, List.setIfInBounds_toArray, List.set_cons_zero, List.set_cons_succ])
          refine wpAnyH_take (i := 50) (oi := ({ dst := some 136, op := Go.Op.unOp Go.UnOp.not 4 (Go.Operand.tmp 135), type := 4, pos := "law.go:73", after := #[{ on := 49, ground := Go.Ground.data }, { on := 36, ground := Go.Ground.guard }], guard := some (36, false) } : Oper)) (v := ?_) rfl (by kernel_rfl) (by kernel_rfl) (by kernel_rfl) (fun _ _ _ h => h) (Or.inl ⟨by rfl, ?_⟩) (by assumption) ?_
          rotate_left
          focus (intro w' hSw; (try dsimp only at hSw); go_split_ands; go_simp; try with_reducible rfl)
          (try simp only [Act.put, List.setIfInBounds_toArray, List.set_cons_zero, List.set_cons_succ])
          refine wpAnyH_take (i := 51) (oi := ({ dst := some 137, op := Go.Op.pick (Go.Operand.tmp 122) (Go.Operand.const (Go.Value.bool true)) (Go.Operand.tmp 136), type := 4, pos := "law.go:73", after := #[{ on := 36, ground := Go.Ground.data }, { on := 50, ground := Go.Ground.data }], guard := none } : Oper)) (v := ?_) rfl (by kernel_rfl) (by kernel_rfl) (by kernel_rfl) (fun _ _ _ h => h) (Or.inl ⟨by rfl, ?_⟩) (by assumption) ?_
          rotate_left
          focus (intro w' hSw; (try dsimp only at hSw); go_split_ands; go_simp; try with_reducible rfl)
          (try simp only [Act.put, List.setIfInBounds_toArray, List.set_cons_zero, List.set_cons_succ])
          refine wpAnyH_done (by kernel_rfl) ?_ _
          go_wp2_with fail
          go_roundw
          case rel => exact ⟨k + 1, by omega, by go_num, kS.trans k9⟩
          case measure => simp [intOf]; omega
        · obtain rfl : k = P.length := by omega
          go_wp2_with (first
            | (go_at_call 23; (with_reducible refine (awake6 _).mono ?_); rintro e w4 ⟨rfl, c4⟩)
            | fail)
          go_ret
          exact ⟨rfl, (H3.out.trans hcr).trans c4⟩
end Go.Proofs.YthmepecmeambmaaGreat
