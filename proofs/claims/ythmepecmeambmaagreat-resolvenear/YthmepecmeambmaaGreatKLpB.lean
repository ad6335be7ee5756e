/- What stands above a class; resolve's Method, isInterface, takes and Call, of a program. -/
/- resolve's Call, of a program. -/
import Derived.Test.YthmepecmeambmaaGreatKLyG
import Derived.Test.YthmepecmeambmaaGreatKLzD
namespace Go.Proofs.YthmepecmeambmaaGreat
open Go.RowKit
set_option linter.unusedVariables false

theorem abv_nms {P : List Cls} (g : Gd P) {c m : ByteArray} (hm : m ∈ abv P c) : m ∈ nms P := by
  unfold abv at hm
  rcases List.mem_append.1 hm with h | h
  · exact walk_in c P m h
  · have hi : isIf P m = true := by
      rcases ifc_mem.1 h with h2 | ⟨h1, h2⟩
      · exact ifs_if g c m h2
      · rw [h1]; exact h2
    unfold isIf at hi
    cases hl : lk P m with
    | none => rw [hl] at hi; cases hi
    | some d => exact nms_lk hl
set_option maxHeartbeats 4000000 in
theorem above_any (n : ByteArray) (P : List Cls) (g b : Nat) (w : World) (h : Pm w g b P) (G : Gd P) :
    Calls Tryz.prog 131 #[.pointer (some ⟨g, 0, none⟩), .string n] w fun e w' => ∃ v, e = .returned v ∧ Ow 1 9 RS w.heap.size w' v (abv P n) ∧ Ch w w' := by
  have h1 := supers_any n P g b w h
  have HI : Hid (∀ w', Ch w w' → Calls Tryz.prog 34 #[.pointer (some ⟨g, 0, none⟩), .string n] w' fun e w2 => ∃ v, e = .returned v ∧ Ow 1 9 RS w'.heap.size w2 v (ifcE P n) ∧ Ch w' w2) := fun w' k => interfaces_told n P g b w' (h.keep k) G.im
  have hl1 : (walkN P n).1.length ≤ 100000 := by
    obtain ⟨e, _, h2, h3, _⟩ := walk_none G n
    have := way_le h2 h3
    have := h.2.1
    omega
  have hl2 : (ifcE P n).length ≤ 100000 := by
    have := ifc_len G n
    have := h.2.1
    omega
  unfold abv
  clear h G
  generalize (walkN P n).1 = W at *
  generalize ifcE P n = I at *
  go_enter Tryz.func131, Tryz.ntmps131
  go_wp2_with (first
    | (go_at_call 33; (with_reducible refine h1.mono ?_); clear h1; rintro e w1 ⟨v1, rfl, o1, c1⟩; have hi := HI.out w1 c1)
    | (go_at_call 34; (with_reducible refine hi.mono ?_); clear hi; rintro e w2 ⟨v2, rfl, o2, c2⟩; have o1 := o1.keepS c2; have c12 := c1.trans c2; have hsz := c12.size; obtain ⟨a1, d1, rfl⟩ := o1.form; obtain ⟨a2, d2, rfl⟩ := o2.form)
    | (at_builtin; refine o1.catS o2 rfl (.tmp 7) (.tmp 10) rfl rfl rfl hl1 hl2 hsz ?_; intro v3 w3 o3 g3 b3; have c3 := c12.grown g3 b3)
    | fail)
  go_ret
  exact ⟨_, rfl, o3, c3⟩

set_option maxHeartbeats 8000000 in
theorem askM_any (x n d : ByteArray) (tp tn td : Nat) (P : List Cls) (g b : Nat) (w : World) (h : Pm w g b P) (hT : okCs P) (hp : w.cell? ⟨tp, 0, none⟩ = some (.pointer (some ⟨g, 0, none⟩))) (hn : w.cell? ⟨tn, 0, none⟩ = some (.string n)) (hd : w.cell? ⟨td, 0, none⟩ = some (.string d)) :
    Calls Tryz.prog 135 #[.string x, .pointer (some ⟨tp, 0, none⟩), .pointer (some ⟨tn, 0, none⟩), .pointer (some ⟨td, 0, none⟩)] w fun e w' => ∃ v m, e = .returned (.tuple #[v, .bool (mth P x n d).isSome]) ∧ Mw w w' v m ∧ (∀ m', mth P x n d = some m' → m = m') ∧ Ch w w' := by
  have R0 := Bo.new (Ch.refl w) #[.string ⟨#[]⟩, .string ⟨#[]⟩, .bool false, .bool false, .int .i64 0, .int .i64 0, .slice none 0 0, .slice none 0 0] 66
  have q1 := cell_keep R0.ch hp
  have q2 := cell_keep R0.ch hn
  have q3 := cell_keep R0.ch hd
  have hm := lkMethod_any x n d P g b _ (h.keep R0.ch) hT
  clear h hp hn hd
  have HR : Hid (∀ m', mth P x n d = some m' → (mth P x n d).getD noM = m') := fun m' h => by rw [h]; rfl
  generalize mth P x n d = o at *
  generalize o.isSome = t at *
  generalize o.getD noM = m at *
  go_enter Tryz.func135, Tryz.ntmps135
  go_wp2_with (first
    | (go_at_call 136; (with_reducible refine hm.mono ?_); clear hm; rintro e w2 ⟨v, rfl, ⟨vc, vh, rfl, oc, oh⟩, c2⟩; have oc := oc.base (B' := w.heap.size) R0.ch.size; have oh := oh.base (B' := w.heap.size) R0.ch.size; obtain ⟨ac, cc, rfl⟩ := oc.form; obtain ⟨ah, chh, rfl⟩ := oh.form; unfold mV; have R := R0.call c2)
    | (refine wpList_store_row rfl 66 (.tmp 5) (.tmp 12) rfl w.heap.size #[.string m.n, .string m.d, .bool m.st, .bool m.ab, .int .i64 m.sk, .int .i64 m.lo, .slice ac m.code.length cc, .slice ah m.hs.length chh] rfl rfl 66 _ R.b infoM rfl (one8 _ _ _ _ _ _ _ _ _ _ _ _) ?_; have R3 := R.setRow #[.string m.n, .string m.d, .bool m.st, .bool m.ab, .int .i64 m.sk, .int .i64 m.lo, .slice ac m.code.length cc, .slice ah m.hs.length chh]; have oc1 := oc.rowI #[.string m.n, .string m.d, .bool m.st, .bool m.ab, .int .i64 m.sk, .int .i64 m.lo, .slice ac m.code.length cc, .slice ah m.hs.length chh] R.b (by decide); have oh1 := oh.rowH #[.string m.n, .string m.d, .bool m.st, .bool m.ab, .int .i64 m.sk, .int .i64 m.lo, .slice ac m.code.length cc, .slice ah m.hs.length chh] R.b (by decide))
    | fail)
  refine bodyPost_ret (results_cell_one rfl _ _ w.heap.size 66 _ (0, 0) _ rfl R3.b Tryz.underlying66 rfl infoM) rfl ?_
  exact ⟨_, _, rfl, ⟨_, _, rfl, oc1, oh1⟩, HR.out, R3.ch⟩
def mthF (P : List Cls) (n d : ByteArray) (c : ByteArray) : Option Mth := mth P c n d
theorem methodP_any (c n d : ByteArray) (P : List Cls) (g b : Nat) (w : World) (h : Pm w g b P) (hT : okCs P) (G : Gd P) :
    Calls Tryz.prog 64 #[.pointer (some ⟨g, 0, none⟩), .string c, .string n, .string d] w fun e w' => ∃ v, e = .returned (.tuple #[.string (fst1 (mthF P n d) (abv P c)).1, v, .int .i64 (er (fst1 (mthF P n d) (abv P c)).2)]) ∧ Mw w w' v ((fst1 (mthF P n d) (abv P c)).2.getD noM) ∧ Ch w w' :=
  method_gen c n d (some ⟨g, 0, none⟩) (abv P c) (mthF P n d) w (fun x hx => nms_sz hT x (abv_nms G hx))
    (fun w' k => (above_any c P g b w' (h.keep k) G).mono (fun e w2 ⟨v, h1, h2, h3⟩ => ⟨v, h1, h2.sl, h3⟩))
    (fun w' tp tn td k k1 k2 k3 x _ => askM_any x n d tp tn td P g b w' (h.keep k) hT k1 k2 k3)
/-- Is it an interface? -/
def isIc (P : List Cls) (c : ByteArray) : Bool := hasN (ifcE P c) c
theorem isI_any (c : ByteArray) (P : List Cls) (g b : Nat) (w : World) (h : Pm w g b P) (hI : imIn P) :
    Calls Tryz.prog 202 #[.pointer (some ⟨g, 0, none⟩), .string c] w fun e w' => e = .returned (.bool (isIc P c)) ∧ Ch w w' := by
  have h1 := interfaces_told c P g b w h hI
  have HC : Hid (∀ w' v, Sl 1 RS w' v (ifcE P c) → Calls Tryz.prog 100 #[v, .string c] w' fun e w2 => e = .returned (.bool (hasN (ifcE P c) c)) ∧ w2 = w') := fun w' v hv => containsS_any c _ v w' hv
  unfold isIc
  clear h hI
  generalize hasN (ifcE P c) c = r at *
  go_enter Tryz.func202, Tryz.ntmps202
  go_wp2_with (first
    | (go_at_call 34; (with_reducible refine h1.mono ?_); clear h1; rintro e w1 ⟨v1, rfl, o1, c1⟩; have hc := HC.out w1 v1 o1.sl; obtain ⟨a1, d1, rfl⟩ := o1.form)
    | (go_at_call 100; (with_reducible refine hc.mono ?_); clear hc; rintro e w2 ⟨rfl, hw⟩; have hw := hw.symm; subst hw)
    | fail)
  go_ret
  exact ⟨rfl, c1⟩
theorem isI_if {P : List Cls} (g : Gd P) (c : ByteArray) : isIc P c = isIf P c := by
  unfold isIc
  cases h : isIf P c with
  | true => exact hasN_iff.2 (ifc_mem.2 (Or.inr ⟨rfl, h⟩))
  | false =>
    refine hasN_no.2 fun hm => ?_
    rcases ifc_mem.1 hm with h2 | ⟨_, h2⟩
    · rw [ifs_if g c c h2] at h; cases h
    · rw [h2] at h; cases h
/-- May a call of that operation, of class c, be one of m, whose owner is o? -/
def tkB (i : Bool) (op : Int) (c o : ByteArray) (m : Mth) : Bool :=
  if op = 32 then m.st else if op = 33 then !m.st && (!m.ab && (!nq m.n nInit || nq o c)) else if op = 34 then !m.st && !i else if op = 35 then !m.st && i else false
set_option maxHeartbeats 16000000 in
set_option maxRecDepth 100000 in
theorem takes_any (x : Ins) (o : ByteArray) (m : Mth) (vc vh : Value) (P : List Cls) (g b : Nat) (w : World) (h : Pm w g b P) (hI : imIn P) (h1 : Sl 6 RI w vc m.code) (h2 : Sl 4 RH w vh m.hs) :
    Calls Tryz.prog 137 #[.pointer (some ⟨g, 0, none⟩), x.v, .string o, mV vc vh m] w fun e w' => e = .returned (.bool (tkB (isIc P x.c) x.op x.c o m)) ∧ Ch w w' := by
  obtain ⟨ac, cc, rfl, _, _⟩ := h1.form
  obtain ⟨ah, chh, rfl, _, _⟩ := h2.form
  have HII : Hid (∀ w', Ch w w' → Calls Tryz.prog 202 #[.pointer (some ⟨g, 0, none⟩), .string x.c] w' fun e w2 => e = .returned (.bool (isIc P x.c)) ∧ Ch w' w2) := fun w' k => isI_any x.c P g b w' (h.keep k) hI
  clear h1 h2 h hI
  unfold Ins.v mV
  generalize isIc P x.c = ii at *
  generalize x.op = a1 at *
  generalize x.a = a2 at *
  generalize x.b = a3 at *
  generalize x.c = a4 at *
  generalize x.n = a5 at *
  generalize x.d = a6 at *
  obtain ⟨mn, md, st, ab, sk, lo, code, hs⟩ := m
  unfold tkB
  dsimp only at *
  have hq1 : (mn.toList == [60, 105, 110, 105, 116, 62]) = nq mn nInit := by rw [bl_toList]; rfl
  have hq2 : (o.toList == a4.toList) = nq o a4 := toList_nq _ _
  generalize nq mn nInit = r at *
  generalize nq o a4 = s at *
  have hq3 : (mn.toList != [60, 105, 110, 105, 116, 62]) = !r := by rw [← hq1]; rfl
  have B1 := Bo.new (Ch.refl w) #[.int .i64 a1, .int .i64 a2, .int .i64 a3, .string a4, .string a5, .string a6] 62
  have B2 := Bo.new B1.ch #[.string mn, .string md, .bool st, .bool ab, .int .i64 sk, .int .i64 lo, .slice ac code.length cc, .slice ah hs.length chh] 66
  have B1 := B1.call ((Ch.refl _).alloc (.cells #[.string mn, .string md, .bool st, .bool ab, .int .i64 sk, .int .i64 lo, .slice ac code.length cc, .slice ah hs.length chh] 66))
  have e1 : (w.alloc (.cells #[.int .i64 a1, .int .i64 a2, .int .i64 a3, .string a4, .string a5, .string a6] 62)).heap.size = w.heap.size + 1 := by simp
  rw [e1] at B2
  clear e1
  have q0 := B1.c 0 rfl
  have q3 := B1.c 3 rfl
  have m0 := B2.c 0 rfl
  have m2 := B2.c 2 rfl
  have m3 := B2.c 3 rfl
  have hii := HII.out _ B2.ch
  by_cases h32 : a1 = 32
  · subst h32
    rw [if_pos rfl]
    cases st <;>
    · go_enter Tryz.func137, Tryz.ntmps137
      go_wp2_with (first
        | (go_at_call 202; (with_reducible refine hii.mono ?_); clear hii; rintro e w2 ⟨rfl, c2⟩)
        | fail)
      go_ret
      exact ⟨rfl, by first | exact B2.ch | exact B2.ch.trans c2⟩
  rw [if_neg h32]
  have u32 : (a1 == 32) = false := by simpa using h32
  by_cases h33 : a1 = 33
  · subst h33
    rw [if_pos rfl]
    cases st <;> cases ab <;> cases r <;> cases s <;>
    · try rw [Bool.not_true] at hq3
      try rw [Bool.not_false] at hq3
      go_enter Tryz.func137, Tryz.ntmps137
      go_wp2_with (first
        | (go_at_call 202; (with_reducible refine hii.mono ?_); clear hii; rintro e w2 ⟨rfl, c2⟩)
        | fail)
      go_ret
      exact ⟨rfl, by first | exact B2.ch | exact B2.ch.trans c2⟩
  rw [if_neg h33]
  have u33 : (a1 == 33) = false := by simpa using h33
  by_cases h34 : a1 = 34
  · subst h34
    rw [if_pos rfl]
    cases st <;> cases ii <;>
    · go_enter Tryz.func137, Tryz.ntmps137
      go_wp2_with (first
        | (go_at_call 202; (with_reducible refine hii.mono ?_); clear hii; rintro e w2 ⟨rfl, c2⟩)
        | fail)
      go_ret
      exact ⟨rfl, by first | exact B2.ch | exact B2.ch.trans c2⟩
  rw [if_neg h34]
  have u34 : (a1 == 34) = false := by simpa using h34
  by_cases h35 : a1 = 35
  · subst h35
    rw [if_pos rfl]
    cases st <;> cases ii <;>
    · go_enter Tryz.func137, Tryz.ntmps137
      go_wp2_with (first
        | (go_at_call 202; (with_reducible refine hii.mono ?_); clear hii; rintro e w2 ⟨rfl, c2⟩)
        | fail)
      go_ret
      exact ⟨rfl, by first | exact B2.ch | exact B2.ch.trans c2⟩
  rw [if_neg h35]
  have u35 : (a1 == 35) = false := by simpa using h35
  go_enter Tryz.func137, Tryz.ntmps137
  go_wp2_with (first
    | (go_at_call 202; (with_reducible refine hii.mono ?_); clear hii; rintro e w2 ⟨rfl, c2⟩)
    | fail)
  go_ret
  exact ⟨rfl, by first | exact B2.ch | exact B2.ch.trans c2⟩
end Go.Proofs.YthmepecmeambmaaGreat
namespace Go.Proofs.YthmepecmeambmaaGreat
open Go.RowKit
set_option linter.unusedVariables false

/-- What a call's names lead to. -/
def resQ (P : List Cls) (x : Ins) : ByteArray × Option Mth := match fst1 (mthF P x.n x.d) (abv P x.c) with
  | (o, some m) => if tkB (isIc P x.c) x.op x.c o m then (o, some m) else (⟨#[]⟩, none)
  | (_, none) => (⟨#[]⟩, none)
set_option maxHeartbeats 16000000 in
set_option maxRecDepth 100000 in
theorem call_any (x : Ins) (P : List Cls) (g b : Nat) (w : World) (h : Pm w g b P) (hT : okCs P) (G : Gd P) : Calls Tryz.prog 67 #[.pointer (some ⟨g, 0, none⟩), x.v] w fun e w' => ∃ v, e = .returned (.tuple #[.string (resQ P x).1, v, .int .i64 (er (resQ P x).2)]) ∧ Mw w w' v ((resQ P x).2.getD noM) ∧ Ch w w' := by
  have HT : Hid (∀ w' o m vc vh, Ch w w' → Sl 6 RI w' vc m.code → Sl 4 RH w' vh m.hs → Calls Tryz.prog 137 #[.pointer (some ⟨g, 0, none⟩), x.v, .string o, mV vc vh m] w' fun e w2 => e = .returned (.bool (tkB (isIc P x.c) x.op x.c o m)) ∧ Ch w' w2) := fun w' o m vc vh k s1 s2 => takes_any x o m vc vh P g b w' (h.keep k) G.im s1 s2
  have HM : Hid (∀ w', Ch w w' → Calls Tryz.prog 64 #[.pointer (some ⟨g, 0, none⟩), .string x.c, .string x.n, .string x.d] w' fun e w2 => ∃ v, e = .returned (.tuple #[.string (fst1 (mthF P x.n x.d) (abv P x.c)).1, v, .int .i64 (er (fst1 (mthF P x.n x.d) (abv P x.c)).2)]) ∧ Mw w' w2 v ((fst1 (mthF P x.n x.d) (abv P x.c)).2.getD noM) ∧ Ch w' w2) := fun w' k => methodP_any x.c x.n x.d P g b w' (h.keep k) hT G
  have HN : Hid ((fst1 (mthF P x.n x.d) (abv P x.c)).2 = none → (fst1 (mthF P x.n x.d) (abv P x.c)).1 = ⟨#[]⟩) := fst1_none _ _
  unfold resQ
  clear h hT G
  generalize fst1 (mthF P x.n x.d) (abv P x.c) = res at *
  unfold Ins.v at *
  generalize isIc P x.c = ii at *
  generalize x.op = a1 at *
  generalize x.a = a2 at *
  generalize x.b = a3 at *
  generalize x.c = a4 at *
  generalize x.n = a5 at *
  generalize x.d = a6 at *
  have B1 := Bo.new (Ch.refl w) #[.int .i64 a1, .int .i64 a2, .int .i64 a3, .string a4, .string a5, .string a6] 62
  have R := Bo.new B1.ch #[.string ⟨#[]⟩, .string ⟨#[]⟩, .bool false, .bool false, .int .i64 0, .int .i64 0, .slice none 0 0, .slice none 0 0] 66
  have B1 := B1.call ((Ch.refl _).alloc (.cells #[.string ⟨#[]⟩, .string ⟨#[]⟩, .bool false, .bool false, .int .i64 0, .int .i64 0, .slice none 0 0, .slice none 0 0] 66))
  have e2 : (w.alloc (.cells #[.int .i64 a1, .int .i64 a2, .int .i64 a3, .string a4, .string a5, .string a6] 62)).heap.size = w.heap.size + 1 := by simp
  rw [e2] at R
  clear e2
  have q3 := B1.c 3 rfl
  have q4 := B1.c 4 rfl
  have q5 := B1.c 5 rfl
  have hf := HM.out _ R.ch
  clear HM
  obtain ⟨ow, om⟩ := res
  cases om with
  | none =>
    have hno := HN.out rfl
    dsimp only at *
    have hno : ow = ⟨#[]⟩ := hno
    subst hno
    generalize hm : Option.getD none noM = m at hf ⊢
    unfold er at *
    go_enter Tryz.func67, Tryz.ntmps67
    go_wp2_with (first
      | (go_at_call 64; (with_reducible refine hf.mono ?_); clear hf; rintro e w3 ⟨v3, rfl, ⟨vc, vh, rfl, oc, oh⟩, c3⟩; have R3 := R.call c3; obtain ⟨ac, cc, rfl⟩ := oc.form; obtain ⟨ah, chh, rfl⟩ := oh.form; unfold mV)
      | (refine wpList_store_row rfl 66 (.tmp 5) (.tmp 17) rfl (w.heap.size + 1) #[.string m.n, .string m.d, .bool m.st, .bool m.ab, .int .i64 m.sk, .int .i64 m.lo, .slice ac m.code.length cc, .slice ah m.hs.length chh] rfl rfl 66 _ R3.b infoM rfl (one8 _ _ _ _ _ _ _ _ _ _ _ _) ?_; have R4 := R3.setRow #[.string m.n, .string m.d, .bool m.st, .bool m.ab, .int .i64 m.sk, .int .i64 m.lo, .slice ac m.code.length cc, .slice ah m.hs.length chh])
      | (refine wpList_store_row rfl 66 (.tmp 5) (.tmp 29) rfl (w.heap.size + 1) #[.string ⟨#[]⟩, .string ⟨#[]⟩, .bool false, .bool false, .int .i64 0, .int .i64 0, .slice none 0 0, .slice none 0 0] rfl rfl 66 _ R4.b infoM rfl (one8 _ _ _ _ _ _ _ _ _ _ _ _) ?_; have R5 := R4.setRow #[.string ⟨#[]⟩, .string ⟨#[]⟩, .bool false, .bool false, .int .i64 0, .int .i64 0, .slice none 0 0, .slice none 0 0])
      | fail)
    refine bodyPost_ret (results_cells rfl _ _ (w.heap.size + 1) 66 _ (0, 0) _ rfl R5.b Tryz.underlying66 rfl infoM) rfl ?_
    exact ⟨_, rfl, hm ▸ ⟨_, _, rfl, Ow.nil, Ow.nil⟩, R5.ch⟩
  | some m =>
    dsimp only at *
    have HK : Hid (∀ w' vc vh, Ch w w' → Sl 6 RI w' vc m.code → Sl 4 RH w' vh m.hs → Calls Tryz.prog 137 #[.pointer (some ⟨g, 0, none⟩), .agg #[.int .i64 a1, .int .i64 a2, .int .i64 a3, .string a4, .string a5, .string a6], .string ow, mV vc vh m] w' fun e w2 => e = .returned (.bool (tkB ii a1 a4 ow m)) ∧ Ch w' w2) := fun w' vc vh k s1 s2 => HT.out w' ow m vc vh k s1 s2
    clear HT HN
    generalize tkB ii a1 a4 ow m = tk at *
    unfold er at *
    have e0 : (some m).getD noM = m := rfl
    rw [e0] at hf
    clear e0
    cases tk with
    | false =>
      go_enter Tryz.func67, Tryz.ntmps67
      go_wp2_with (first
        | (go_at_call 64; (with_reducible refine hf.mono ?_); clear hf; rintro e w3 ⟨v3, rfl, ⟨vc, vh, rfl, oc, oh⟩, c3⟩; have R3 := R.call c3; have B3 := B1.call c3; have oc := oc.base (B' := w.heap.size) R.ch.size; have oh := oh.base (B' := w.heap.size) R.ch.size; obtain ⟨ac, cc, rfl⟩ := oc.form; obtain ⟨ah, chh, rfl⟩ := oh.form; unfold mV)
        | (refine wpList_store_row rfl 66 (.tmp 5) (.tmp 17) rfl (w.heap.size + 1) #[.string m.n, .string m.d, .bool m.st, .bool m.ab, .int .i64 m.sk, .int .i64 m.lo, .slice ac m.code.length cc, .slice ah m.hs.length chh] rfl rfl 66 _ R3.b infoM rfl (one8 _ _ _ _ _ _ _ _ _ _ _ _) ?_; have R4 := R3.setRow #[.string m.n, .string m.d, .bool m.st, .bool m.ab, .int .i64 m.sk, .int .i64 m.lo, .slice ac m.code.length cc, .slice ah m.hs.length chh]; have B4 := B3.farRow (g' := w.heap.size + 1) #[.string m.n, .string m.d, .bool m.st, .bool m.ab, .int .i64 m.sk, .int .i64 m.lo, .slice ac m.code.length cc, .slice ah m.hs.length chh] (by omega) (by omega); have oc4 := oc.rowI #[.string m.n, .string m.d, .bool m.st, .bool m.ab, .int .i64 m.sk, .int .i64 m.lo, .slice ac m.code.length cc, .slice ah m.hs.length chh] R3.b (by decide); have oh4 := oh.rowH #[.string m.n, .string m.d, .bool m.st, .bool m.ab, .int .i64 m.sk, .int .i64 m.lo, .slice ac m.code.length cc, .slice ah m.hs.length chh] R3.b (by decide); clear q3 q4 q5; have q0 := B4.c 0 rfl; have q1 := B4.c 1 rfl; have q2 := B4.c 2 rfl; have q3 := B4.c 3 rfl; have q4 := B4.c 4 rfl; have q5 := B4.c 5 rfl; have z0 := R4.c 0 rfl; have z1 := R4.c 1 rfl; have z2 := R4.c 2 rfl; have z3 := R4.c 3 rfl; have z4 := R4.c 4 rfl; have z5 := R4.c 5 rfl; have z6 := R4.c 6 rfl; have z7 := R4.c 7 rfl; have hk := HK.out _ _ _ R4.ch oc4.sl oh4.sl; unfold mV at hk)
        | (go_at_call 137; (with_reducible refine hk.mono ?_); clear hk; rintro e w5 ⟨rfl, c5⟩; have R5 := R4.call c5)
        | (refine wpList_store_row rfl 66 (.tmp 5) (.tmp 29) rfl (w.heap.size + 1) #[.string ⟨#[]⟩, .string ⟨#[]⟩, .bool false, .bool false, .int .i64 0, .int .i64 0, .slice none 0 0, .slice none 0 0] rfl rfl 66 _ R5.b infoM rfl (one8 _ _ _ _ _ _ _ _ _ _ _ _) ?_; have R6 := R5.setRow #[.string ⟨#[]⟩, .string ⟨#[]⟩, .bool false, .bool false, .int .i64 0, .int .i64 0, .slice none 0 0, .slice none 0 0])
        | fail)
      refine bodyPost_ret (results_cells rfl _ _ (w.heap.size + 1) 66 _ (0, 0) _ rfl R6.b Tryz.underlying66 rfl infoM) rfl ?_
      exact ⟨_, rfl, ⟨_, _, rfl, Ow.nil, Ow.nil⟩, R6.ch⟩
    | true =>
      go_enter Tryz.func67, Tryz.ntmps67
      go_wp2_with (first
        | (go_at_call 64; (with_reducible refine hf.mono ?_); clear hf; rintro e w3 ⟨v3, rfl, ⟨vc, vh, rfl, oc, oh⟩, c3⟩; have R3 := R.call c3; have B3 := B1.call c3; have oc := oc.base (B' := w.heap.size) R.ch.size; have oh := oh.base (B' := w.heap.size) R.ch.size; obtain ⟨ac, cc, rfl⟩ := oc.form; obtain ⟨ah, chh, rfl⟩ := oh.form; unfold mV)
        | (refine wpList_store_row rfl 66 (.tmp 5) (.tmp 17) rfl (w.heap.size + 1) #[.string m.n, .string m.d, .bool m.st, .bool m.ab, .int .i64 m.sk, .int .i64 m.lo, .slice ac m.code.length cc, .slice ah m.hs.length chh] rfl rfl 66 _ R3.b infoM rfl (one8 _ _ _ _ _ _ _ _ _ _ _ _) ?_; have R4 := R3.setRow #[.string m.n, .string m.d, .bool m.st, .bool m.ab, .int .i64 m.sk, .int .i64 m.lo, .slice ac m.code.length cc, .slice ah m.hs.length chh]; have B4 := B3.farRow (g' := w.heap.size + 1) #[.string m.n, .string m.d, .bool m.st, .bool m.ab, .int .i64 m.sk, .int .i64 m.lo, .slice ac m.code.length cc, .slice ah m.hs.length chh] (by omega) (by omega); have oc4 := oc.rowI #[.string m.n, .string m.d, .bool m.st, .bool m.ab, .int .i64 m.sk, .int .i64 m.lo, .slice ac m.code.length cc, .slice ah m.hs.length chh] R3.b (by decide); have oh4 := oh.rowH #[.string m.n, .string m.d, .bool m.st, .bool m.ab, .int .i64 m.sk, .int .i64 m.lo, .slice ac m.code.length cc, .slice ah m.hs.length chh] R3.b (by decide); clear q3 q4 q5; have q0 := B4.c 0 rfl; have q1 := B4.c 1 rfl; have q2 := B4.c 2 rfl; have q3 := B4.c 3 rfl; have q4 := B4.c 4 rfl; have q5 := B4.c 5 rfl; have z0 := R4.c 0 rfl; have z1 := R4.c 1 rfl; have z2 := R4.c 2 rfl; have z3 := R4.c 3 rfl; have z4 := R4.c 4 rfl; have z5 := R4.c 5 rfl; have z6 := R4.c 6 rfl; have z7 := R4.c 7 rfl; have hk := HK.out _ _ _ R4.ch oc4.sl oh4.sl; unfold mV at hk)
        | (go_at_call 137; (with_reducible refine hk.mono ?_); clear hk; rintro e w5 ⟨rfl, c5⟩; have R5 := R4.call c5)
        | fail)
      have R6 := R5.call (Ch.refl _).drew
      refine wp_region_held_drew (S := fun w' => w'.cell? ⟨w.heap.size + 1, 0, none⟩ = some (.string m.n) ∧ w'.cell? ⟨w.heap.size + 1, 1, none⟩ = some (.string m.d) ∧ w'.cell? ⟨w.heap.size + 1, 2, none⟩ = some (.bool m.st) ∧ w'.cell? ⟨w.heap.size + 1, 3, none⟩ = some (.bool m.ab) ∧ w'.cell? ⟨w.heap.size + 1, 4, none⟩ = some (.int .i64 m.sk) ∧ w'.cell? ⟨w.heap.size + 1, 5, none⟩ = some (.int .i64 m.lo) ∧ w'.cell? ⟨w.heap.size + 1, 6, none⟩ = some (.slice ac m.code.length cc) ∧ w'.cell? ⟨w.heap.size + 1, 7, none⟩ = some (.slice ah m.hs.length chh)) (by kernel_rfl) (by exact ⟨(R6).c 0 rfl, (R6).c 1 rfl, (R6).c 2 rfl, (R6).c 3 rfl, (R6).c 4 rfl, (R6).c 5 rfl, (R6).c 6 rfl, (R6).c 7 rfl⟩) (fun hHeld => ?_)
      refine wpAnyH_take (i := 0) (oi := ({ dst := some 30, op := Go.Op.move (Go.Operand.tmp 4), type := 9, pos := "resolve.go:44", after := #[], guard := none } : Oper)) (v := ?_) rfl (by kernel_rfl) (by kernel_rfl) (by kernel_rfl) (fun _ _ _ h => h) (Or.inl ⟨by rfl, ?_⟩) (by assumption) ?_
      rotate_left
      focus (intro w' hSw; (try dsimp only at hSw); go_split_ands; go_simp; try with_reducible rfl)
      (try simp only [Act.put, List.setIfInBounds_toArray, List.set_cons_zero, List.set_cons_succ])
      refine wpAnyH_take (i := 1) (oi := ({ dst := some 31, op := Go.Op.load 66 (Go.Operand.tmp 5), type := 66, pos := "resolve.go:44", after := #[{ on := 2, ground := Go.Ground.gcOnly Go.Departure.lateStores }], guard := none } : Oper)) (v := ?_) rfl (by kernel_rfl) (by kernel_rfl) (by kernel_rfl) (fun _ _ _ h => h) (Or.inl ⟨by rfl, ?_⟩) (by assumption) ?_
      rotate_left
      focus (intro w' hSw; (try dsimp only at hSw); go_split_ands; go_simp; try with_reducible rfl)
      (try simp only [Act.put, List.setIfInBounds_toArray, List.set_cons_zero, List.set_cons_succ])
      refine wpAnyH_take (i := 2) (oi := ({ dst := some 4, op := Go.Op.assign (Go.Operand.tmp 30), type := 9, pos := "resolve.go:44", after := #[{ on := 0, ground := Go.Ground.data }, { on := 0, ground := Go.Ground.phase }, { on := 1, ground := Go.Ground.textOnly Go.Departure.lateStores }], guard := none } : Oper)) (v := ?_) rfl (by kernel_rfl) (by kernel_rfl) (by kernel_rfl) (fun _ _ _ h => h) (Or.inl ⟨by rfl, ?_⟩) (by assumption) ?_
      rotate_left
      focus (intro w' hSw; (try dsimp only at hSw); go_split_ands; go_simp; try with_reducible rfl)
      (try simp only [Act.put, List.setIfInBounds_toArray, List.set_cons_zero, List.set_cons_succ])
      refine wpAnyH_ready (rs := [3]) (by kernel_rfl) (by simp) ?_
      refine AllReadyH.cons (o := ({ dst := none, op := Go.Op.store 66 (Go.Operand.tmp 5) (Go.Operand.tmp 31), type := 0, pos := "resolve.go:44", after := #[{ on := 1, ground := Go.Ground.data }, { on := 2, ground := Go.Ground.chain }, { on := 0, ground := Go.Ground.phase }, { on := 1, ground := Go.Ground.phase }, { on := 2, ground := Go.Ground.phase }], guard := none } : Oper)) rfl (fun K hK => ?_) AllReadyH.nil
      refine wp_store_row 66 (.tmp 5) (.tmp 31) rfl (w.heap.size + 1) #[.string m.n, .string m.d, .bool m.st, .bool m.ab, .int .i64 m.sk, .int .i64 m.lo, .slice ac m.code.length cc, .slice ah m.hs.length chh] rfl rfl 66 _ R6.b infoM rfl (one8 _ _ _ _ _ _ _ _ _ _ _ _) ?_
      have R7 := R6.setRow #[.string m.n, .string m.d, .bool m.st, .bool m.ab, .int .i64 m.sk, .int .i64 m.lo, .slice ac m.code.length cc, .slice ah m.hs.length chh]
      refine hK.out _ _ ?_ (fun hHeld => ?_)
      exact ⟨(R7).c 0 rfl, (R7).c 1 rfl, (R7).c 2 rfl, (R7).c 3 rfl, (R7).c 4 rfl, (R7).c 5 rfl, (R7).c 6 rfl, (R7).c 7 rfl⟩
      clear hK K
      (try simp only [Act.put])
      refine wpAnyH_take (i := 4) (oi := ({ dst := some 6, op := Go.Op.assign (Go.Operand.const (Go.Value.int Go.IntKind.i64 0)), type := 26, pos := "resolve.go:44", after := #[{ on := 3, ground := Go.Ground.chain }, { on := 0, ground := Go.Ground.phase }, { on := 1, ground := Go.Ground.phase }, { on := 2, ground := Go.Ground.phase }, { on := 3, ground := Go.Ground.phase }], guard := none } : Oper)) (v := ?_) rfl (by kernel_rfl) (by kernel_rfl) (by kernel_rfl) (fun _ _ _ h => h) (Or.inl ⟨by rfl, ?_⟩) (by assumption) ?_
      rotate_left
      focus (intro w' hSw; (try dsimp only at hSw); go_split_ands; go_simp; try with_reducible rfl)
      (try simp only [Act.put, List.setIfInBounds_toArray, List.set_cons_zero, List.set_cons_succ])
      refine wpAnyH_done (by kernel_rfl) ?_ _
      go_wp2_with fail
      refine bodyPost_ret (results_cells rfl _ _ (w.heap.size + 1) 66 _ (0, 0) _ rfl R7.b Tryz.underlying66 rfl infoM) rfl ?_
      exact ⟨_, rfl, ⟨_, _, rfl, ((oc4.keepI c5).keepI (Ch.refl _).drew).rowI _ R6.b (by decide), ((oh4.keepH c5).keepH (Ch.refl _).drew).rowH _ R6.b (by decide)⟩, R7.ch⟩
end Go.Proofs.YthmepecmeambmaaGreat
