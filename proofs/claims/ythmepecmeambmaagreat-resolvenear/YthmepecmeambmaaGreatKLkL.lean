/- Classes laid together. -/
/- A class found by its Name. -/
import Derived.Test.YthmepecmeambmaaGreatKLkJ
namespace Go.Proofs.YthmepecmeambmaaGreat
open Go.RowKit
set_option linter.unusedVariables false

/-- A class in a slice. -/
def RC (w : World) (cs : List Value) (c : Cls) : Prop := ∃ vi vf vm, cs = [.string c.n, .string c.s, .bool c.it, .bool c.ab, vi, vf, vm] ∧ ClsAt w c vi vf vm
theorem RC.keep {w w' : World} {cs : List Value} {c : Cls} (h : RC w cs c) (k : Ch w w') : RC w' cs c := by
  obtain ⟨vi, vf, vm, h1, h2⟩ := h
  exact ⟨vi, vf, vm, h1, h2.keep k⟩
theorem Sl.keepC {w w' : World} {v : Value} {xs : List Cls} (h : Sl 7 RC w v xs) (k : Ch w w') : Sl 7 RC w' v xs := h.keep (fun _ _ x => x.keep k) k
theorem Sl.atC {w : World} {ao : Option Addr} {n cap : Nat} {xs : List Cls} (h : Sl 7 RC w (.slice ao n cap) xs) {i : Nat} {c : Cls} (hi : xs[i]? = some c) :
    ∃ b off vi vf vm, ao = some ⟨b, off, none⟩ ∧ ClsAt w c vi vf vm ∧ w.cell? ⟨b, off + i * 7, none⟩ = some (.string c.n) ∧ w.cell? ⟨b, off + i * 7 + 1, none⟩ = some (.string c.s) ∧ w.cell? ⟨b, off + i * 7 + 2, none⟩ = some (.bool c.it) ∧ w.cell? ⟨b, off + i * 7 + 3, none⟩ = some (.bool c.ab) ∧
      w.cell? ⟨b, off + i * 7 + 4, none⟩ = some vi ∧ w.cell? ⟨b, off + i * 7 + 5, none⟩ = some vf ∧ w.cell? ⟨b, off + i * 7 + 6, none⟩ = some vm := by
  obtain ⟨b, off, cs, ha, ⟨vi, vf, vm, rfl, h1⟩, hc⟩ := h.at hi
  exact ⟨b, off, vi, vf, vm, ha, h1, hc 0 _ rfl, hc 1 _ rfl, hc 2 _ rfl, hc 3 _ rfl, hc 4 _ rfl, hc 5 _ rfl, hc 6 _ rfl⟩
theorem Tg.setRow {w : World} {g : Nat} (cs : Array Value) : Tg g w (w.setRow g cs) := ⟨rfl, rfl, rfl, by simp, fun b hb => setRow_other _ _ _ _ hb⟩
theorem OwC.tg {B : Nat} {w w' : World} {c : Cls} {vi vf vm : Value} (h : OwC B w c vi vf vm) {g : Nat} {cs : Array Value} (t : Tg g w w') (hg : w.heap[g]? = some (.cells cs 41)) : OwC B w' c vi vf vm :=
  ⟨h.i.tg t hg (by decide) (fun _ _ x => x), h.f.tg t hg (by decide) (fun _ _ x => x), h.m.tg t hg (by decide) (fun _ _ x => x.tg t hg (by decide) (by decide))⟩
/-- A program in memory. -/
def Pg (w : World) (g : Nat) (P : List Cls) : Prop := ∃ v B, w.heap[g]? = some (.cells #[v] 177) ∧ Oc B w v P
theorem Pg.keep {w w' : World} {g : Nat} {P : List Cls} (h : Pg w g P) (k : Ch w w') : Pg w' g P := by
  obtain ⟨v, B, h1, h2⟩ := h
  exact ⟨v, B, kept_at k h1, h2.keep k⟩
def okCs (L : List Cls) : Prop := ∀ c ∈ L, clsT c ≤ 12000

set_option maxHeartbeats 16000000 in
set_option maxRecDepth 100000 in
theorem together_any (L : List Cls) (vl : Value) (w : World) (h : Sl 7 RC w vl L) (hl : L.length ≤ 100) (hT : okCs L) :
    Calls Tryz.prog 80 #[vl] w fun e w' => ∃ g P, e = .returned (.pointer (some ⟨g, 0, none⟩)) ∧ P.Perm (given ++ L) ∧ Srt P ∧ Pg w' g P ∧ Ch w w' := by
  obtain ⟨al, cl, rfl, _, _⟩ := h.form
  have HS : Hid (Sl 7 RC w (.slice al L.length cl) L) := h
  have HT : Hid (okCs L) := hT
  clear h hT
  have hgl : Hid (given.length = 12) := rfl
  go_enter Tryz.func80, Tryz.ntmps80
  go_wp2_with (first
    | (go_at_call 41; (with_reducible refine (builtin_any w).mono ?_); rintro e w1 ⟨v1, rfl, o1, c1⟩)
    | fail)
  go_loopw [3, 9] (fun v i wr => ∃ k : Nat, k ≤ L.length ∧ i = .int .i64 k ∧ Oc w.heap.size wr v (given ++ L.take k) ∧ Ch w wr) (fun _ i _ => L.length - (intOf i).toNat)
  case atStart => exact ⟨0, Nat.zero_le _, rfl, by simpa using o1, c1⟩
  case round =>
    clear o1 c1
    obtain ⟨k, hk, rfl, hO, hcr⟩ := hrel
    by_cases hlt : k < L.length
    · obtain ⟨c, hc⟩ : ∃ x, L[k]? = some x := ⟨_, List.getElem?_eq_getElem hlt⟩
      have hcT := HT.out c (List.mem_of_getElem? hc)
      obtain ⟨b, off, vi, vf, vm, rfl, hat, q0, q1, q2, q3, q4, q5, q6⟩ := (HS.out.keepC hcr).atC hc
      have hlc0 : (given ++ L.take k).length = 12 + k := by rw [List.length_append, List.length_take, hgl.out]; omega
      have hls0 : given ++ L.take (k + 1) = (given ++ L.take k) ++ [c] := by
        obtain ⟨h1, h2⟩ := List.getElem?_eq_some_iff.1 hc
        rw [List.take_succ_eq_append_getElem h1, h2, List.append_assoc]
      generalize given ++ L.take k = GL at *
      have hlc : Hid (GL.length = 12 + k) := hlc0
      have hls : Hid (given ++ L.take (k + 1) = GL ++ [c]) := hls0
      clear hlc0 hls0
      have HW : Hid (∀ w', Ch wr w' → Calls Tryz.prog 93 #[.agg #[.string c.n, .string c.s, .bool c.it, .bool c.ab, vi, vf, vm]] w' fun e w2 => ∃ vi' vf' vm', e = .returned (.agg #[.string c.n, .string c.s, .bool c.it, .bool c.ab, vi', vf', vm']) ∧ OwC w'.heap.size w2 c vi' vf' vm' ∧ Ch w' w2) := fun w' kk => ownLists_any c vi vf vm w' (hat.keep kk) hcT
      obtain ⟨ai, ci, rfl, _, _⟩ := hat.1.form
      obtain ⟨af, cf, rfl, _, _⟩ := hat.2.1.form
      obtain ⟨am, cm, rfl, _, _⟩ := hat.2.2.form
      obtain ⟨ao, cc, rfl⟩ := hO.form
      have hbx := heap_alloc_new wr (.cells #[.string c.n, .string c.s, .bool c.it, .bool c.ab, .slice ai c.im.length ci, .slice af c.fs.length cf, .slice am c.me.length cm] 41)
      obtain ⟨r0, r1, r2, r3, r4, r5, r6⟩ := clsC_at (c := c) (vi := .slice ai c.im.length ci) (vf := .slice af c.fs.length cf) (vm := .slice am c.me.length cm) hbx
      clear hat hc
      go_wp2_with (first
        | (refine wpList_store_row rfl 41 (.tmp 5) (.tmp 12) rfl wr.heap.size #[.string c.n, .string c.s, .bool c.it, .bool c.ab, .slice ai c.im.length ci, .slice af c.fs.length cf, .slice am c.me.length cm] rfl rfl 41 _ (heap_alloc_new _ _) infoC rfl (one7 _ _ _ _ _ _ _ _ _ _ _ _ _) ?_; rw [setRow_alloc])
        | (go_at_call 93; (with_reducible refine (HW.out _ ((Ch.refl wr).alloc _)).mono ?_); rintro e w3 ⟨vi', vf', vm', rfl, o3, c3⟩; obtain ⟨bi, di, rfl⟩ := o3.i.form; obtain ⟨bf, df, rfl⟩ := o3.f.form; obtain ⟨bm, dm, rfl⟩ := o3.m.form; have hb3 := kept_at c3 hbx; have hb4 := setRow_heap w3 wr.heap.size _ #[.string c.n, .string c.s, .bool c.it, .bool c.ab, .slice bi c.im.length di, .slice bf c.fs.length df, .slice bm c.me.length dm] _ _ hb3; have o4 := o3.tg (Tg.setRow #[.string c.n, .string c.s, .bool c.it, .bool c.ab, .slice bi c.im.length di, .slice bf c.fs.length df, .slice bm c.me.length dm]) hb3; have hc4 : Ch wr (w3.setRow wr.heap.size #[.string c.n, .string c.s, .bool c.it, .bool c.ab, .slice bi c.im.length di, .slice bf c.fs.length df, .slice bm c.me.length dm]) := Ch.setRow (((Ch.refl wr).alloc _).trans c3) _ _ (Nat.le_refl _))
        | (refine wpList_store_row rfl 41 (.tmp 5) (.tmp 14) rfl wr.heap.size #[.string c.n, .string c.s, .bool c.it, .bool c.ab, .slice bi c.im.length di, .slice bf c.fs.length df, .slice bm c.me.length dm] rfl rfl 41 _ hb3 infoC rfl (one7 _ _ _ _ _ _ _ _ _ _ _ _ _) ?_)
        | (go_at_call 150; (with_reducible refine (ownTexts_any _ wr.heap.size c _ _ _ _ hb4 o4 hcT).mono ?_); rintro e w5 ⟨rfl, c5⟩; obtain ⟨s0, s1, s2, s3, s4, s5, s6⟩ := clsC_at (c := c) (vi := .slice bi c.im.length di) (vf := .slice bf c.fs.length df) (vm := .slice bm c.me.length dm) (kept_at c5 hb4); have hc5 := hc4.trans c5)
        | (at_builtin; refine ((hO.keep hc5).keep ((Ch.refl w5).alloc _)).append (NL := [c]) rfl (.tmp 16) (.tmp 18) rfl rfl (fun _ => [.string c.n, .string c.s, .bool c.it, .bool c.ab, .slice bi c.im.length di, .slice bf c.fs.length df, .slice bm c.me.length dm]) (fun i c' hi => ?_) (fun _ => rfl) w5.heap.size 1 1 rfl rfl (heap_alloc_new _ _) (by have := hlc.out; omega) (by have := hcr.size; have := hc5.size; simp; omega) (Nat.le_refl _) ((hcr.trans hc5).alloc _) ?_; (match i, hi with | 0, hi => cases hi; exact ⟨_, _, _, rfl, ((o4.keep c5).keep ((Ch.refl w5).alloc _)).base (by have := hcr.size; simp; omega)⟩); intro v6 w6 o6 c6 b6)
        | fail)
      go_roundw
      case rel => exact ⟨k + 1, by omega, by go_num, by rw [hls.out]; exact o6, c6⟩
      case measure => simp [intOf]; omega
    · obtain rfl : k = L.length := by omega
      rw [List.take_length] at hO
      have hlc0 : (given ++ L).length = 12 + L.length := by rw [List.length_append, hgl.out]
      generalize hGL : given ++ L = GL at *
      have hlc : Hid (GL.length = 12 + L.length) := hlc0
      have HGL : Hid (given ++ L = GL) := hGL
      clear hlc0 hGL
      have hso := sort_any w.heap.size u3 GL wr hO (by have := hlc.out; omega) (by have := hlc.out; omega)
      obtain ⟨ao, cc, rfl⟩ := hO.form
      go_wp2_with (first
        | (go_at_call 151; (with_reducible refine hso.mono ?_); rintro e w3 ⟨rfl, P, hP1, hP2, hP3, g, hg1, hg2⟩)
        | fail)
      go_ret
      have hc3 : Ch w w3 := hcr.grown hg2 (fun k hk => by cases hk; exact hg1)
      exact ⟨_, P, rfl, HGL.out ▸ hP1, hP2, ⟨_, _, heap_alloc_new _ _, hP3.keep ((Ch.refl w3).alloc _)⟩, hc3.alloc _⟩
end Go.Proofs.YthmepecmeambmaaGreat
namespace Go.Proofs.YthmepecmeambmaaGreat
open Go.RowKit
set_option linter.unusedVariables false

/-- A program in memory: where it lies, and where its classes do. -/
def Pm (w : World) (g b : Nat) (P : List Cls) : Prop := 0 < P.length ∧ P.length ≤ 1000 ∧ Srt P ∧ ∃ cap B, w.heap[g]? = some (.cells #[.slice (some ⟨b, 0, none⟩) P.length cap] 177) ∧ Oc B w (.slice (some ⟨b, 0, none⟩) P.length cap) P
theorem Pm.keep {w w' : World} {g b : Nat} {P : List Cls} (h : Pm w g b P) (k : Ch w w') : Pm w' g b P := by
  obtain ⟨h0, h1, h2, cap, B, h3, h4⟩ := h
  exact ⟨h0, h1, h2, cap, B, kept_at k h3, h4.keep k⟩
theorem Pg.pm {w : World} {g : Nat} {P : List Cls} (h : Pg w g P) (h0 : 0 < P.length) (h1 : P.length ≤ 1000) (h2 : Srt P) : ∃ b, Pm w g b P := by
  obtain ⟨v, B, h3, h4⟩ := h
  obtain ⟨g', cs, ao, hx⟩ : ∃ g' c, ∃ ao : Option Addr, v = .slice (some ⟨g', 0, none⟩) P.length c := by
    obtain ⟨ao, c, rfl⟩ := Ow.form h4
    obtain ⟨g', cs, e, _⟩ := Ow.at h4 (List.getElem?_eq_getElem h0)
    exact ⟨g', c, ao, by rw [e]⟩
  subst hx
  exact ⟨g', h0, h1, h2, cs, B, h3, h4⟩
/-- A class where the program has it. -/
theorem Pm.at {w : World} {g b : Nat} {P : List Cls} (h : Pm w g b P) {i : Nat} {c : Cls} (hi : P[i]? = some c) :
    ∃ vi vf vm, ClsAt w c vi vf vm ∧ w.cell? ⟨b, i * 7, none⟩ = some (.string c.n) ∧ w.cell? ⟨b, i * 7 + 1, none⟩ = some (.string c.s) ∧ w.cell? ⟨b, i * 7 + 2, none⟩ = some (.bool c.it) ∧ w.cell? ⟨b, i * 7 + 3, none⟩ = some (.bool c.ab) ∧
      w.cell? ⟨b, i * 7 + 4, none⟩ = some vi ∧ w.cell? ⟨b, i * 7 + 5, none⟩ = some vf ∧ w.cell? ⟨b, i * 7 + 6, none⟩ = some vm := by
  obtain ⟨h0, h1, h2, cap, B, h3, h4⟩ := h
  obtain ⟨b', cs, e, _, _, ⟨vi, vf, vm, rfl, ho⟩, hc, _⟩ := Ow.at h4 hi
  cases e
  exact ⟨vi, vf, vm, ho.at, hc 0 _ rfl, hc 1 _ rfl, hc 2 _ rfl, hc 3 _ rfl, hc 4 _ rfl, hc 5 _ rfl, hc 6 _ rfl⟩
def ptr (b i : Nat) : Value := .pointer (some ⟨b, i * 7, none⟩)
def pn (b : Nat) (P : List Cls) (n : ByteArray) : Value := match ixN P n with | some i => ptr b i | none => .pointer none

set_option maxHeartbeats 1000000 in
theorem findCmp_any (a b : ByteArray) (x2 x3 : Bool) (x1 : ByteArray) (a1 : Option Addr) (n1 c1 : Nat) (a2 : Option Addr) (n2 c2 : Nat) (a3 : Option Addr) (n3 c3 : Nat) (w : World) :
    Calls Tryz.prog 168 #[.agg #[.string a, .string x1, .bool x2, .bool x3, .slice a1 n1 c1, .slice a2 n2 c2, .slice a3 n3 c3], .string b] w fun e w' => e = .returned (.int .i64 (cb (bl a) (bl b))) ∧ Ch w w' := by
  have hc := fun W => compare_any a b W
  generalize cb (bl a) (bl b) = r at *
  go_enter Tryz.func168, Tryz.ntmps168
  go_wp2_with (first
    | (go_at_call 153; (with_reducible refine (hc _).mono ?_); rintro e w' ⟨rfl, hw⟩; have hw := hw.symm; subst hw)
    | fail)
  go_ret
  exact ⟨rfl, (Ch.refl w).alloc _⟩

/-- The place of the first that is not ahead of n. -/
def lo (P : List Cls) (n : ByteArray) : Nat := P.findIdx fun c => !blt c.n n
theorem lo_le (P : List Cls) (n : ByteArray) : lo P n ≤ P.length := List.findIdx_le_length
theorem lo_cons (d : Cls) (r : List Cls) (n : ByteArray) : lo (d :: r) n = if blt d.n n then lo r n + 1 else 0 := by
  unfold lo
  rw [List.findIdx_cons]
  cases blt d.n n <;> rfl
theorem lo_lt {n : ByteArray} : ∀ {P : List Cls}, Srt P → ∀ {i : Nat} {c : Cls}, P[i]? = some c → (blt c.n n = true ↔ i < lo P n)
  | [], _, i, c, hi => by simp at hi
  | d :: r, h, i, c, hi => by
    obtain ⟨h1, h2⟩ := srt_cons.1 h
    rw [lo_cons]
    match i, hi with
    | 0, hi =>
      have e : d = c := by simpa using hi
      subst e
      cases blt d.n n <;> simp
    | i + 1, hi =>
      have hi' : r[i]? = some c := by simpa using hi
      have ih := lo_lt (n := n) h2 hi'
      cases hb : blt d.n n with
      | true => rw [if_pos rfl, ih]; omega
      | false =>
        rw [if_neg (by simp), blt_ntrans (h1 c (List.mem_of_getElem? hi')) hb]
        simp
theorem ix_lo {P : List Cls} (h : Srt P) (n : ByteArray) : ixN P n = match P[lo P n]? with | some c => if nq c.n n then some (lo P n) else none | none => none := srt_find h n _ rfl
theorem cb_zero (a b : ByteArray) : (cb (bl a) (bl b) == 0) = nq a b := by
  rw [Bool.eq_iff_iff, beq_iff_eq, nq_iff]
  exact ⟨fun h => bl_ext (cb_eq _ _ h), fun h => by rw [h]; exact cb_self _⟩

set_option maxHeartbeats 4000000 in
set_option maxRecDepth 100000 in
theorem search_any (n : ByteArray) (P : List Cls) (g b cap : Nat) (w : World) (h : Pm w g b P) :
    Calls Tryz.prog 167 #[.slice (some ⟨b, 0, none⟩) P.length cap, .string n, .func (.func 168) #[] #[]] w fun e w' =>
      e = .returned (.tuple #[.int .i64 (lo P n), .bool (ixN P n).isSome]) ∧ Ch w w' := by
  have HP : Hid (Pm w g b P) := h
  have hsz := h.2.1
  have hle := lo_le P n
  have HS : Hid (Srt P) := h.2.2.1
  have HIX : Hid (ixN P n = match P[lo P n]? with | some c => if nq c.n n then some (lo P n) else none | none => none) := ix_lo h.2.2.1 n
  clear h
  obtain ⟨m, hm⟩ : ∃ m, lo P n = m := ⟨_, rfl⟩
  rw [hm] at hle ⊢
  have HM : Hid (lo P n = m) := hm
  clear hm
  obtain ⟨fd, hfd⟩ : ∃ q, (ixN P n).isSome = q := ⟨_, rfl⟩
  rw [hfd]
  have HF : Hid ((ixN P n).isSome = fd) := hfd
  clear hfd
  go_enter Tryz.func167, Tryz.ntmps167
  go_wp2
  go_loopw [9, 10] (fun i j wr => ∃ a c : Nat, a ≤ m ∧ m ≤ c ∧ c ≤ P.length ∧ i = .int .i64 a ∧ j = .int .i64 c ∧ Ch w wr) (fun i j _ => (intOf j).toNat - (intOf i).toNat)
  case atStart => exact ⟨0, P.length, by omega, hle, Nat.le_refl _, rfl, rfl, Ch.refl _⟩
  case round =>
    obtain ⟨a, c, ha, hc, hcl, rfl, rfl, hcr⟩ := hrel
    by_cases hlt : a < c
    · obtain ⟨x, hx⟩ : ∃ x, P[(a + c) / 2]? = some x := ⟨_, List.getElem?_eq_getElem (by omega)⟩
      have hbl : blt x.n n = true ↔ (a + c) / 2 < m := by rw [← HM.out]; exact lo_lt HS.out hx
      obtain ⟨vi, vf, vm, hat, q0, q1, q2, q3, q4, q5, q6⟩ := (HP.out.keep hcr).at hx
      obtain ⟨ai, ci, rfl, _, _⟩ := hat.1.form
      obtain ⟨af, cf, rfl, _, _⟩ := hat.2.1.form
      obtain ⟨am, cm, rfl, _, _⟩ := hat.2.2.form
      clear hat hx
      have hcm := fun W => findCmp_any x.n n x.it x.ab x.s ai x.im.length ci af x.fs.length cf am x.me.length cm W
      have hbe : blt x.n n = decide (cb (bl x.n) (bl n) < 0) := rfl
      generalize cb (bl x.n) (bl n) = r at *
      have HB : Hid (decide (r < 0) = true ↔ (a + c) / 2 < m) := by rw [← hbe]; exact hbl
      clear hbl hbe
      by_cases hr : r < 0
      · have hlm := HB.out.1 (by simpa using hr)
        have t0 : decide (r < 0) = true := by simpa using hr
        clear HB
        go_wp2_with (first
          | (go_at_call 168; (with_reducible refine (hcm _).mono ?_); rintro e w3 ⟨rfl, hc3⟩)
          | fail)
        go_roundw
        case rel => exact ⟨(a + c) / 2 + 1, c, by omega, hc, hcl, by simp, rfl, hcr.trans hc3⟩
        case measure => simp [intOf]; omega
      · have hlm : ¬ (a + c) / 2 < m := fun q => hr (by simpa using HB.out.2 q)
        have t0 : decide (r < 0) = false := by simpa using hr
        clear HB
        go_wp2_with (first
          | (go_at_call 168; (with_reducible refine (hcm _).mono ?_); rintro e w3 ⟨rfl, hc3⟩)
          | fail)
        go_roundw
        case rel => exact ⟨a, (a + c) / 2, ha, by omega, by omega, rfl, by simp, hcr.trans hc3⟩
        case measure => simp [intOf]; omega
    · obtain rfl : a = m := by omega
      obtain rfl : c = a := by omega
      by_cases hlt2 : c < P.length
      · obtain ⟨x, hx⟩ : ∃ x, P[c]? = some x := ⟨_, List.getElem?_eq_getElem hlt2⟩
        have hres : fd = nq x.n n := by
          rw [← HF.out, HIX.out, HM.out, hx]
          dsimp only
          cases nq x.n n <;> rfl
        obtain ⟨vi, vf, vm, hat, q0, q1, q2, q3, q4, q5, q6⟩ := (HP.out.keep hcr).at hx
        obtain ⟨ai, ci, rfl, _, _⟩ := hat.1.form
        obtain ⟨af, cf, rfl, _, _⟩ := hat.2.1.form
        obtain ⟨am, cm, rfl, _, _⟩ := hat.2.2.form
        clear hat hx
        have hcm := fun W => findCmp_any x.n n x.it x.ab x.s ai x.im.length ci af x.fs.length cf am x.me.length cm W
        have hbe : (cb (bl x.n) (bl n) == 0) = nq x.n n := cb_zero _ _
        rw [← hbe] at hres
        clear hbe
        generalize cb (bl x.n) (bl n) = r at *
        have HR : Hid (fd = (r == 0)) := hres
        clear hres
        go_wp2_with (first
          | (go_at_call 168; (with_reducible refine (hcm _).mono ?_); rintro e w3 ⟨rfl, hc3⟩)
          | fail)
        go_ret2
        exact ⟨by rw [HR.out]; rfl, hcr.trans hc3⟩
      · have hres : fd = false := by
          rw [← HF.out, HIX.out, HM.out, List.getElem?_eq_none (by omega)]
          rfl
        subst hres
        go_wp2_with fail
        go_ret2
        exact ⟨rfl, hcr⟩

set_option maxHeartbeats 1000000 in
theorem find_any (n : ByteArray) (P : List Cls) (g b : Nat) (w : World) (h : Pm w g b P) :
    Calls Tryz.prog 92 #[.pointer (some ⟨g, 0, none⟩), .string n] w fun e w' => e = .returned (pn b P n) ∧ Ch w w' := by
  obtain ⟨cap, B, hg, ho⟩ := h.2.2.2
  have hs := search_any n P g b cap w h
  have hix : ixN P n = match P[lo P n]? with | some c => if nq c.n n then some (lo P n) else none | none => none := ix_lo h.2.2.1 n
  have c0 : ∀ w', Ch w w' → w'.cell? ⟨g, 0, none⟩ = some (.slice (some ⟨b, 0, none⟩) P.length cap) := fun w' k => by simp [World.cell?, kept_at k hg]
  have q0 := c0 w (Ch.refl w)
  have HC : Hid (∀ w', Ch w w' → w'.cell? ⟨g, 0, none⟩ = some (.slice (some ⟨b, 0, none⟩) P.length cap)) := c0
  have hl2 := h.2.1
  clear h ho c0
  cases hx : ixN P n with
  | none =>
    rw [hx] at hs
    have hp : pn b P n = .pointer none := by unfold pn; rw [hx]
    rw [hp]
    clear hix hx hp
    generalize lo P n = m at *
    go_enter Tryz.func92, Tryz.ntmps92
    go_wp2_with (first
      | (go_at_call 167; (with_reducible refine hs.mono ?_); rintro e w3 ⟨rfl, hc3⟩)
      | fail)
    go_ret
    exact ⟨rfl, hc3⟩
  | some i =>
    rw [hx] at hs
    have hp : pn b P n = ptr b i := by unfold pn; rw [hx]
    rw [hp]
    have hi : lo P n = i ∧ i < P.length := by
      rw [hx] at hix
      cases hq : P[lo P n]? with
      | none => rw [hq] at hix; cases hix
      | some c =>
        rw [hq] at hix
        dsimp only at hix
        split at hix
        · cases hix; exact ⟨rfl, (List.getElem?_eq_some_iff.1 hq).1⟩
        · cases hix
    obtain ⟨hi1, hi2⟩ := hi
    rw [hi1] at hs
    clear hix hx hp hi1
    unfold ptr
    have e7 : (⟨b, 0, none⟩ : Addr).add (i * 7) = ⟨b, i * 7, none⟩ := by unfold Addr.add; split <;> simp_all
    go_enter Tryz.func92, Tryz.ntmps92
    go_wp2_with (first
      | (go_at_call 167; (with_reducible refine hs.mono ?_); rintro e w3 ⟨rfl, hc3⟩; have q3 := HC.out _ hc3)
      | fail)
    go_ret
    exact ⟨rfl, hc3⟩
/-- Of no program. -/
theorem find_nil (n : ByteArray) (w : World) : Calls Tryz.prog 92 #[.pointer none, .string n] w fun e w' => e = .returned (.pointer none) ∧ w' = w := by
  go_enter Tryz.func92, Tryz.ntmps92
  go_wp2
  go_ret
  exact ⟨rfl, rfl⟩
end Go.Proofs.YthmepecmeambmaaGreat
