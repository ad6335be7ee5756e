/- The pool of a class. -/
/- The pool of a class: the walk. -/
/- The pool of a class: the walk. -/
import Derived.Test.YthmepecmeambmaaGreatKPoolB
import Derived.Test.YthmepecmeambmaaGreatKBulk
namespace Go.Proofs.YthmepecmeambmaaGreat
open Go.RowKit
set_option linter.unusedVariables false

def fldX (f : Fld) : List (List UInt8) := [bl f.n, bl f.d]
def hndX (h : Hnd) : List (List UInt8) := [bl h.c]
def mthX (m : Mth) : List (List UInt8) := [bl m.n, bl m.d] ++ (m.code.flatMap insX ++ m.hs.flatMap hndX)
def clsX (c : Cls) : List (List UInt8) := [bl c.n, bl c.s] ++ (c.im.map bl ++ (c.fs.flatMap fldX ++ c.me.flatMap mthX))
def poolL (c : Cls) : List (List UInt8) := addL [] (clsX c)

structure MFine (m : Mth) : Prop where
  n : m.n.size ≤ 100000
  d : m.d.size ≤ 90000
  code : ∀ x ∈ m.code, x.c.size ≤ 90000 ∧ x.n.size ≤ 90000 ∧ x.d.size ≤ 90000
  hs : ∀ h ∈ m.hs, h.c.size ≤ 100000
structure Fine (c : Cls) : Prop where
  n : c.n.size ≤ 100000
  s : c.s.size ≤ 100000
  im : ∀ s ∈ c.im, s.size ≤ 100000
  fs : ∀ f ∈ c.fs, f.n.size ≤ 100000 ∧ f.d.size ≤ 100000
  me : ∀ m ∈ c.me, MFine m
  all : (clsX c).length ≤ 50000

theorem sum_mem {α : Type} (f : α → Nat) : ∀ (l : List α) (x : α), x ∈ l → f x ≤ (l.map f).sum
  | y :: l, x, h => by
    rw [List.map_cons, List.sum_cons]
    rcases List.mem_cons.1 h with rfl | h
    · omega
    · have := sum_mem f l x h; omega
theorem flat_len {α β : Type} (g : α → List β) (f : α → Nat) (k : Nat) (h : ∀ x, (g x).length ≤ k * f x) : ∀ l : List α, (l.flatMap g).length ≤ k * (l.map f).sum
  | [] => by simp
  | x :: l => by
    have h1 := flat_len g f k h l
    have h2 := h x
    rw [List.flatMap_cons, List.length_append, List.map_cons, List.sum_cons, Nat.mul_add]
    omega
theorem insX_len (x : Ins) : (insX x).length ≤ 3 * insT x := by
  have h : ∀ (b : Bool) (s : ByteArray), (pickL b s).length ≤ 1 := fun b s => by cases b <;> simp [pickL]
  unfold insX insT
  rw [List.length_append, List.length_append]
  have h1 := h (sC (kd (ix x.op))) x.c
  have h2 := h (sN (kd (ix x.op))) x.n
  have h3 := h (sD (kd (ix x.op))) x.d
  omega
theorem len_sum {α : Type} (l : List α) : (l.map fun _ => 1).sum = l.length := by induction l with
  | nil => rfl
  | cons x l ih => rw [List.map_cons, List.sum_cons, ih, List.length_cons]; omega
theorem mthX_len (m : Mth) : (mthX m).length ≤ 3 * mthT m := by
  have h1 := flat_len insX insT 3 insX_len m.code
  have h2 := flat_len hndX (fun _ => 1) 1 (fun x => by simp [hndX]) m.hs
  rw [len_sum] at h2
  unfold mthX mthT
  rw [List.length_append, List.length_append]
  simp only [List.length_cons, List.length_nil]
  omega
theorem clsX_len (c : Cls) : (clsX c).length ≤ 3 * clsT c := by
  have h1 := flat_len mthX mthT 3 mthX_len c.me
  have h2 := flat_len fldX (fun f => 1 + f.n.size + f.d.size) 2 (fun x => by simp [fldX]; omega) c.fs
  have h3 : c.im.length ≤ (c.im.map fun s => 1 + s.size).sum := by
    generalize c.im = l
    induction l with
    | nil => simp
    | cons x l ih => rw [List.map_cons, List.sum_cons, List.length_cons]; omega
  unfold clsX clsT
  rw [List.length_append, List.length_append, List.length_append, List.length_map]
  simp only [List.length_cons, List.length_nil]
  omega
theorem mfine_of (m : Mth) (h : mthT m ≤ 12000) : MFine m := by
  unfold mthT at h
  refine ⟨by omega, by omega, fun x hx => ?_, fun x hx => ?_⟩
  · have := sum_mem insT m.code x hx
    unfold insT at this h
    omega
  · have := sum_mem (fun h : Hnd => h.c.size) m.hs x hx
    omega
theorem fine_of (c : Cls) (h : clsT c ≤ 12000) : Fine c := by
  have hl := clsX_len c
  unfold clsT at h hl
  refine ⟨by omega, by omega, fun s hs => ?_, fun f hf => ?_, fun m hm => mfine_of m ?_, by omega⟩
  · have := sum_mem (fun s : ByteArray => 1 + s.size) c.im s hs; omega
  · have := sum_mem (fun f : Fld => 1 + f.n.size + f.d.size) c.fs f hf; omega
  · have := sum_mem mthT c.me m hm; omega

theorem sl_row {w : World} {g : Nat} {xs : List ByteArray} (h : w.heap[g]? = some (.cells (xs.map Value.string).toArray 9)) (n : Nat) (hn : n = xs.length) (hl : n ≤ 100) : Sl 1 RS w (.slice (some ⟨g, 0, none⟩) n n) xs := by
  subst hn
  refine ⟨_, _, rfl, Nat.le_refl _, by omega, fun _ => ⟨g, 0, rfl, fun i a hi => ⟨[.string a], rfl, fun j u hj => ?_⟩⟩⟩
  match j, hj with
  | 0, hj =>
    cases hj
    simp [World.cell?, h, hi]
theorem sl_own {w : World} {base : Nat} {v : Value} {ts : List (List UInt8)} (h : w.ownsRow base 9 1 v ts.length (ts.map strV)) : Sl 1 RS w v (ts.map ms) := by
  rcases h.2 with ⟨hv, h0⟩ | ⟨g, cap, cur, hv, hb, hg, hc1, hc2, hc3, ht⟩
  · rw [hv, List.eq_nil_of_length_eq_zero h0]
    exact ⟨none, 0, rfl, Nat.le_refl _, by omega, fun hp => by simp at hp⟩
  · refine ⟨some ⟨g, 0, none⟩, cap, by rw [hv]; simp, by simpa using hc1, by unfold maxLen at hc2; omega, fun _ => ⟨g, 0, rfl, fun i a hi => ⟨[.string a], rfl, fun j u hj => ?_⟩⟩⟩
    match j, hj with
    | 0, hj =>
      cases hj
      simp only [World.cell?, hg]
      have hil : i < ts.length := by
        have := (List.getElem?_eq_some_iff.1 hi).1
        simpa using this
      have e1 : (cur.toList.take (ts.length * 1))[i]? = (ts.map strV)[i]? := by rw [ht]
      rw [List.getElem?_take_of_lt (by omega)] at e1
      have e2 : (ts.map strV)[i]? = some (.string a) := by
        rw [List.getElem?_map] at hi ⊢
        cases hh : ts[i]? with
        | none => rw [hh] at hi; cases hi
        | some l => rw [hh] at hi; simp at hi; simp [strV, hi]
      rw [e2] at e1
      simpa using e1
theorem ms_bl_map (ts : List (List UInt8)) : (ts.map ms).map bl = ts := by rw [List.map_map]; exact List.map_id' ts

variable {B p M : Nat} {vt : Value} {ts : List (List UInt8)}
/-- What add leaves. -/
def Added (B p M : Nat) (ts : List (List UInt8)) (w : World) (e : Ending) (w' : World) : Prop := e = .returned (.tuple #[]) ∧ ∃ vt', Po B w' p M vt' ts ∧ Kp B [9, 281] w w'
theorem add_row {w : World} (hP : Po B w p M vt ts) (g : Nat) (xs : List ByteArray) (n : Nat) (W : World) (hW : W = w.alloc (.cells (xs.map Value.string).toArray 9)) (hg : g = w.heap.size) (hn : n = xs.length) (hl : n ≤ 100) (hsz : ∀ s ∈ xs, s.size ≤ 100000) (hlen : ts.length + xs.length ≤ 100000) (hB : B ≤ w.heap.size) :
    Calls Tryz.prog 320 #[.pointer (some ⟨p, 0, none⟩), .slice (some ⟨g, 0, none⟩) n n] W (Added B p M (addL ts (xs.map bl)) w) := by
  subst hW hg
  refine (add_any B p M vt ts xs _ _ (hP.keep ((Ch.refl w).alloc _)) (sl_row (heap_alloc_new _ _) n hn hl) (fun b off n' c e hv => ?_) hsz hlen (by simp; omega)).mono ?_
  · obtain ⟨⟨rfl, _⟩, _⟩ : (w.heap.size = b ∧ 0 = off) ∧ _ := by simpa using e
    have := (hP.own.lt _ hv).2
    omega
  · rintro e w' ⟨h1, vt', h2, h3, _⟩
    exact ⟨h1, vt', h2, ((Kp.refl _ _ w).alloc _).trans h3⟩
theorem nil_add (B p M : Nat) (vt : Value) (ts : List (List UInt8)) (ao : Option Addr) (cap : Nat) (w : World) (hP : Po B w p M vt ts) :
    Calls Tryz.prog 320 #[.pointer (some ⟨p, 0, none⟩), .slice ao ([] : List ByteArray).length cap] w fun e w' => e = .returned (.tuple #[]) ∧ w' = w := by
  go_enter Tryz.func320, Tryz.ntmps320
  go_wp2
  go_loopw [10] (fun i wr => i = .int .i64 0 ∧ wr = w) (fun _ _ => 0)
  case atStart => exact ⟨rfl, rfl⟩
  case round =>
    obtain ⟨rfl, rfl⟩ := hrel
    go_wp2
    go_end0
    exact ⟨rfl, rfl⟩
theorem add_old {w : World} (hP : Po B w p M vt ts) (xs : List ByteArray) (v : Value) (hv : Sl 1 RS w v xs) (hb : ∀ b off n c, v = .slice (some ⟨b, off, none⟩) n c → 0 < xs.length → b < B) (hsz : ∀ s ∈ xs, s.size ≤ 100000) (hlen : ts.length + xs.length ≤ 100000) (hB : B ≤ w.heap.size) :
    Calls Tryz.prog 320 #[.pointer (some ⟨p, 0, none⟩), v] w (Added B p M (addL ts (xs.map bl)) w) := by
  by_cases h0 : xs.length = 0
  · obtain ⟨ao, cap, hv', h1, h2, _⟩ := hv
    have hx : xs = [] := List.eq_nil_of_length_eq_zero h0
    subst hx hv'
    refine (nil_add B p M vt ts ao cap w hP).mono ?_
    rintro e w' ⟨h1, rfl⟩
    exact ⟨h1, vt, hP, Kp.refl _ _ _⟩
  · refine (add_any B p M vt ts xs _ _ hP hv (fun b off n' c e hv => ?_) hsz hlen hB).mono ?_
    · have h1 := hb b off n' c e (by omega)
      have := (own_obj hP.own hv).1
      omega
    · rintro e w' ⟨h1, vt', h2, h3, _⟩
      exact ⟨h1, vt', h2, h3⟩
theorem add_own {w : World} (hP : Po B w p M vt ts) (xs : List (List UInt8)) (v : Value) (base : Nat) (hv : w.ownsRow base 9 1 v xs.length (xs.map strV)) (hb : ∀ g, vt.ownBlock = some g → g < base) (hsz : ∀ s ∈ xs, s.length ≤ 100000) (hlen : ts.length + xs.length ≤ 100000) (hB : B ≤ w.heap.size) :
    Calls Tryz.prog 320 #[.pointer (some ⟨p, 0, none⟩), v] w (Added B p M (addL ts xs) w) := by
  have h := add_any B p M vt ts (xs.map ms) v w hP (sl_own hv) (fun b off n' c e hvt => by
    have h1 := hb b hvt
    have h2 : v.ownBlock = some b := by rw [e]; rfl
    have := (own_obj hv h2).1
    omega) (fun s hs => by
      obtain ⟨l, hl, rfl⟩ := List.mem_map.1 hs
      rw [ms_size]; exact hsz l hl) (by simpa using hlen) hB
  rw [ms_bl_map] at h
  refine h.mono ?_
  rintro e w' ⟨h1, vt', h2, h3, _⟩
  exact ⟨h1, vt', h2, h3⟩
theorem flat_step {α β : Type} (f : α → List β) {xs : List α} {k : Nat} {a : α} (h : xs[k]? = some a) : (xs.drop k).flatMap f = f a ++ (xs.drop (k + 1)).flatMap f := by
  obtain ⟨h1, e1⟩ := List.getElem?_eq_some_iff.1 h
  rw [List.drop_eq_getElem_cons h1, e1, List.flatMap_cons]
theorem flat_end {α β : Type} (f : α → List β) {xs : List α} {k : Nat} (h : xs.length ≤ k) : (xs.drop k).flatMap f = [] := by
  rw [List.drop_eq_nil_of_le h]; rfl
end Go.Proofs.YthmepecmeambmaaGreat
namespace Go.Proofs.YthmepecmeambmaaGreat
open Go.RowKit
set_option linter.unusedVariables false

theorem sl_lt {w : World} {α : Type} {k : Nat} {R : World → List Value → α → Prop} {v : Value} {xs : List α} (h : Sl k R w v xs) (hR : ∀ cs a, R w cs a → 0 < cs.length) : ∀ b off n c, v = .slice (some ⟨b, off, none⟩) n c → 0 < xs.length → b < w.heap.size := by
  intro b off n c e hp
  subst e
  obtain ⟨x, hx⟩ : ∃ a, xs[0]? = some a := ⟨_, List.getElem?_eq_getElem hp⟩
  obtain ⟨b', off', cs, ha, hr, hc⟩ := h.at hx
  obtain ⟨rfl, rfl⟩ : b = b' ∧ off = off' := by simpa using ha
  have hl := hR _ _ hr
  obtain ⟨u, hu⟩ : ∃ u, cs[0]? = some u := ⟨_, List.getElem?_eq_getElem hl⟩
  exact World.block_lt_of_cell? _ _ (hc 0 u hu)

/-- How the walk of a pool stands: what is left to add gives the whole. -/
structure At (B p M : Nat) (w1 wr : World) (rest goal : List (List UInt8)) : Prop where
  ex : ∃ vt ts, Po B wr p M vt ts ∧ addL ts rest = goal ∧ ts.length + rest.length ≤ 100000
  kp : Kp B [9, 281] w1 wr
  bw : B ≤ wr.heap.size
theorem At.step {B p M : Nat} {w1 wr w' : World} {ts a rest goal : List (List UInt8)} {e : Ending} (hg : addL ts (a ++ rest) = goal) (hl : ts.length + (a ++ rest).length ≤ 100000) (hk : Kp B [9, 281] w1 wr) (hb : B ≤ wr.heap.size)
    (h : Added B p M (addL ts a) wr e w') : e = .returned (.tuple #[]) ∧ At B p M w1 w' rest goal := by
  obtain ⟨h1, vt', h2, h3⟩ := h
  refine ⟨h1, ⟨vt', _, h2, by rw [← addL_app]; exact hg, ?_⟩, hk.trans h3, Nat.le_trans hb h3.size⟩
  have := addL_len a ts
  rw [List.length_append] at hl
  omega
theorem At.chr {B p M : Nat} {w1 wr w' : World} {rest goal : List (List UInt8)} (h : At B p M w1 wr rest goal) (c : Ch wr w') : At B p M w1 w' rest goal := by
  obtain ⟨⟨vt, ts, h1, h2, h3⟩, h4, h5⟩ := h
  exact ⟨⟨vt, ts, h1.keep c, h2, h3⟩, h4.chr c, Nat.le_trans h5 c.size⟩
theorem At.add2 {B p M : Nat} {w1 wr : World} {x y : ByteArray} {rest goal : List (List UInt8)} (h : At B p M w1 wr (bl x :: bl y :: rest) goal) (hx : x.size ≤ 100000) (hy : y.size ≤ 100000) (g : Nat) (hg : g = wr.heap.size) :
    Calls Tryz.prog 320 #[.pointer (some ⟨p, 0, none⟩), .slice (some ⟨g, 0, none⟩) 2 2] (wr.alloc (.cells #[.string x, .string y] 9)) fun e w' => e = .returned (.tuple #[]) ∧ At B p M w1 w' rest goal ∧ Kp B [9, 281] wr w' := by
  obtain ⟨⟨vt, ts, h1, h2, h3⟩, h4, h5⟩ := h
  refine (add_row h1 g [x, y] 2 _ rfl hg rfl (by omega) (fun s hs => by simp at hs; rcases hs with rfl | rfl <;> assumption) (by simp at h3 ⊢; omega) h5).mono ?_
  intro e w' h
  obtain ⟨a1, a2⟩ := At.step (a := [bl x, bl y]) (rest := rest) h2 h3 h4 h5 h
  obtain ⟨_, vt', _, h7⟩ := h
  exact ⟨a1, a2, h7⟩
theorem At.add1 {B p M : Nat} {w1 wr : World} {x : ByteArray} {rest goal : List (List UInt8)} (h : At B p M w1 wr (bl x :: rest) goal) (hx : x.size ≤ 100000) (g : Nat) (hg : g = wr.heap.size) :
    Calls Tryz.prog 320 #[.pointer (some ⟨p, 0, none⟩), .slice (some ⟨g, 0, none⟩) 1 1] (wr.alloc (.cells #[.string x] 9)) fun e w' => e = .returned (.tuple #[]) ∧ At B p M w1 w' rest goal ∧ Kp B [9, 281] wr w' := by
  obtain ⟨⟨vt, ts, h1, h2, h3⟩, h4, h5⟩ := h
  refine (add_row h1 g [x] 1 _ rfl hg rfl (by omega) (fun s hs => by simp at hs; rcases hs with rfl; assumption) (by simp at h3 ⊢; omega) h5).mono ?_
  intro e w' h
  obtain ⟨a1, a2⟩ := At.step (a := [bl x]) (rest := rest) h2 h3 h4 h5 h
  obtain ⟨_, vt', _, h7⟩ := h
  exact ⟨a1, a2, h7⟩
theorem At.addO {B p M : Nat} {w1 wr w2 : World} {xs rest goal : List (List UInt8)} {v : Value} (h : At B p M w1 wr (xs ++ rest) goal) (hc : Ch wr w2) (hv : w2.ownsRow wr.heap.size 9 1 v xs.length (xs.map strV)) (hsz : ∀ s ∈ xs, s.length ≤ 100000) :
    Calls Tryz.prog 320 #[.pointer (some ⟨p, 0, none⟩), v] w2 fun e w' => e = .returned (.tuple #[]) ∧ At B p M w1 w' rest goal ∧ Kp B [9, 281] w2 w' := by
  obtain ⟨⟨vt, ts, h1, h2, h3⟩, h4, h5⟩ := h
  refine (add_own (h1.keep hc) xs v _ hv (fun g hg => (h1.own.lt g hg).2) hsz (by rw [List.length_append] at h3; omega) (Nat.le_trans h5 hc.size)).mono ?_
  intro e w' h
  obtain ⟨a1, a2⟩ := At.step (rest := rest) h2 h3 (h4.chr hc) (Nat.le_trans h5 hc.size) h
  obtain ⟨_, vt', _, h7⟩ := h
  exact ⟨a1, a2, h7⟩
theorem At.addS {B p M : Nat} {w1 wr : World} {xs : List ByteArray} {rest goal : List (List UInt8)} {v : Value} (h : At B p M w1 wr (xs.map bl ++ rest) goal) (hv : Sl 1 RS wr v xs) (hb : ∀ b off n c, v = .slice (some ⟨b, off, none⟩) n c → 0 < xs.length → b < B) (hsz : ∀ s ∈ xs, s.size ≤ 100000) :
    Calls Tryz.prog 320 #[.pointer (some ⟨p, 0, none⟩), v] wr fun e w' => e = .returned (.tuple #[]) ∧ At B p M w1 w' rest goal ∧ Kp B [9, 281] wr w' := by
  obtain ⟨⟨vt, ts, h1, h2, h3⟩, h4, h5⟩ := h
  refine (add_old h1 xs v hv hb hsz (by rw [List.length_append, List.length_map] at h3; omega) h5).mono ?_
  intro e w' h
  obtain ⟨a1, a2⟩ := At.step (rest := rest) h2 h3 h4 h5 h
  obtain ⟨_, vt', _, h7⟩ := h
  exact ⟨a1, a2, h7⟩
theorem insX_sz {x : Ins} (h : x.c.size ≤ 90000 ∧ x.n.size ≤ 90000 ∧ x.d.size ≤ 90000) : ∀ s ∈ insX x, s.length ≤ 100000 := by
  have hp : ∀ (b : Bool) (t : ByteArray), t.size ≤ 90000 → ∀ s ∈ pickL b t, s.length ≤ 100000 := fun b t ht s hs => by
    cases b
    · simp [pickL] at hs
    · simp [pickL] at hs; subst hs; rw [bl_len]; omega
  intro s hs
  unfold insX at hs
  rcases List.mem_append.1 hs with hs | hs
  · exact hp _ _ h.1 s hs
  · rcases List.mem_append.1 hs with hs | hs
    · exact hp _ _ h.2.1 s hs
    · exact hp _ _ h.2.2 s hs
/-- A pool that is handed back. -/
def PoolR (w : World) (L : List (List UInt8)) (e : Ending) (w' : World) : Prop :=
  ∃ vt M, e = .returned (.agg #[vt, .map (some M)]) ∧ w'.ownsRow w.heap.size 9 1 vt L.length (L.map strV) ∧ Mp w' M L ∧ w.heap.size ≤ M ∧ Ch w w'
theorem info215 : (Tryz.prog.info? 281).map (·.size) = some 2 := by kernel_rfl
theorem run_mk61 (w : World) : (Instr.makeMap 279 none).run Tryz.prog w = .ok (.map (some w.heap.size)) (w.alloc (.map #[] 0)) := by kernel_rfl
end Go.Proofs.YthmepecmeambmaaGreat
namespace Go.Proofs.YthmepecmeambmaaGreat
open Go.RowKit
set_option linter.unusedVariables false

def poolW (w : World) (box : Array Value) : World :=
  (((w.alloc (.cells box 41)).alloc (.cells #[.slice none 0 0, .map none] 281)).alloc (.map #[] 0)).alloc (.cells #[.slice none 0 0, .map (some (w.heap.size + 1 + 1))] 281)
theorem poolW_at (w : World) (box : Array Value) (L : List (List UInt8)) (hl : L.length ≤ 50000) : At (w.heap.size + 1 + 1) (w.heap.size + 1 + 1 + 1) (w.heap.size + 1 + 1) (poolW w box) (poolW w box) L (addL [] L) := by
  refine ⟨⟨.slice none 0 0, [], ⟨?_, World.ownsRow_nil _ _ _ _, ?_, by omega, by omega⟩, rfl, by simp; omega⟩, Kp.refl _ _ _, by simp [poolW]⟩
  · unfold poolW
    have e : w.heap.size + 1 + 1 + 1 = (((w.alloc (.cells box 41)).alloc (.cells #[.slice none 0 0, .map none] 281)).alloc (.map #[] 0)).heap.size := by simp
    rw [e]
    exact heap_alloc_new _ _
  · have e : w.heap.size + 1 + 1 = ((w.alloc (.cells box 41)).alloc (.cells #[.slice none 0 0, .map none] 281)).heap.size := by simp
    unfold poolW
    rw [e]
    exact (Mp.made _).keep (Below.heap_alloc _ _ _ (by simp))
theorem poolW_ch (w : World) (box : Array Value) : Ch (w.alloc (.cells box 41)) (poolW w box) := (((Ch.refl _).alloc _).alloc _).alloc _
theorem poolW_res (w : World) (box : Array Value) : (poolW w box).heap[w.heap.size + 1]? = some (.cells #[.slice none 0 0, .map none] 281) := by
  have e : w.heap.size + 1 = (w.alloc (.cells box 41)).heap.size := by simp
  unfold poolW
  rw [e]
  exact kept_at (((Ch.refl _).alloc _).alloc _) (heap_alloc_new _ _)

theorem one2 (ao : Option Addr) (n c M : Nat) : (#[Value.slice ao n c, .map (some M)].all (·.oneCell')) = true := by kernel_rfl

set_option maxRecDepth 100000 in
set_option maxHeartbeats 8000000 in
theorem poolOf_any (c : Cls) (vi vf vm : Value) (w : World) (h : ClsAt w c vi vf vm) (hF : Fine c) :
    Calls Tryz.prog 277 #[.agg #[.string c.n, .string c.s, .bool c.it, .bool c.ab, vi, vf, vm]] w (PoolR w (poolL c)) := by
  have hmk := run_mk61
  have hA0 := poolW_at w (clsC c vi vf vm) (clsX c) hF.all
  have hC0 := poolW_ch w (clsC c vi vf vm)
  have HR : Hid ((poolW w (clsC c vi vf vm)).heap[w.heap.size + 1]? = some (.cells #[.slice none 0 0, .map none] 281)) := poolW_res _ _
  have HB : Hid ((w.alloc (.cells (clsC c vi vf vm) 41)).heap[w.heap.size]? = some (.cells (clsC c vi vf vm) 41)) := heap_alloc_new _ _
  obtain ⟨hi, hf, hm⟩ := h
  have hbi := sl_lt hi (fun cs a h => by rw [h]; simp)
  obtain ⟨ai, ci, rfl, hi1, hi2⟩ := hi.form
  obtain ⟨af, cf, rfl, hf1, hf2⟩ := hf.form
  obtain ⟨am, cm, rfl, hm1, hm2⟩ := hm.form
  have hsw : Ch w (w.alloc (.cells (clsC c (.slice ai c.im.length ci) (.slice af c.fs.length cf) (.slice am c.me.length cm)) 41)) := (Ch.refl w).alloc _
  have hzw : (w.alloc (.cells (clsC c (.slice ai c.im.length ci) (.slice af c.fs.length cf) (.slice am c.me.length cm)) 41)).heap.size = w.heap.size + 1 := by simp
  have hA0' : At (w.heap.size + 1 + 1) (w.heap.size + 1 + 1 + 1) (w.heap.size + 1 + 1) _ _ (bl c.n :: bl c.s :: (c.im.map bl ++ (c.fs.flatMap fldX ++ c.me.flatMap mthX))) (poolL c) := hA0
  have hfirst := hA0'.add2 hF.n hF.s (w.heap.size + 1 + 1 + 1 + 1) (by simp [poolW])
  have HPW : Hid (∀ W, Ch (poolW w (clsC c (.slice ai c.im.length ci) (.slice af c.fs.length cf) (.slice am c.me.length cm))) W → True) := fun _ _ => trivial
  clear hA0 hA0'
  go_enter Tryz.func277, Tryz.ntmps277
  go_wp2_with fail
  refine hfirst.mono ?_
  rintro e w2 ⟨rfl, hA2, hk2⟩
  clear hfirst HPW hmk hk2
  generalize poolW w (clsC c (.slice ai c.im.length ci) (.slice af c.fs.length cf) (.slice am c.me.length cm)) = w1 at *
  generalize hBB : w.heap.size + 1 + 1 = B at *
  have hBw : w.heap.size + 1 < B := by omega
  clear hBB
  have HC : Hid (∀ W rest goal, At B (B + 1) B w1 W rest goal → Ch (w.alloc (.cells (clsC c (.slice ai c.im.length ci) (.slice af c.fs.length cf) (.slice am c.me.length cm)) 41)) W) := fun W rest goal hA => Kp.ch hC0 hA.kp (by rw [hzw]; omega)
  generalize w.alloc (.cells (clsC c (.slice ai c.im.length ci) (.slice af c.fs.length cf) (.slice am c.me.length cm)) 41) = wb at *
  have hcb2 := HC.out w2 _ _ hA2
  obtain ⟨e0, e1, e2, e3, e4, e5, e6⟩ := clsC_at (kept_at hcb2 HB.out)
  have hI2 := hi.keepS (hsw.trans hcb2)
  have hbi2 : ∀ b off n cc, Value.slice ai c.im.length ci = .slice (some ⟨b, off, none⟩) n cc → 0 < c.im.length → b < B := fun b off n cc e hp => by
    have := hbi b off n cc e hp
    omega
  have him := hA2.addS hI2 hbi2 hF.im
  clear hI2 hbi2 hbi hA2
  go_wp2_with fail
  refine him.mono ?_
  rintro e w3 ⟨rfl, hA3, _⟩
  clear him e0 e1 e2 e3 e4 e5 e6 hcb2
  have hcb3 := HC.out w3 _ _ hA3
  obtain ⟨e0, e1, e2, e3, e4, e5, e6⟩ := clsC_at (kept_at hcb3 HB.out)
  go_wp2
  go_loopw [26] (fun i wr => ∃ k : Nat, k ≤ c.fs.length ∧ i = .int .i64 k ∧ At B (B + 1) B w1 wr ((c.fs.drop k).flatMap fldX ++ c.me.flatMap mthX) (poolL c)) (fun i _ => c.fs.length - (intOf i).toNat)
  case atStart => exact ⟨0, Nat.zero_le _, rfl, by simpa using hA3⟩
  case round =>
    clear e0 e1 e2 e3 e4 e5 e6 hA3 hcb3
    obtain ⟨k, hk, rfl, hA⟩ := hrel
    have hcb := HC.out wr _ _ hA
    by_cases hlt : k < c.fs.length
    · obtain ⟨x, hx⟩ : ∃ a, c.fs[k]? = some a := ⟨_, List.getElem?_eq_getElem hlt⟩
      obtain ⟨x1, x2⟩ := hF.fs x (List.mem_of_getElem? hx)
      obtain ⟨b, off, hao, d0, d1, d2⟩ := (hf.keepF (hsw.trans hcb)).atF hx
      rw [flat_step fldX hx] at hA
      have hA' : At B (B + 1) B w1 (wr.alloc (.cells #[.string x.n, .string x.d, .bool x.st] 103)) (bl x.n :: bl x.d :: ((c.fs.drop (k + 1)).flatMap fldX ++ c.me.flatMap mthX)) (poolL c) := At.chr (by simpa [fldX] using hA) ((Ch.refl wr).alloc _)
      have hadd := hA'.add2 x1 x2 (wr.heap.size + 1) (by simp)
      have HF' : Hid (Fine c) := hF
      clear hA hA' hx hF
      subst hao
      go_wp2_with (first
        | (go_at_call 320; refine hadd.mono ?_; rintro e w4 ⟨rfl, hA4, _⟩))
      go_roundw
      case rel => exact ⟨k + 1, by omega, by go_num, hA4⟩
      case measure => simp [intOf]; omega
    · obtain rfl : k = c.fs.length := by omega
      rw [flat_end fldX (Nat.le_refl _), List.nil_append] at hA
      obtain ⟨e0, e1, e2, e3, e4, e5, e6⟩ := clsC_at (kept_at hcb HB.out)
      go_wp2
      go_loopw [40] (fun i wr2 => ∃ k : Nat, k ≤ c.me.length ∧ i = .int .i64 k ∧ At B (B + 1) B w1 wr2 ((c.me.drop k).flatMap mthX) (poolL c)) (fun i _ => c.me.length - (intOf i).toNat)
      case atStart => exact ⟨0, Nat.zero_le _, rfl, by simpa using hA⟩
      case round =>
        clear e0 e1 e2 e3 e4 e5 e6 hA hcb hlt hk
        obtain ⟨k, hk, rfl, hA⟩ := hrel
        have hcb := HC.out wr _ _ hA
        by_cases hlt : k < c.me.length
        · obtain ⟨m, hx⟩ : ∃ a, c.me[k]? = some a := ⟨_, List.getElem?_eq_getElem hlt⟩
          have hMF := hF.me m (List.mem_of_getElem? hx)
          obtain ⟨b, off, vc, vh, hao, hsc, hsh, z0, z1, z2, z3, z4, z5, z6, z7⟩ := hm.atM hx
          have hcw := hsw.trans hcb
          have d0 := cell_keep hcw z0
          have d1 := cell_keep hcw z1
          have d2 := cell_keep hcw z2
          have d3 := cell_keep hcw z3
          have d4 := cell_keep hcw z4
          have d5 := cell_keep hcw z5
          have d6 := cell_keep hcw z6
          have d7 := cell_keep hcw z7
          clear z0 z1 z2 z3 z4 z5 z6 z7 hcw
          rw [flat_step mthX hx] at hA
          obtain ⟨RR, hRR⟩ : ∃ l, l = (c.me.drop (k + 1)).flatMap mthX := ⟨_, rfl⟩
          rw [← hRR] at hA
          have HRR : Hid (RR = (c.me.drop (k + 1)).flatMap mthX) := hRR
          have hA' : At B (B + 1) B w1 (wr.alloc (.cells (mthC m vc vh) 66)) (bl m.n :: bl m.d :: (m.code.flatMap insX ++ (m.hs.flatMap hndX ++ RR))) (poolL c) := At.chr (by simpa [mthX] using hA) ((Ch.refl wr).alloc _)
          have hadd := hA'.add2 hMF.n (Nat.le_trans hMF.d (by omega)) (wr.heap.size + 1) (by simp)
          have HKB : Hid ((wr.alloc (.cells (mthC m vc vh) 66)).heap[wr.heap.size]? = some (.cells (mthC m vc vh) 66)) := heap_alloc_new _ _
          have HF' : Hid (Fine c) := hF
          have HMF : Hid (MFine m) := hMF
          have HSI : Hid (Sl 6 RI w vc m.code) := hsc
          have HSH : Hid (Sl 4 RH w vh m.hs) := hsh
          obtain ⟨aco, cco, rfl, hq1, hq2⟩ := hsc.form
          obtain ⟨aho, cho, rfl, hq3, hq4⟩ := hsh.form
          have hwr := hA.bw
          clear hA hA' hx hF hMF hsc hsh hRR hi hf
          subst hao
          go_wp2_with (first
            | (go_at_call 320; refine hadd.mono ?_; rintro e w4 ⟨rfl, hA4, hk4⟩; have hb4 := Kp.cells hk4 HKB.out (by decide); obtain ⟨_, _, _, _, _, _, g6, g7⟩ := mthC_at hb4; have hlt4 : wr.heap.size < w4.heap.size := (Array.getElem?_eq_some_iff.1 hb4).1))
          clear hadd
          obtain ⟨G, hG⟩ : ∃ G, G = wr.heap.size := ⟨_, rfl⟩
          rw [← hG] at hb4 g6 g7 hlt4 ⊢
          clear hk4 hG HKB d0 d1 d2 d3 d4 d5 d6 d7
          have hAk : k + 1 ≤ c.me.length := by omega
          go_loopw [53] (fun i wr2 => ∃ k : Nat, k ≤ m.code.length ∧ i = .int .i64 k ∧ At B (B + 1) B w1 wr2 ((m.code.drop k).flatMap insX ++ (m.hs.flatMap hndX ++ RR)) (poolL c) ∧ wr2.heap[G]? = some (.cells (mthC m (.slice aco m.code.length cco) (.slice aho m.hs.length cho)) 66)) (fun i _ => m.code.length - (intOf i).toNat)
          case atStart => exact ⟨0, Nat.zero_le _, rfl, by simpa using hA4, hb4⟩
          case round =>
            clear hA4 hb4 g6 g7 hlt4 hcb hwr
            obtain ⟨j, hj, rfl, hA, hbox⟩ := hrel
            have hcb := HC.out wr _ _ hA
            by_cases hltj : j < m.code.length
            · obtain ⟨x, hx⟩ : ∃ a, m.code[j]? = some a := ⟨_, List.getElem?_eq_getElem hltj⟩
              have hxs := HMF.out.code x (List.mem_of_getElem? hx)
              obtain ⟨b2, off2, hao, d0, d1, d2, d3, d4, d5⟩ := (HSI.out.keepI (hsw.trans hcb)).atI hx
              rw [flat_step insX hx, List.append_assoc] at hA
              have hA' : At B (B + 1) B w1 (wr.alloc (.cells (insC x.op x.a x.b x.c x.n x.d) 62)) (insX x ++ ((m.code.drop (j + 1)).flatMap insX ++ (m.hs.flatMap hndX ++ RR))) (poolL c) := hA.chr ((Ch.refl wr).alloc _)
              have HKW : Hid ((wr.alloc (.cells (insC x.op x.a x.b x.c x.n x.d) 62)).heap[G]? = some (.cells (mthC m (.slice aco m.code.length cco) (.slice aho m.hs.length cho)) 66)) := kept_at ((Ch.refl wr).alloc _) hbox
              have hox := ownX_any x
              unfold Ins.v at hox
              have hix := insX_sz hxs
              clear hA hx hxs
              subst hao
              go_wp2_with (first
                | (go_at_call 321; (with_reducible refine (hox _).mono ?_); rintro e w5 ⟨v5, rfl, ho5, hc5⟩)
                | (go_at_call 320; refine (hA'.addO hc5 ho5 hix).mono ?_; rintro e w6 ⟨rfl, hA6, hk6⟩; have hb6 := Kp.cells hk6 (kept_at hc5 HKW.out) (by decide)))
              go_roundw
              case rel => exact ⟨j + 1, by omega, by go_num, hA6, hb6⟩
              case measure => simp [intOf]; omega
            · obtain rfl : j = m.code.length := by omega
              rw [flat_end insX (Nat.le_refl _), List.nil_append] at hA
              obtain ⟨_, _, _, _, _, _, g6, g7⟩ := mthC_at hbox
              go_wp2
              go_loopw [64] (fun i wr2 => ∃ k : Nat, k ≤ m.hs.length ∧ i = .int .i64 k ∧ At B (B + 1) B w1 wr2 ((m.hs.drop k).flatMap hndX ++ RR) (poolL c)) (fun i _ => m.hs.length - (intOf i).toNat)
              case atStart => exact ⟨0, Nat.zero_le _, rfl, by simpa using hA⟩
              case round =>
                clear hA hbox g6 g7 hcb hltj hj
                obtain ⟨j, hj, rfl, hA⟩ := hrel
                have hcb := HC.out wr _ _ hA
                by_cases hltj : j < m.hs.length
                · obtain ⟨x, hx⟩ : ∃ a, m.hs[j]? = some a := ⟨_, List.getElem?_eq_getElem hltj⟩
                  have hxs := HMF.out.hs x (List.mem_of_getElem? hx)
                  obtain ⟨b2, off2, hao, d0, d1, d2, d3⟩ := (HSH.out.keepH (hsw.trans hcb)).atH hx
                  rw [flat_step hndX hx, List.append_assoc] at hA
                  have hA' : At B (B + 1) B w1 (wr.alloc (.cells #[.int .i64 x.fr, .int .i64 x.to, .int .i64 x.pl, .string x.c] 124)) (bl x.c :: ((m.hs.drop (j + 1)).flatMap hndX ++ RR)) (poolL c) := At.chr (by simpa [hndX] using hA) ((Ch.refl wr).alloc _)
                  have hadd := hA'.add1 hxs (wr.heap.size + 1) (by simp)
                  clear hA hA' hx hxs
                  subst hao
                  go_wp2_with (first
                    | (go_at_call 320; refine hadd.mono ?_; rintro e w6 ⟨rfl, hA6, _⟩))
                  go_roundw
                  case rel => exact ⟨j + 1, by omega, by go_num, hA6⟩
                  case measure => simp [intOf]; omega
                · obtain rfl : j = m.hs.length := by omega
                  rw [flat_end hndX (Nat.le_refl _), List.nil_append] at hA
                  go_wp2
                  go_roundw
                  case rel => exact ⟨k + 1, hAk, by go_num, by rw [← HRR.out]; exact hA⟩
                  case measure => simp [intOf]; omega
        · obtain rfl : k = c.me.length := by omega
          rw [flat_end mthX (Nat.le_refl _)] at hA
          obtain ⟨⟨vt, ts, hP, hts, _⟩, hkp, hbw⟩ := hA
          rw [addL] at hts
          subst hts
          have c0 := hP.c0
          have c1 := hP.c1
          have hres := (hkp.block (w.heap.size + 1) (Array.getElem?_eq_some_iff.1 HR.out).1 (Or.inl hBw)).trans HR.out
          have HRES : Hid (wr.heap[w.heap.size + 1]? = some (.cells #[.slice none 0 0, .map none] 281)) := hres
          have HP : Hid (Po B wr (B + 1) B vt (poolL c)) := hP
          obtain ⟨av, cv, rfl⟩ := own_form hP.own
          have hcw : Ch w wr := hsw.trans hcb
          clear hP hres hkp hcb hF
          go_wp2_with (first
            | (refine wpList_store_row rfl 281 (.tmp 2) (.tmp 74) rfl (w.heap.size + 1) #[.slice av (poolL c).length cv, .map (some B)] rfl rfl 281 #[.slice none 0 0, .map none] HRES.out info215 rfl (one2 _ _ _ _) ?_))
          refine bodyPost_ret (results_cell_row rfl _ _ (w.heap.size + 1) 281 _ (0, 0) _ rfl (setRow_heap _ _ _ _ _ _ HRES.out) Tryz.underlying281 rfl info215) rfl ?_
          have hne : ∀ g, B ≤ g → (wr.setRow (w.heap.size + 1) #[.slice av (poolL c).length cv, .map (some B)]).heap[g]? = wr.heap[g]? := fun g hg => setRow_other _ _ _ _ (by omega)
          refine ⟨_, B, rfl, ?_, ?_, by omega, hcw.setRow _ _ (by omega)⟩
          · exact ownsRow_base (ownsRow_same HP.out.own (fun g hg => hne g (own_obj HP.out.own hg).1)) (by omega)
          · exact HP.out.mp.keep (hne B (Nat.le_refl _))
end Go.Proofs.YthmepecmeambmaaGreat
