/- The pool of a class. -/
import Derived.Test.YtdalibfgkkgcpaaGreatPoolB
import Derived.Test.YtdalibfgkkgcpaaGreatBulk
namespace Go.Proofs.YtdalibfgkkgcpaaGreat
open Go.RowKit
set_option linter.unusedVariables false

def fldX (f : Fld) : List (List UInt8) := [bl f.n, bl f.d]
def hndX (h : Hnd) : List (List UInt8) := [bl h.c]
def mthX (m : Mth) : List (List UInt8) := [bl m.n, bl m.d] ++ (m.code.flatMap insX ++ m.hs.flatMap hndX)
def clsX (c : Cls) : List (List UInt8) := [bl c.n, bl c.s] ++ (c.im.map bl ++ (c.fs.flatMap fldX ++ c.me.flatMap mthX))
def poolL (c : Cls) : List (List UInt8) := addL [] (clsX c)

structure MFine (m : Mth) : Prop where
  n : m.n.size ≤ 100000
  d : m.d.size ≤ 90000
  code : ∀ x ∈ m.code, x.c.size ≤ 90000 ∧ x.n.size ≤ 90000 ∧ x.d.size ≤ 90000
  hs : ∀ h ∈ m.hs, h.c.size ≤ 100000
structure Fine (c : Cls) : Prop where
  n : c.n.size ≤ 100000
  s : c.s.size ≤ 100000
  im : ∀ s ∈ c.im, s.size ≤ 100000
  fs : ∀ f ∈ c.fs, f.n.size ≤ 100000 ∧ f.d.size ≤ 100000
  me : ∀ m ∈ c.me, MFine m
  all : (clsX c).length ≤ 50000

theorem sum_mem {α : Type} (f : α → Nat) : ∀ (l : List α) (x : α), x ∈ l → f x ≤ (l.map f).sum
  | y :: l, x, h => by
    rw [List.map_cons, List.sum_cons]
    rcases List.mem_cons.1 h with rfl | h
    · omega
    · have := sum_mem f l x h; omega
theorem flat_len {α β : Type} (g : α → List β) (f : α → Nat) (k : Nat) (h : ∀ x, (g x).length ≤ k * f x) : ∀ l : List α, (l.flatMap g).length ≤ k * (l.map f).sum
  | [] => by simp
  | x :: l => by
    have h1 := flat_len g f k h l
    have h2 := h x
    rw [List.flatMap_cons, List.length_append, List.map_cons, List.sum_cons, Nat.mul_add]
    omega
theorem insX_len (x : Ins) : (insX x).length ≤ 3 * insT x := by
  have h : ∀ (b : Bool) (s : ByteArray), (pickL b s).length ≤ 1 := fun b s => by cases b <;> simp [pickL]
  unfold insX insT
  rw [List.length_append, List.length_append]
  have h1 := h (sC (kd (ix x.op))) x.c
  have h2 := h (sN (kd (ix x.op))) x.n
  have h3 := h (sD (kd (ix x.op))) x.d
  omega
theorem len_sum {α : Type} (l : List α) : (l.map fun _ => 1).sum = l.length := by induction l with
  | nil => rfl
  | cons x l ih => rw [List.map_cons, List.sum_cons, ih, List.length_cons]; omega
theorem mthX_len (m : Mth) : (mthX m).length ≤ 3 * mthT m := by
  have h1 := flat_len insX insT 3 insX_len m.code
  have h2 := flat_len hndX (fun _ => 1) 1 (fun x => by simp [hndX]) m.hs
  rw [len_sum] at h2
  unfold mthX mthT
  rw [List.length_append, List.length_append]
  simp only [List.length_cons, List.length_nil]
  omega
theorem clsX_len (c : Cls) : (clsX c).length ≤ 3 * clsT c := by
  have h1 := flat_len mthX mthT 3 mthX_len c.me
  have h2 := flat_len fldX (fun f => 1 + f.n.size + f.d.size) 2 (fun x => by simp [fldX]; omega) c.fs
  have h3 : c.im.length ≤ (c.im.map fun s => 1 + s.size).sum := by
    generalize c.im = l
    induction l with
    | nil => simp
    | cons x l ih => rw [List.map_cons, List.sum_cons, List.length_cons]; omega
  unfold clsX clsT
  rw [List.length_append, List.length_append, List.length_append, List.length_map]
  simp only [List.length_cons, List.length_nil]
  omega
theorem mfine_of (m : Mth) (h : mthT m ≤ 12000) : MFine m := by
  unfold mthT at h
  refine ⟨by omega, by omega, fun x hx => ?_, fun x hx => ?_⟩
  · have := sum_mem insT m.code x hx
    unfold insT at this h
    omega
  · have := sum_mem (fun h : Hnd => h.c.size) m.hs x hx
    omega
theorem fine_of (c : Cls) (h : clsT c ≤ 12000) : Fine c := by
  have hl := clsX_len c
  unfold clsT at h hl
  refine ⟨by omega, by omega, fun s hs => ?_, fun f hf => ?_, fun m hm => mfine_of m ?_, by omega⟩
  · have := sum_mem (fun s : ByteArray => 1 + s.size) c.im s hs; omega
  · have := sum_mem (fun f : Fld => 1 + f.n.size + f.d.size) c.fs f hf; omega
  · have := sum_mem mthT c.me m hm; omega

theorem sl_row {w : World} {g : Nat} {xs : List ByteArray} (h : w.heap[g]? = some (.cells (xs.map Value.string).toArray 9)) (n : Nat) (hn : n = xs.length) (hl : n ≤ 100) : Sl 1 RS w (.slice (some ⟨g, 0, none⟩) n n) xs := by
  subst hn
  refine ⟨_, _, rfl, Nat.le_refl _, by omega, fun _ => ⟨g, 0, rfl, fun i a hi => ⟨[.string a], rfl, fun j u hj => ?_⟩⟩⟩
  match j, hj with
  | 0, hj =>
    cases hj
    simp [World.cell?, h, hi]
theorem sl_own {w : World} {base : Nat} {v : Value} {ts : List (List UInt8)} (h : w.ownsRow base 9 1 v ts.length (ts.map strV)) : Sl 1 RS w v (ts.map ms) := by
  rcases h.2 with ⟨hv, h0⟩ | ⟨g, cap, cur, hv, hb, hg, hc1, hc2, hc3, ht⟩
  · rw [hv, List.eq_nil_of_length_eq_zero h0]
    exact ⟨none, 0, rfl, Nat.le_refl _, by omega, fun hp => by simp at hp⟩
  · refine ⟨some ⟨g, 0, none⟩, cap, by rw [hv]; simp, by simpa using hc1, by unfold maxLen at hc2; omega, fun _ => ⟨g, 0, rfl, fun i a hi => ⟨[.string a], rfl, fun j u hj => ?_⟩⟩⟩
    match j, hj with
    | 0, hj =>
      cases hj
      simp only [World.cell?, hg]
      have hil : i < ts.length := by
        have := (List.getElem?_eq_some_iff.1 hi).1
        simpa using this
      have e1 : (cur.toList.take (ts.length * 1))[i]? = (ts.map strV)[i]? := by rw [ht]
      rw [List.getElem?_take_of_lt (by omega)] at e1
      have e2 : (ts.map strV)[i]? = some (.string a) := by
        rw [List.getElem?_map] at hi ⊢
        cases hh : ts[i]? with
        | none => rw [hh] at hi; cases hi
        | some l => rw [hh] at hi; simp at hi; simp [strV, hi]
      rw [e2] at e1
      simpa using e1
theorem ms_bl_map (ts : List (List UInt8)) : (ts.map ms).map bl = ts := by rw [List.map_map]; exact List.map_id' ts

variable {B p M : Nat} {vt : Value} {ts : List (List UInt8)}
/-- What add leaves. -/
def Added (B p M : Nat) (ts : List (List UInt8)) (w : World) (e : Ending) (w' : World) : Prop := e = .returned (.tuple #[]) ∧ ∃ vt', Po B w' p M vt' ts ∧ Kp B [9, 58] w w'
theorem add_row {w : World} (hP : Po B w p M vt ts) (g : Nat) (xs : List ByteArray) (n : Nat) (W : World) (hW : W = w.alloc (.cells (xs.map Value.string).toArray 9)) (hg : g = w.heap.size) (hn : n = xs.length) (hl : n ≤ 100) (hsz : ∀ s ∈ xs, s.size ≤ 100000) (hlen : ts.length + xs.length ≤ 100000) (hB : B ≤ w.heap.size) :
    Calls Tryz.prog 59 #[.pointer (some ⟨p, 0, none⟩), .slice (some ⟨g, 0, none⟩) n n] W (Added B p M (addL ts (xs.map bl)) w) := by
  subst hW hg
  refine (add_any B p M vt ts xs _ _ (hP.keep ((Ch.refl w).alloc _)) (sl_row (heap_alloc_new _ _) n hn hl) (fun b off n' c e hv => ?_) hsz hlen (by simp; omega)).mono ?_
  · obtain ⟨⟨rfl, _⟩, _⟩ : (w.heap.size = b ∧ 0 = off) ∧ _ := by simpa using e
    have := (hP.own.lt _ hv).2
    omega
  · rintro e w' ⟨h1, vt', h2, h3, _⟩
    exact ⟨h1, vt', h2, ((Kp.refl _ _ w).alloc _).trans h3⟩
theorem nil_add (B p M : Nat) (vt : Value) (ts : List (List UInt8)) (ao : Option Addr) (cap : Nat) (w : World) (hP : Po B w p M vt ts) :
    Calls Tryz.prog 59 #[.pointer (some ⟨p, 0, none⟩), .slice ao ([] : List ByteArray).length cap] w fun e w' => e = .returned (.tuple #[]) ∧ w' = w := by
  go_enter Tryz.func59, Tryz.ntmps59
  go_wp2
  go_loopw [10] (fun i wr => i = .int .i64 0 ∧ wr = w) (fun _ _ => 0)
  case atStart => exact ⟨rfl, rfl⟩
  case round =>
    obtain ⟨rfl, rfl⟩ := hrel
    go_wp2
    go_end0
    exact ⟨rfl, rfl⟩
theorem add_old {w : World} (hP : Po B w p M vt ts) (xs : List ByteArray) (v : Value) (hv : Sl 1 RS w v xs) (hb : ∀ b off n c, v = .slice (some ⟨b, off, none⟩) n c → 0 < xs.length → b < B) (hsz : ∀ s ∈ xs, s.size ≤ 100000) (hlen : ts.length + xs.length ≤ 100000) (hB : B ≤ w.heap.size) :
    Calls Tryz.prog 59 #[.pointer (some ⟨p, 0, none⟩), v] w (Added B p M (addL ts (xs.map bl)) w) := by
  by_cases h0 : xs.length = 0
  · obtain ⟨ao, cap, hv', h1, h2, _⟩ := hv
    have hx : xs = [] := List.eq_nil_of_length_eq_zero h0
    subst hx hv'
    refine (nil_add B p M vt ts ao cap w hP).mono ?_
    rintro e w' ⟨h1, rfl⟩
    exact ⟨h1, vt, hP, Kp.refl _ _ _⟩
  · refine (add_any B p M vt ts xs _ _ hP hv (fun b off n' c e hv => ?_) hsz hlen hB).mono ?_
    · have h1 := hb b off n' c e (by omega)
      have := (own_obj hP.own hv).1
      omega
    · rintro e w' ⟨h1, vt', h2, h3, _⟩
      exact ⟨h1, vt', h2, h3⟩
theorem add_own {w : World} (hP : Po B w p M vt ts) (xs : List (List UInt8)) (v : Value) (base : Nat) (hv : w.ownsRow base 9 1 v xs.length (xs.map strV)) (hb : ∀ g, vt.ownBlock = some g → g < base) (hsz : ∀ s ∈ xs, s.length ≤ 100000) (hlen : ts.length + xs.length ≤ 100000) (hB : B ≤ w.heap.size) :
    Calls Tryz.prog 59 #[.pointer (some ⟨p, 0, none⟩), v] w (Added B p M (addL ts xs) w) := by
  have h := add_any B p M vt ts (xs.map ms) v w hP (sl_own hv) (fun b off n' c e hvt => by
    have h1 := hb b hvt
    have h2 : v.ownBlock = some b := by rw [e]; rfl
    have := (own_obj hv h2).1
    omega) (fun s hs => by
      obtain ⟨l, hl, rfl⟩ := List.mem_map.1 hs
      rw [ms_size]; exact hsz l hl) (by simpa using hlen) hB
  rw [ms_bl_map] at h
  refine h.mono ?_
  rintro e w' ⟨h1, vt', h2, h3, _⟩
  exact ⟨h1, vt', h2, h3⟩
theorem flat_step {α β : Type} (f : α → List β) {xs : List α} {k : Nat} {a : α} (h : xs[k]? = some a) : (xs.drop k).flatMap f = f a ++ (xs.drop (k + 1)).flatMap f := by
  obtain ⟨h1, e1⟩ := List.getElem?_eq_some_iff.1 h
  rw [List.drop_eq_getElem_cons h1, e1, List.flatMap_cons]
theorem flat_end {α β : Type} (f : α → List β) {xs : List α} {k : Nat} (h : xs.length ≤ k) : (xs.drop k).flatMap f = [] := by
  rw [List.drop_eq_nil_of_le h]; rfl
end Go.Proofs.YtdalibfgkkgcpaaGreat
