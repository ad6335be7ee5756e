/- Names in their order; classes by their names; the way up; interfaces. -/
/- What goes together: the way up, interfaces, the eight rules, the given classes. -/
import Derived.Test.YthmepecmeambmaaGreatKKp
import Derived.Lib.Bytealg
namespace Go.Proofs.YthmepecmeambmaaGreat
set_option linter.unusedVariables false

/-- Are two texts one? -/
def nq (a b : ByteArray) : Bool := bl a == bl b
theorem nq_iff {a b : ByteArray} : nq a b = true ↔ a = b := by
  unfold nq
  rw [beq_iff_eq]
  exact ⟨bl_ext, fun h => by rw [h]⟩
theorem nq_no {a b : ByteArray} : nq a b = false ↔ a ≠ b := by
  rw [← Bool.not_eq_true, nq_iff]
theorem nq_self (a : ByteArray) : nq a a = true := nq_iff.2 rfl
theorem nq_comm (a b : ByteArray) : nq a b = nq b a := by
  rw [Bool.eq_iff_iff, nq_iff, nq_iff]; exact ⟨Eq.symm, Eq.symm⟩
theorem toList_nq (a b : ByteArray) : (a.toList == b.toList) = nq a b := by rw [bl_toList, bl_toList]; rfl
def hasN (l : List ByteArray) (n : ByteArray) : Bool := l.any fun x => nq x n
theorem hasN_iff {l : List ByteArray} {n : ByteArray} : hasN l n = true ↔ n ∈ l := by
  unfold hasN
  rw [List.any_eq_true]
  constructor
  · rintro ⟨x, hx, h⟩; rw [nq_iff.1 h] at hx; exact hx
  · intro h; exact ⟨n, h, nq_self n⟩
theorem hasN_no {l : List ByteArray} {n : ByteArray} : hasN l n = false ↔ n ∉ l := by rw [← hasN_iff, Bool.not_eq_true]

/-! The order of bytes. -/
abbrev cb := Lib.compareBytes
theorem u8_lt_asymm {a b : UInt8} (h : a < b) : ¬ b < a := by rw [UInt8.lt_iff_toNat_lt] at *; omega
theorem cb_self : ∀ a : List UInt8, cb a a = 0
  | [] => rfl
  | x :: a => by simp [cb, Lib.compareBytes, UInt8.lt_irrefl]; exact cb_self a
theorem cb_neg : ∀ a b : List UInt8, cb b a = - cb a b
  | [], [] => rfl
  | [], _ :: _ => rfl
  | _ :: _, [] => rfl
  | x :: a, y :: b => by
    have ih := cb_neg a b
    simp only [cb, Lib.compareBytes] at *
    by_cases h1 : x < y
    · have := u8_lt_asymm h1; simp [h1, this]
    · by_cases h2 : y < x
      · simp [h1, h2]
      · simp [h1, h2, ih]
theorem cb_eq : ∀ a b : List UInt8, cb a b = 0 → a = b
  | [], [], _ => rfl
  | [], _ :: _, h => by simp [cb, Lib.compareBytes] at h
  | _ :: _, [], h => by simp [cb, Lib.compareBytes] at h
  | x :: a, y :: b, h => by
    have ih := cb_eq a b
    simp only [cb, Lib.compareBytes] at *
    by_cases h1 : x < y
    · simp [h1] at h
    · by_cases h2 : y < x
      · simp [h1, h2] at h
      · simp only [h1, h2, if_false] at h
        have e : x = y := by rw [← UInt8.toNat_inj]; rw [UInt8.lt_iff_toNat_lt] at h1 h2; omega
        rw [e, ih h]
theorem cb_trans : ∀ a b c : List UInt8, cb a b ≤ 0 → cb b c < 0 → cb a c < 0
  | [], [], c, _, h => h
  | [], _ :: _, [], _, h => by simp [cb, Lib.compareBytes] at h
  | [], _ :: _, _ :: _, _, _ => by simp [cb, Lib.compareBytes]
  | _ :: _, [], c, h, _ => by simp [cb, Lib.compareBytes] at h
  | x :: a, y :: b, [], _, h => by simp [cb, Lib.compareBytes] at h
  | x :: a, y :: b, z :: c, h1, h2 => by
    have ih := cb_trans a b c
    simp only [cb, Lib.compareBytes, UInt8.lt_iff_toNat_lt] at *
    generalize x.toNat = p at *
    generalize y.toNat = q at *
    generalize z.toNat = r at *
    by_cases g1 : p < q
    · by_cases g2 : r < q
      · have g3 : ¬ q < r := by omega
        simp [g2, g3] at h2
      · have g3 : p < r := by omega
        simp [g3]
    · by_cases g3 : q < p
      · simp [g1, g3] at h1
      · have e : p = q := by omega
        subst e
        by_cases g4 : p < r
        · simp [g4]
        · by_cases g5 : r < p
          · simp [g4, g5] at h2
          · simp only [g4, g5, Nat.lt_irrefl, if_false] at *
            exact ih h1 h2
/-- Is one ahead of another? -/
def blt (a b : ByteArray) : Bool := decide (cb (bl a) (bl b) < 0)
theorem blt_irrefl (a : ByteArray) : blt a a = false := by simp [blt, cb_self]
theorem blt_asymm {a b : ByteArray} (h : blt a b = true) : blt b a = false := by
  have := cb_neg (bl a) (bl b)
  simp [blt] at *; omega
theorem blt_trans {a b c : ByteArray} (h1 : blt a b = true) (h2 : blt b c = true) : blt a c = true := by
  simp [blt] at *; exact cb_trans _ _ _ (by omega) h2
theorem blt_tot {a b : ByteArray} (h1 : blt a b = false) (h2 : blt b a = false) : a = b := by
  have := cb_neg (bl a) (bl b)
  simp [blt] at h1 h2
  exact bl_ext (cb_eq _ _ (by omega))
theorem blt_ntrans {a b c : ByteArray} (h1 : blt a b = false) (h2 : blt b c = false) : blt a c = false := by
  cases h : blt a c with
  | false => rfl
  | true =>
    exfalso
    by_cases e : b = c
    · subst e; rw [h] at h1; cases h1
    · have h3 : blt c b = true := by
        cases h3 : blt c b with
        | true => rfl
        | false => exact absurd (blt_tot h2 h3) e
      rw [blt_trans h h3] at h1; cases h1

/-! Rows of names that rise. -/
def Rise : List ByteArray → Prop := List.Pairwise fun a b => blt a b = true
theorem Rise.nodup {l : List ByteArray} (h : Rise l) : l.Nodup := by
  refine List.Pairwise.imp (fun {a b} hab e => ?_) h
  subst e; rw [blt_irrefl] at hab; cases hab
/-- Sorted and each once: they rise. -/
theorem rise_of {l : List ByteArray} (hs : l.Pairwise fun a b => blt b a = false) (hn : l.Nodup) : Rise l := by
  refine List.Pairwise.imp₂ (fun {a b} h1 h2 => ?_) hs hn
  cases h : blt a b with
  | true => rfl
  | false => exact absurd (blt_tot h h1) h2
/-- Two that rise, of the same members, are one. -/
theorem rise_one : ∀ {l k : List ByteArray}, Rise l → Rise k → (∀ x, x ∈ l ↔ x ∈ k) → l = k
  | [], [], _, _, _ => rfl
  | [], y :: k, _, _, h => by have := (h y).2 (by simp); simp at this
  | x :: l, [], _, _, h => by have := (h x).1 (by simp); simp at this
  | x :: l, y :: k, h1, h2, h => by
    obtain ⟨a1, a2⟩ := List.pairwise_cons.1 h1
    obtain ⟨b1, b2⟩ := List.pairwise_cons.1 h2
    have e : x = y := by
      rcases List.mem_cons.1 ((h x).1 (by simp)) with e | hx
      · exact e
      · rcases List.mem_cons.1 ((h y).2 (by simp)) with e | hy
        · exact e.symm
        · have := blt_asymm (b1 x hx); rw [a1 y hy] at this; cases this
    subst e
    refine congrArg _ (rise_one a2 b2 fun z => ?_)
    constructor
    · intro hz
      rcases List.mem_cons.1 ((h z).1 (List.mem_cons_of_mem _ hz)) with e | q
      · subst e; have := a1 z hz; rw [blt_irrefl] at this; cases this
      · exact q
    · intro hz
      rcases List.mem_cons.1 ((h z).2 (List.mem_cons_of_mem _ hz)) with e | q
      · subst e; have := b1 z hz; rw [blt_irrefl] at this; cases this
      · exact q

/-! Classes by their names. -/
def nms (P : List Cls) : List ByteArray := P.map (·.n)
def lk (P : List Cls) (n : ByteArray) : Option Cls := P.find? fun c => nq c.n n
theorem lk_some {P : List Cls} {n : ByteArray} {c : Cls} (h : lk P n = some c) : c ∈ P ∧ c.n = n := ⟨List.mem_of_find?_eq_some h, nq_iff.1 (List.find?_some (p := fun c : Cls => nq c.n n) h)⟩
theorem lk_none {P : List Cls} {n : ByteArray} : lk P n = none ↔ n ∉ nms P := by
  unfold lk nms
  rw [List.find?_eq_none]
  simp only [Bool.not_eq_true, nq_no, List.mem_map, not_exists, not_and]
theorem lk_is {P : List Cls} {n : ByteArray} (h : n ∈ nms P) : ∃ c, lk P n = some c := by
  cases h' : lk P n with
  | some c => exact ⟨c, rfl⟩
  | none => exact absurd h (lk_none.1 h')
theorem lk_of {P : List Cls} (hn : (nms P).Nodup) {c : Cls} (hc : c ∈ P) : lk P c.n = some c := by
  obtain ⟨d, hd⟩ := lk_is (P := P) (n := c.n) (List.mem_map_of_mem hc)
  obtain ⟨h1, h2⟩ := lk_some hd
  rw [hd]
  congr 1
  have : ∀ {l : List Cls}, (l.map (·.n)).Nodup → d ∈ l → c ∈ l → d = c := fun {l} => by
    induction l with
    | nil => intro _ h; cases h
    | cons x l ih =>
      intro hn h1 h3
      rw [List.map_cons, List.nodup_cons] at hn
      rcases List.mem_cons.1 h1 with rfl | g1 <;> rcases List.mem_cons.1 h3 with rfl | g3
      · rfl
      · exact absurd (by rw [h2]; exact List.mem_map_of_mem g3) hn.1
      · exact absurd (by rw [← h2]; exact List.mem_map_of_mem g1) hn.1
      · exact ih hn.2 g1 g3
  exact this hn h1 hc
/-- In another order, if each Name is there once. -/
theorem lk_perm {P Q : List Cls} (h : P.Perm Q) (hn : (nms P).Nodup) (n : ByteArray) : lk P n = lk Q n := by
  have hn' : (nms Q).Nodup := (h.map _).nodup_iff.1 hn
  cases e : lk Q n with
  | none =>
    rw [lk_none] at *
    exact fun hm => e ((h.map (·.n)).mem_iff.1 hm)
  | some c =>
    obtain ⟨h1, rfl⟩ := lk_some e
    exact lk_of hn (h.mem_iff.2 h1)
end Go.Proofs.YthmepecmeambmaaGreat
namespace Go.Proofs.YthmepecmeambmaaGreat
set_option linter.unusedVariables false

/-- The way up from a name, behind those that are on it; or which one comes again. -/
def wk (L : ByteArray → Option Cls) : Nat → ByteArray → List ByteArray → List ByteArray × Option ByteArray
  | 0, _, way => (way, none)
  | f + 1, n, way => match L n with
    | none => (way, none)
    | some c => if hasN way n then ([], some n) else wk L f c.s (way ++ [n])
def walkN (P : List Cls) (n : ByteArray) : List ByteArray × Option ByteArray := wk (lk P) (P.length + 1) n []
/-- Names, each once. -/
def addI : List ByteArray → List ByteArray → List ByteArray
  | l, [] => l
  | l, s :: r => addI (if hasN l s then l else l ++ [s]) r
def imOf (L : ByteArray → Option Cls) (n : ByteArray) : List ByteArray := match L n with | some c => c.im | none => []
def meOf (L : ByteArray → Option Cls) (n : ByteArray) : List Mth := match L n with | some c => c.me | none => []
def addW (L : ByteArray → Option Cls) : List ByteArray → List ByteArray → List ByteArray
  | l, [] => l
  | l, n :: r => addW L (addI l (imOf L n)) r
def ifl (L : ByteArray → Option Cls) : Nat → Nat → List ByteArray → List ByteArray
  | 0, _, l => l
  | f + 1, k, l => match l[k]? with
    | none => l
    | some s => ifl L f (k + 1) (addI l (imOf L s))
def ifs (P : List Cls) (n : ByteArray) : List ByteArray := ifl (lk P) (P.length + 1) 0 (addW (lk P) [] (walkN P n).1)
/-- Does one stand there twice? -/
def tw {α : Type} (f : α → α → Bool) : List α → List α → Bool
  | _, [] => false
  | p, x :: r => p.any (fun y => f y x) || tw f (p ++ [x]) r
def nd2 (x y : ByteArray × ByteArray) : Bool := nq x.1 y.1 && nq x.2 y.2

abbrev nObject : ByteArray := ⟨#[79, 98, 106, 101, 99, 116]⟩
abbrev nSys : ByteArray := ⟨#[83, 121, 115]⟩
abbrev nClinit : ByteArray := ⟨#[60, 99, 108, 105, 110, 105, 116, 62]⟩
abbrev nInit : ByteArray := ⟨#[60, 105, 110, 105, 116, 62]⟩
abbrev nThrow : ByteArray := ⟨#[84, 104, 114, 111, 119, 97, 98, 108, 101]⟩
abbrev nTask : ByteArray := ⟨#[84, 97, 115, 107]⟩
abbrev dV : ByteArray := ⟨#[40, 41, 86]⟩
abbrev nNone : ByteArray := ⟨#[]⟩

def k0 (P : List Cls) (c : Cls) : Bool := (P.filter fun d => nq d.n c.n).length == 1
def k1 (P : List Cls) (c : Cls) : Bool := if c.it then nq c.s nObject else match lk P c.s with
  | none => false
  | some d => !d.it && !nq d.n nSys
def isIf (P : List Cls) (s : ByteArray) : Bool := match lk P s with
  | none => false
  | some d => d.it
def k2 (P : List Cls) (c : Cls) : Bool := c.im.all (isIf P) && !tw nq [] c.im
def k3 (P : List Cls) (c : Cls) : Bool := (match (walkN P c.n).2 with
  | none => true
  | some m => !nq m c.n) && !hasN (ifs P c.n) c.n
def k4 (c : Cls) : Bool := !tw nq [] (c.fs.map (·.n)) && !tw nd2 [] (c.me.map fun m => (m.n, m.d))
def k5 (c : Cls) : Bool := !c.it || (c.ab && (!c.fs.any (fun f => !f.st) && !c.me.any (fun m => !m.ab && !nq m.n nClinit)))
def k6 (c : Cls) : Bool := c.ab || !c.me.any (·.ab)
def answ (L : ByteArray → Option Cls) (way : List ByteArray) (m : Mth) : Bool := way.any fun n => (meOf L n).any fun o => nq o.n m.n && (nq o.d m.d && (!o.st && !o.ab))
def k7 (P : List Cls) (c : Cls) : Bool := c.ab || ((walkN P c.n).1 ++ ifs P c.n).all fun n => (meOf (lk P) n).all fun m => !(m.ab && !answ (lk P) (walkN P c.n).1 m)
def keeps (P : List Cls) (c : Cls) : Nat → Bool
  | 0 => k0 P c
  | 1 => k1 P c
  | 2 => k2 P c
  | 3 => k3 P c
  | 4 => k4 c
  | 5 => k5 c
  | 6 => k6 c
  | _ => k7 P c

/-! The given classes. -/
def retI : Ins := ⟨36, 0, 0, nNone, nNone, nNone⟩
def initM : Mth := ⟨nInit, dV, false, false, 0, 1, [retI], []⟩
def initC (n s : ByteArray) : Cls := ⟨n, s, false, false, [], [], [initM]⟩
def exN : List ByteArray := [⟨#[78, 117, 108, 108, 69, 120]⟩, ⟨#[66, 111, 117, 110, 100, 115, 69, 120]⟩, ⟨#[83, 116, 111, 114, 101, 69, 120]⟩, ⟨#[67, 97, 115, 116, 69, 120]⟩, ⟨#[65, 114, 105, 116, 104, 69, 120]⟩, ⟨#[77, 101, 109, 69, 120]⟩, ⟨#[68, 101, 112, 116, 104, 69, 120]⟩, ⟨#[73, 110, 105, 116, 69, 120]⟩]
def runM : Mth := ⟨⟨#[114, 117, 110]⟩, dV, false, true, 0, 0, [], []⟩
def taskC : Cls := ⟨nTask, nObject, true, true, [], [], [runM]⟩
def natM (n d : ByteArray) (k : Int) : Mth := ⟨n, d, true, false, 0, k, [retI], []⟩
def sysC : Cls := ⟨nSys, nObject, false, true, [], [], [natM ⟨#[112, 105, 99, 107]⟩ ⟨#[40, 41, 73]⟩ 0, natM ⟨#[101, 99, 104, 111]⟩ ⟨#[40, 76, 79, 98, 106, 101, 99, 116, 59, 41, 76, 79, 98, 106, 101, 99, 116, 59]⟩ 1, natM ⟨#[102, 114, 101, 115, 104]⟩ ⟨#[40, 41, 76, 79, 98, 106, 101, 99, 116, 59]⟩ 0, natM ⟨#[99, 97, 108, 108]⟩ ⟨#[40, 76, 84, 97, 115, 107, 59, 41, 86]⟩ 1]⟩
def given : List Cls := [initC nObject nNone, initC nThrow nObject] ++ exN.map (fun n => initC n nThrow) ++ [taskC, sysC]

/-! Sorted by Name. -/
def ins1 (c : Cls) : List Cls → List Cls
  | [] => [c]
  | d :: r => if blt d.n c.n then d :: ins1 c r else c :: d :: r
def srt : List Cls → List Cls
  | [] => []
  | c :: r => ins1 c (srt r)
def prog (l : List Cls) : List Cls := srt (given ++ l)
def Srt (P : List Cls) : Prop := (nms P).Pairwise fun a b => blt b a = false
theorem ins1_perm (c : Cls) : ∀ l, (ins1 c l).Perm (c :: l)
  | [] => List.Perm.refl _
  | d :: r => by
    unfold ins1
    split
    · exact ((ins1_perm c r).cons d).trans (List.Perm.swap c d r)
    · exact List.Perm.refl _
theorem srt_perm : ∀ l, (srt l).Perm l
  | [] => List.Perm.refl _
  | c :: r => (ins1_perm c (srt r)).trans ((srt_perm r).cons c)
theorem srt_cons {c : Cls} {l : List Cls} : Srt (c :: l) ↔ (∀ d ∈ l, blt d.n c.n = false) ∧ Srt l := by
  unfold Srt nms
  rw [List.map_cons, List.pairwise_cons]
  simp
theorem ins1_srt (c : Cls) : ∀ l, Srt l → Srt (ins1 c l)
  | [], _ => by simp [ins1, Srt, nms]
  | d :: r, h => by
    obtain ⟨h1, h2⟩ := srt_cons.1 h
    unfold ins1
    split
    · next hlt =>
      refine srt_cons.2 ⟨fun x hx => ?_, ins1_srt c r h2⟩
      rcases List.mem_cons.1 ((ins1_perm c r).mem_iff.1 hx) with rfl | hx
      · exact blt_asymm hlt
      · exact h1 x hx
    · next hlt =>
      refine srt_cons.2 ⟨fun x hx => ?_, h⟩
      rcases List.mem_cons.1 hx with rfl | hx
      · simpa using hlt
      · exact blt_ntrans (h1 x hx) (by simpa using hlt)
theorem srt_srt : ∀ l, Srt (srt l)
  | [] => by simp [srt, Srt, nms]
  | c :: r => ins1_srt c _ (srt_srt r)
theorem prog_perm (l : List Cls) : (prog l).Perm (given ++ l) := srt_perm _
theorem prog_srt (l : List Cls) : Srt (prog l) := srt_srt _
theorem nms_perm {P Q : List Cls} (h : P.Perm Q) : (nms P).Perm (nms Q) := h.map _
/-- Two sorted rows of the same classes, each Name once, are one. -/
theorem srt_one {P Q : List Cls} (h : P.Perm Q) (hP : Srt P) (hQ : Srt Q) (hn : (nms P).Nodup) : P = Q := by
  have hn' : (nms Q).Nodup := (nms_perm h).nodup_iff.1 hn
  have e : nms P = nms Q := rise_one (rise_of hP hn) (rise_of hQ hn') fun x => (nms_perm h).mem_iff
  have hl := h.length_eq
  refine List.ext_getElem hl fun i h1 h2 => ?_
  have hm : P[i] ∈ Q := h.mem_iff.1 (List.getElem_mem h1)
  have a1 := lk_of hn' hm
  have a2 := lk_of hn' (List.getElem_mem h2)
  have e2 : P[i].n = Q[i].n := by
    have : (nms P)[i]'(by simpa [nms] using h1) = (nms Q)[i]'(by simpa [nms] using h2) := by simp only [e]
    simpa [nms] using this
  rw [e2, a2] at a1
  exact (Option.some.inj a1).symm

/-! Each once. -/
theorem addI_mem : ∀ {l k : List ByteArray} {x : ByteArray}, x ∈ addI l k ↔ x ∈ l ∨ x ∈ k
  | l, [], x => by simp [addI]
  | l, s :: r, x => by
    rw [addI, addI_mem]
    cases h : hasN l s with
    | true =>
      rw [if_pos rfl, List.mem_cons]
      have := hasN_iff.1 h
      constructor
      · rintro (h | h)
        · exact Or.inl h
        · exact Or.inr (Or.inr h)
      · rintro (h | rfl | h)
        · exact Or.inl h
        · exact Or.inl this
        · exact Or.inr h
    | false =>
      rw [if_neg (by simp), List.mem_append, List.mem_singleton, List.mem_cons, or_assoc]
theorem addI_nodup : ∀ {l k : List ByteArray}, l.Nodup → (addI l k).Nodup
  | l, [], h => h
  | l, s :: r, h => by
    rw [addI]
    refine addI_nodup ?_
    cases hs : hasN l s with
    | true => rw [if_pos rfl]; exact h
    | false =>
      rw [if_neg (by simp)]
      exact List.nodup_append.2 ⟨h, by simp, fun x hx y hy e => by rw [List.mem_singleton] at hy; subst e; subst hy; exact hasN_no.1 hs hx⟩
theorem addI_app : ∀ {l k m : List ByteArray}, addI l (k ++ m) = addI (addI l k) m
  | l, [], m => rfl
  | l, s :: r, m => by rw [List.cons_append, addI, addI_app]; rfl
theorem addI_snoc (l k : List ByteArray) (s : ByteArray) : addI l (k ++ [s]) = if hasN (addI l k) s then addI l k else addI l k ++ [s] := by rw [addI_app]; rfl
/-- Nodup, and among those of another: no longer. -/
theorem nodup_le {α : Type} : ∀ {l k : List α}, l.Nodup → (∀ x ∈ l, x ∈ k) → l.length ≤ k.length
  | [], k, _, _ => Nat.zero_le _
  | x :: l, k, hn, h => by
    obtain ⟨h1, h2⟩ := List.nodup_cons.1 hn
    obtain ⟨a, b, e⟩ := List.append_of_mem (h x (by simp))
    subst e
    have : l.length ≤ (a ++ b).length := nodup_le h2 fun y hy => by
      have := h y (List.mem_cons_of_mem _ hy)
      simp at this ⊢
      rcases this with h | rfl | h
      · exact Or.inl h
      · exact absurd hy h1
      · exact Or.inr h
    simp at this ⊢
    omega
/-- No name twice. -/
theorem tw_no {l : List ByteArray} : ∀ {p : List ByteArray}, tw nq p l = false ↔ (∀ x ∈ l, x ∉ p) ∧ l.Nodup := by
  induction l with
  | nil => intro p; simp [tw]
  | cons x r ih =>
    intro p
    rw [tw, Bool.or_eq_false_iff, ih]
    have : (p.any fun y => nq y x) = hasN p x := rfl
    rw [this, hasN_no, List.nodup_cons]
    constructor
    · rintro ⟨h1, h2, h3⟩
      refine ⟨fun y hy => ?_, fun hx => h2 x hx (by simp), h3⟩
      rcases List.mem_cons.1 hy with rfl | hy
      · exact h1
      · exact fun q => h2 y hy (by simp [q])
    · rintro ⟨h1, h2, h3⟩
      refine ⟨h1 x (by simp), fun y hy q => ?_, h3⟩
      rcases List.mem_append.1 q with q | q
      · exact h1 y (by simp [hy]) q
      · rw [List.mem_singleton] at q; subst q; exact h2 hy
theorem nd2_iff {x y : ByteArray × ByteArray} : nd2 x y = true ↔ x = y := by
  unfold nd2
  rw [Bool.and_eq_true, nq_iff, nq_iff]
  exact ⟨fun ⟨a, b⟩ => Prod.ext a b, fun h => by rw [h]; exact ⟨rfl, rfl⟩⟩

/-! Places. -/
def ixN (P : List Cls) (n : ByteArray) : Option Nat := P.findIdx? fun c => nq c.n n
theorem ix_lk (P : List Cls) (n : ByteArray) : lk P n = (ixN P n).bind (P[·]?) := by
  unfold lk ixN
  induction P with
  | nil => rfl
  | cons c r ih =>
    rw [List.find?_cons, List.findIdx?_cons]
    cases h : nq c.n n with
    | true => rfl
    | false =>
      rw [ih]
      cases List.findIdx? (fun c => nq c.n n) r <;> rfl
theorem ix_some {P : List Cls} {n : ByteArray} {i : Nat} (h : ixN P n = some i) : ∃ c, P[i]? = some c ∧ lk P n = some c ∧ i < P.length := by
  obtain ⟨hlt, _⟩ := List.findIdx?_eq_some_iff_getElem.1 h
  refine ⟨P[i], List.getElem?_eq_getElem hlt, ?_, hlt⟩
  rw [ix_lk, h]
  exact List.getElem?_eq_getElem hlt
theorem ix_none {P : List Cls} {n : ByteArray} : ixN P n = none ↔ lk P n = none := by
  rw [lk_none]
  unfold ixN nms
  rw [List.findIdx?_eq_none_iff]
  simp only [nq_no, List.mem_map, not_exists, not_and]
theorem ix_inj {P : List Cls} {a b : ByteArray} {i : Nat} (h1 : ixN P a = some i) (h2 : ixN P b = some i) : a = b := by
  obtain ⟨c, e1, e2, _⟩ := ix_some h1
  obtain ⟨d, e3, e4, _⟩ := ix_some h2
  have : c = d := Option.some.inj (e1.symm.trans e3)
  subst this
  rw [← (lk_some e2).2, ← (lk_some e4).2]
theorem ix_of_lk {P : List Cls} {n : ByteArray} {c : Cls} (h : lk P n = some c) : ∃ i, ixN P n = some i ∧ P[i]? = some c := by
  cases e : ixN P n with
  | none => rw [ix_none.1 e] at h; cases h
  | some i =>
    obtain ⟨d, h1, h2, _⟩ := ix_some e
    rw [h] at h2
    cases h2
    exact ⟨i, rfl, h1⟩
/-- How many are ahead of a name: the place where it must stand. -/
theorem srt_count {P : List Cls} (h : Srt P) (n : ByteArray) : P.countP (fun c => blt c.n n) = P.findIdx (fun c => !blt c.n n) := by
  induction P with
  | nil => rfl
  | cons c r ih =>
    obtain ⟨h1, h2⟩ := srt_cons.1 h
    rw [List.countP_cons, List.findIdx_cons, ih h2]
    cases e : blt c.n n with
    | true => simp
    | false =>
      have hr : r.findIdx (fun c => !blt c.n n) = 0 := by
        cases r with
        | nil => rfl
        | cons d r =>
          rw [List.findIdx_cons]
          have : blt d.n n = false := blt_ntrans (h1 d (by simp)) e
          simp [this]
      simp [hr]
/-- The search's answer. -/
theorem srt_find {P : List Cls} (h : Srt P) (n : ByteArray) (i : Nat) (hi : i = P.findIdx (fun c => !blt c.n n)) :
    ixN P n = match P[i]? with | some c => if nq c.n n then some i else none | none => none := by
  subst hi
  induction P with
  | nil => rfl
  | cons c r ih =>
    obtain ⟨h1, h2⟩ := srt_cons.1 h
    unfold ixN at *
    rw [List.findIdx?_cons, List.findIdx_cons]
    cases e : blt c.n n with
    | true =>
      have hne : nq c.n n = false := by rw [nq_no]; rintro rfl; rw [blt_irrefl] at e; cases e
      rw [hne, ih h2]
      simp only [Bool.not_true, cond_false, List.getElem?_cons_succ, Bool.false_eq_true, if_false]
      cases r[r.findIdx fun c => !blt c.n n]? with
      | none => rfl
      | some d => dsimp only; split <;> rfl
    | false =>
      simp only [Bool.not_false, cond_true, List.getElem?_cons_zero]
      cases hq : nq c.n n with
      | true => rfl
      | false =>
        have hgt : blt n c.n = true := by
          cases q : blt n c.n with
          | true => rfl
          | false => exact absurd (blt_tot e q) (nq_no.1 hq)
        have hno : ∀ d ∈ r, nq d.n n = false := fun d hd => by
          rw [nq_no]
          intro ed
          have := h1 d hd
          rw [ed, hgt] at this
          cases this
        simp only [Bool.false_eq_true, if_false]
        rw [List.findIdx?_eq_none_iff.2 hno]
        rfl

/-! What Classes answers. -/
def given_nms : List ByteArray := nms given
/-- The first that breaks the first rule that any breaks. -/
def badC (P l : List Cls) : Nat → Nat → Option Cls
  | 0, _ => none
  | f + 1, r => match l.find? fun c => !keeps P c r with
    | some c => some c
    | none => badC P l f (r + 1)
/-- The error and the Name. -/
def linkE (E : Cls → Int) (l : List Cls) : Int × ByteArray :=
  if 30 < l.length then (5, nNone) else match l.find? fun c => !(E c == 0) with
  | some c => (E c, c.n)
  | none => match badC (prog l) l 8 0 with
    | some c => (8, c.n)
    | none => (0, nNone)
theorem k0_perm {P Q : List Cls} (h : P.Perm Q) (c : Cls) : k0 P c = k0 Q c := by
  unfold k0; rw [(h.filter _).length_eq]
end Go.Proofs.YthmepecmeambmaaGreat
