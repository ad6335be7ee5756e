/- Do classes go together, and if not, of which is it told? -/
/- The eight rules by their number; Classes: the walk over the rules. -/
import Derived.Test.YthmepecmeambmaaGreatKLkQ
import Derived.Test.YthmepecmeambmaaGreatKLkV
import Derived.Test.YthmepecmeambmaaGreatKLkU
import Derived.Test.YthmepecmeambmaaGreatKLkY
import Derived.Test.YthmepecmeambmaaGreatKLkZ
import Derived.Test.YthmepecmeambmaaGreatKChkF
import Derived.Shelf.Abstract
namespace Go.Proofs.YthmepecmeambmaaGreat
open Go.RowKit
set_option linter.unusedVariables false

/-- The first class that breaks rule r; of rules, in their order. -/
def brk (P l : List Cls) (r : Nat) : Option Cls := l.find? fun c => !keeps P c r
def brkR (P l : List Cls) (rs : List Nat) : Option Cls := rs.findSome? (brk P l)
/-- The program, or none; which error; of which class. -/
def link (l : List Cls) : Option (List Cls) × Int × ByteArray :=
  if 30 < l.length then (none, 5, nNone)
  else match l.find? fun c => chkE c != 0 with
    | some c => (none, chkE c, c.n)
    | none => match brkR (prog l) l [0, 1, 2, 3, 4, 5, 6, 7] with
      | some c => (none, 8, c.n)
      | none => (some (prog l), 0, nNone)

/-- The given classes: how they are told apart; nothing in them is long. -/
theorem given_nodup : (nms given).Nodup := by decide +kernel
theorem given_im : ∀ c ∈ given, c.im = [] := by
  intro c hc
  have : given.all (fun c => c.im.isEmpty) = true := by decide +kernel
  have := List.all_eq_true.1 this c hc
  simpa using this
theorem brk_none {P l : List Cls} {r : Nat} : brk P l r = none ↔ ∀ c ∈ l, keeps P c r = true := by
  unfold brk
  rw [List.find?_eq_none]
  simp
theorem one_nodup : ∀ {l : List Cls}, (∀ c ∈ l, (l.filter fun d => nq d.n c.n).length ≤ 1) → (l.map (·.n)).Nodup
  | [], _ => by simp
  | c :: r, h => by
    rw [List.map_cons, List.nodup_cons]
    refine ⟨fun hm => ?_, one_nodup fun d hd => ?_⟩
    · obtain ⟨d, hd, hdn⟩ := List.mem_map.1 hm
      have h1 := h c (by simp)
      rw [List.filter_cons_of_pos (by exact nq_iff.2 rfl), List.length_cons] at h1
      have a1 : 0 < (r.filter fun x => nq x.n c.n).length := List.length_pos_of_mem (List.mem_filter.2 ⟨hd, nq_iff.2 hdn⟩)
      omega
    · have h1 := h d (List.mem_cons_of_mem _ hd)
      rw [List.filter_cons] at h1
      split at h1
      · rw [List.length_cons] at h1; omega
      · exact h1
/-- Where no class breaks rule 0, no two have one Name. -/
theorem nodup_of {P l : List Cls} (hP : P.Perm (given ++ l)) (h : brk P l 0 = none) : (nms P).Nodup := by
  have hk : ∀ c ∈ l, k0 (given ++ l) c = true := fun c hc => by rw [← k0_perm hP]; exact brk_none.1 h c hc
  refine (nms_perm hP).nodup_iff.2 ?_
  unfold nms
  rw [List.map_append]
  have hone : ∀ c ∈ l, ((given ++ l).filter fun d => nq d.n c.n).length = 1 := fun c hc => by
    have := hk c hc
    unfold k0 at this
    simpa using this
  refine List.nodup_append.2 ⟨given_nodup, ?_, ?_⟩
  · refine one_nodup fun c hc => ?_
    have h1 := hone c hc
    rw [List.filter_append, List.length_append] at h1
    omega
  · intro x hx y hy e
    subst e
    obtain ⟨d, hd, hdx⟩ := List.mem_map.1 hx
    obtain ⟨c, hc, hcx⟩ := List.mem_map.1 hy
    have h1 := hone c hc
    rw [List.filter_append, List.length_append] at h1
    have a1 : 0 < (given.filter fun d => nq d.n c.n).length := List.length_pos_of_mem (List.mem_filter.2 ⟨hd, nq_iff.2 (by rw [hdx, hcx])⟩)
    have a2 : 0 < (l.filter fun d => nq d.n c.n).length := List.length_pos_of_mem (List.mem_filter.2 ⟨hc, nq_iff.2 rfl⟩)
    omega
theorem lenS_sum : ∀ l : List ByteArray, l.length ≤ (l.map fun s => 1 + s.size).sum
  | [] => by simp
  | s :: r => by have := lenS_sum r; simp; omega
theorem len_sumF : ∀ l : List Fld, l.length ≤ (l.map fun f => 1 + f.n.size + f.d.size).sum
  | [] => by simp
  | s :: r => by have := len_sumF r; simp; omega
theorem len_sumM : ∀ l : List Mth, l.length ≤ (l.map mthT).sum
  | [] => by simp
  | s :: r => by
    have := len_sumM r
    have e : 1 ≤ mthT s := by unfold mthT; omega
    simp; omega
end Go.Proofs.YthmepecmeambmaaGreat
namespace Go.Proofs.YthmepecmeambmaaGreat
open Go.RowKit
set_option linter.unusedVariables false

theorem keeps_any (r : Nat) (hr : r < 8) (c : Cls) (vi vf vm : Value) (P : List Cls) (g b : Nat) (w : World) (h : Pm w g b P) (hI : 3 ≤ r → imIn P) (hc : ClsAt w c vi vf vm) (l1 : c.fs.length ≤ 12000) (l2 : c.me.length ≤ 12000) :
    Calls Tryz.prog (154 + r) #[.pointer (some ⟨g, 0, none⟩), .agg #[.string c.n, .string c.s, .bool c.it, .bool c.ab, vi, vf, vm]] w fun e w' => e = .returned (.bool (keeps P c r)) ∧ Ch w w' := by
  match r, hr with
  | 0, _ => exact alone_any c vi vf vm P g b w h hc
  | 1, _ => exact hasSuper_any c vi vf vm P g b w h hc
  | 2, _ => exact hasInterfaces_any c vi vf vm P g b w h hc
  | 3, _ => exact inNoRing_any c vi vf vm P g b w h (hI (by omega)) hc
  | 4, _ => exact membersOnce_any c vi vf vm _ w hc l1 l2
  | 5, _ => exact fitInterface_any c vi vf vm _ w hc
  | 6, _ => exact fitConcrete_any c vi vf vm _ w hc
  | 7, _ => exact answersAll_any c vi vf vm P g b w h (hI (by omega)) hc
theorem enters8 (r : Nat) (hr : r < 8) : ∀ args w, (callFunc (154 + r) args).run Tryz.prog w = .ok (.enter (154 + r) args) w := by
  match r, hr with
  | 0, _ => exact enters_of Tryz.func154 (by kernel_rfl) rfl
  | 1, _ => exact enters_of Tryz.func155 (by kernel_rfl) rfl
  | 2, _ => exact enters_of Tryz.func156 (by kernel_rfl) rfl
  | 3, _ => exact enters_of Tryz.func157 (by kernel_rfl) rfl
  | 4, _ => exact enters_of Tryz.func158 (by kernel_rfl) rfl
  | 5, _ => exact enters_of Tryz.func159 (by kernel_rfl) rfl
  | 6, _ => exact enters_of Tryz.func160 (by kernel_rfl) rfl
  | 7, _ => exact enters_of Tryz.func161 (by kernel_rfl) rfl
theorem fns_at (r : Nat) (hr : r < 8) : ([154, 155, 156, 157, 158, 159, 160, 161] : List Nat)[r]? = some (154 + r) := by
  match r, hr with
  | 0, _ => rfl
  | 1, _ => rfl
  | 2, _ => rfl
  | 3, _ => rfl
  | 4, _ => rfl
  | 5, _ => rfl
  | 6, _ => rfl
  | 7, _ => rfl
theorem rs_drop (r : Nat) (hr : r < 8) : ([0, 1, 2, 3, 4, 5, 6, 7] : List Nat).drop r = r :: ([0, 1, 2, 3, 4, 5, 6, 7] : List Nat).drop (r + 1) := by
  match r, hr with
  | 0, _ => rfl
  | 1, _ => rfl
  | 2, _ => rfl
  | 3, _ => rfl
  | 4, _ => rfl
  | 5, _ => rfl
  | 6, _ => rfl
  | 7, _ => rfl
theorem rs_step (P l : List Cls) (r : Nat) (hr : r < 8) : brkR P l (([0, 1, 2, 3, 4, 5, 6, 7] : List Nat).drop r) = match brk P l r with
    | some c => some c
    | none => brkR P l (([0, 1, 2, 3, 4, 5, 6, 7] : List Nat).drop (r + 1)) := by
  unfold brkR
  rw [rs_drop r hr, List.findSome?_cons]
  cases brk P l r <;> rfl
theorem find_step {α : Type} (p : α → Bool) {xs : List α} {k : Nat} {x : α} (h : xs[k]? = some x) : (xs.drop k).find? p = if p x then some x else (xs.drop (k + 1)).find? p := by
  obtain ⟨h1, h2⟩ := List.getElem?_eq_some_iff.1 h
  rw [List.drop_eq_getElem_cons h1, h2, List.find?_cons]
  cases p x <;> rfl
/-- What rule 2 says of all. -/
theorem imIn_of {P l : List Cls} (hP : P.Perm (given ++ l)) (h2 : brk P l 2 = none) (hT : okCs l) : imIn P := fun c hc => by
  rcases List.mem_append.1 (hP.mem_iff.1 hc) with h | h
  · rw [given_im c h]; simp
  · have hk : k2 P c = true := brk_none.1 h2 c h
    unfold k2 at hk
    rw [Bool.and_eq_true] at hk
    have hl : c.im.length ≤ 12000 := by
      have := hT c h
      have e : c.im.length ≤ (c.im.map fun s => 1 + s.size).sum := lenS_sum c.im
      unfold clsT at this
      omega
    refine ⟨hl, fun s hs => ?_⟩
    have := List.all_eq_true.1 hk.1 s hs
    unfold isIf at this
    cases hx : ixN P s with
    | some i => exact ⟨i, rfl⟩
    | none => rw [ix_none.1 hx] at this; cases this
theorem lens_of {l : List Cls} (hT : okCs l) (c : Cls) (h : c ∈ l) : c.fs.length ≤ 12000 ∧ c.me.length ≤ 12000 := by
  have h1 := hT c h
  have e1 : c.fs.length ≤ (c.fs.map fun f => 1 + f.n.size + f.d.size).sum := len_sumF c.fs
  have e2 : c.me.length ≤ (c.me.map mthT).sum := len_sumM c.me
  unfold clsT at h1
  omega
end Go.Proofs.YthmepecmeambmaaGreat
