/- Rows of structs that grow; classes of many fields, methods, instructions, handlers. -/
import Derived.Test.YtdalibfgkkgcpaaChkF
import Derived.Test.YtdalibfgkkgcpaaAwC
namespace Go.Proofs.Ytdalibfgkkgcpaa
open Go.RowKit
set_option linter.unusedVariables false

theorem flat_get {α : Type} (cells : α → List Value) (k : Nat) (hk : ∀ a, (cells a).length = k) : ∀ (xs : List α) (i j : Nat) (a : α), xs[i]? = some a → j < k → (xs.flatMap cells)[i * k + j]? = (cells a)[j]?
  | [], i, j, a, h, _ => by simp at h
  | x :: xs, 0, j, a, h, hj => by
    have e : x = a := by simpa using h
    subst e
    rw [List.flatMap_cons, Nat.zero_mul, Nat.zero_add, List.getElem?_append_left (by rw [hk]; exact hj)]
  | x :: xs, i + 1, j, a, h, hj => by
    rw [List.flatMap_cons, List.getElem?_append_right (by rw [hk, Nat.succ_mul]; omega), hk]
    have e : (i + 1) * k + j - k = i * k + j := by rw [Nat.succ_mul]; omega
    rw [e]
    exact flat_get cells k hk xs i j a (by simpa using h) hj
theorem flat_lenK {α : Type} (cells : α → List Value) (k : Nat) (hk : ∀ a, (cells a).length = k) : ∀ xs : List α, (xs.flatMap cells).length = xs.length * k
  | [] => by simp
  | x :: xs => by rw [List.flatMap_cons, List.length_append, hk, flat_lenK cells k hk xs, List.length_cons, Nat.succ_mul]; omega

theorem sl_ownK {α : Type} {k : Nat} {R : World → List Value → α → Prop} (cells : α → List Value) (hk : ∀ a, (cells a).length = k) {w : World} {base : Nat} {e : TypeId} {v : Value} {xs : List α} (hR : ∀ a ∈ xs, R w (cells a) a)
    (h : w.ownsRow base e k v xs.length (xs.flatMap cells)) : Sl k R w v xs := by
  rcases h.2 with ⟨hv, h0⟩ | ⟨g, cap, cur, hv, hb, hg, hc1, hc2, hc3, ht⟩
  · rw [hv, List.eq_nil_of_length_eq_zero h0]
    exact ⟨none, 0, rfl, Nat.le_refl _, by omega, fun hp => by simp at hp⟩
  · refine ⟨some ⟨g, 0, none⟩, cap, hv, hc1, by unfold maxLen at hc2; omega, fun _ => ⟨g, 0, rfl, fun i a hi => ⟨cells a, hR a (List.mem_of_getElem? hi), fun j u hj => ?_⟩⟩⟩
    have hjk : j < k := by rw [← hk a]; exact (List.getElem?_eq_some_iff.1 hj).1
    have hil : i < xs.length := (List.getElem?_eq_some_iff.1 hi).1
    have e1 : (cur.toList.take (xs.length * k))[i * k + j]? = (xs.flatMap cells)[i * k + j]? := by rw [ht]
    have hlt : i * k + j < xs.length * k := by
      have : (i + 1) * k ≤ xs.length * k := Nat.mul_le_mul_right _ hil
      rw [Nat.succ_mul] at this
      omega
    rw [List.getElem?_take_of_lt hlt, flat_get cells k hk xs i j a hi hjk, hj] at e1
    simp only [World.cell?, hg]
    rw [Nat.zero_add]
    simpa using e1

def fldL (x : Fld) : List Value := [.string x.n, .string x.d, .bool x.st]
def insL (x : Ins) : List Value := [.int .i64 x.op, .int .i64 x.a, .int .i64 x.b, .string x.c, .string x.n, .string x.d]
def hndL (x : Hnd) : List Value := [.int .i64 x.fr, .int .i64 x.to, .int .i64 x.pl, .string x.c]
def mthL (vc vh : Value) (m : Mth) : List Value := [.string m.n, .string m.d, .bool m.st, .bool m.ab, .int .i64 m.sk, .int .i64 m.lo, vc, vh]

theorem inf39 : (Try.prog.info? 39).map (fun i => (i.zero, i.size, i.bytes)) = some (some (.agg #[.string ⟨#[]⟩, .string ⟨#[]⟩, .bool false]), 3, 40) := by kernel_rfl
theorem inf36 : (Try.prog.info? 36).map (fun i => (i.zero, i.size, i.bytes)) = some (some (.agg #[.string ⟨#[]⟩, .string ⟨#[]⟩, .bool false, .bool false, .int .i64 0, .int .i64 0, .slice none 0 0, .slice none 0 0]), 8, 104) := by kernel_rfl
theorem inf32 : (Try.prog.info? 32).map (fun i => (i.zero, i.size, i.bytes)) = some (some (.agg #[.int .i64 0, .int .i64 0, .int .i64 0, .string ⟨#[]⟩, .string ⟨#[]⟩, .string ⟨#[]⟩]), 6, 72) := by kernel_rfl
theorem inf41 : (Try.prog.info? 41).map (fun i => (i.zero, i.size, i.bytes)) = some (some (.agg #[.int .i64 0, .int .i64 0, .int .i64 0, .string ⟨#[]⟩]), 4, 40) := by kernel_rfl

/-- append of one more to a row of structs. -/
theorem wpList_append_one {α : Type} {w : World} {ops : Array Oper} {rest : List Oper} {o : Oper} {a : Act} {Q : Exit → Act → World → Prop} (hgd : o.guard = none) (s x : Operand) (t e : TypeId) (z : Value) (k bytes : Nat)
    (hinfo : (Try.prog.info? e).map (fun i => (i.zero, i.size, i.bytes)) = some (some z, k, bytes)) (ht : Try.prog.underlying t = some (.slice e)) (hz : z.cells.size = k) (hk0 : 0 < k) (hby : bytes ≤ 200)
    (ho : o.op = .call { callee := .builtin .append, args := #[s, x], argTypes := #[t, t] }) (base : Nat)
    (cells : α → List Value) (hk : ∀ a, (cells a).length = k) (v : Value) (xs : List α) (y : α) (hs : a.eval s = v) (hown : w.ownsRow base e k v xs.length (xs.flatMap cells)) (g cap : Nat) (hx : a.eval x = .slice (some ⟨g, 0, none⟩) 1 cap) (hcell : w.heap[g]? = some (.cells (cells y).toArray e))
    (hone : ∀ u ∈ cells y, u.oneCell' = true) (hl : xs.length ≤ 1000) (hbase : base ≤ w.heap.size)
    (h : ∀ v' w', w'.ownsRow base e k v' (xs ++ [y]).length ((xs ++ [y]).flatMap cells) → w.grownBy w' v.ownBlock → wpList Try.prog ops Q rest (a.put o.dst v') w') :
    wpList Try.prog ops Q (o :: rest) a w := by
  obtain ⟨i0, hi, hz0, hz1, hz2⟩ := info_parts hinfo
  refine wpList_append_own_at _ hgd s x t ho base e i0 z k bytes ht hi hz0 hz1 hz2 hz hk0 v xs.length _ hs hown ⟨g, 0, none⟩ 1 cap (cells y) hx (by rw [hk]; omega) ?_ hone (by unfold maxLen; omega) ?_ hbase ?_
  · intro j u hj
    have hadd : (⟨g, 0, none⟩ : Addr).add j = ⟨g, j, none⟩ := by unfold Addr.add; split <;> simp_all
    rw [hadd]
    simp [World.cell?, hcell, hj]
  · have : (xs.length + 1) * bytes ≤ 1001 * 200 := Nat.mul_le_mul (by omega) hby
    omega
  · intro v' w' h1 h2 _ h4
    refine h v' w' ?_ h2
    have e1 : (xs ++ [y]).flatMap cells = xs.flatMap cells ++ cells y := by simp
    rw [e1, List.length_append]
    exact h1

theorem firstF_rep {α : Type} (f : α → Int) (x : α) (h : f x = 0) : ∀ n, firstF f (List.replicate n x) = 0
  | 0 => rfl
  | n + 1 => by rw [List.replicate_succ, firstF, if_pos h, firstF_rep f x h n]
theorem addL_mem : ∀ (l ts : List (List UInt8)), (∀ s ∈ l, s ∈ ts) → addL ts l = ts
  | [], ts, _ => rfl
  | s :: l, ts, h => by
    have h1 : isIn ts s = true := by unfold isIn; simpa using h s (by simp)
    rw [addL, h1]
    exact addL_mem l ts (fun x hx => h x (by simp [hx]))
theorem flat_rep {α β : Type} (g : α → List β) (x : α) (n : Nat) (s : β) (h : s ∈ (List.replicate n x).flatMap g) : s ∈ g x := by
  obtain ⟨a, h1, h2⟩ := List.mem_flatMap.1 h
  rw [List.eq_of_mem_replicate h1] at h2
  exact h2
theorem rep_snoc {α : Type} (x : α) (n : Nat) : List.replicate n x ++ [x] = List.replicate (n + 1) x := List.replicate_append_replicate (n := n) (m := 1) (a := x)

/-- The field, the method, the instructions, the handler of the law. -/
def lF : Fld := ⟨⟨#[102]⟩, ⟨#[73]⟩, false⟩
def lI (op : Int) : Ins := ⟨op, 0, 0, ⟨#[]⟩, ⟨#[]⟩, ⟨#[]⟩⟩
def lH : Hnd := ⟨0, 1, 0, ⟨#[]⟩⟩
def lM (sk lo : Int) (code : List Ins) (hs : List Hnd) : Mth := ⟨⟨#[109]⟩, ⟨#[40, 41, 86]⟩, true, false, sk, lo, code, hs⟩
def lC (fs : List Fld) (me : List Mth) : Cls := ⟨nA, nO, false, false, [], fs, me⟩

theorem lF_ok : fldE lF = 0 := by decide +kernel
theorem lI_ok (len lo : Int) : insE len lo (lI 1) = 0 := by
  have e : kd (ix (lI 1).op) = 1 := by decide +kernel
  unfold insE chk
  rw [e]
  simp [sA, sB, nam]
theorem lR_ok (len lo : Int) : insE len lo (lI 36) = 0 := by
  have e : kd (ix (lI 36).op) = 1 := by decide +kernel
  unfold insE chk
  rw [e]
  simp [sA, sB, nam]
theorem lH_ok (len : Int) (h : 1 ≤ len) : hndE len lH = 0 := by
  have e : empOr (⟨#[]⟩ : ByteArray) = true := by decide +kernel
  unfold hndE lH
  simp only [e]
  have h1 : decide (len < 1) = false := by simp; omega
  have h2 : decide (len ≤ 0) = false := by simp; omega
  rw [h1, h2]
  rfl
theorem lmeth : meth (bl (⟨#[40, 41, 86]⟩ : ByteArray)) = some ([], [86]) := by decide +kernel
theorem lmay (sk lo : Int) (code : List Ins) (hs : List Hnd) (r : ByteArray) : mayN (lM sk lo code hs) r = true := by
  have h1 : ((⟨#[109]⟩ : ByteArray).toList == [60, 99, 108, 105, 110, 105, 116, 62]) = false := by decide +kernel
  have h2 : ((⟨#[109]⟩ : ByteArray).toList == [60, 105, 110, 105, 116, 62]) = false := by decide +kernel
  have h3 : mNm ⟨#[109]⟩ = true := by decide +kernel
  unfold mayN lM
  simp only [h1, h2, h3]
  rfl
/-- A method of that kind: only its limits matter. -/
theorem lM_chk (sk lo : Int) (code : List Ins) (hs : List Hnd) (h0 : 0 ≤ sk) (h1 : 0 ≤ lo) (hc : firstF (insE code.length lo) code = 0) (hh : firstF (hndE code.length) hs = 0) (hne : code ≠ []) :
    mthE (lM sk lo code hs) = if sk ≤ 20 ∧ lo ≤ 20 ∧ code.length ≤ 200 ∧ hs.length ≤ 20 then 0 else 5 := by
  unfold mthE
  have hm : meth (bl (lM sk lo code hs).d) = some ([], [86]) := lmeth
  rw [hm]
  simp only [lmay]
  have hw : witM (lM sk lo code hs) = decide (sk ≤ 20 ∧ lo ≤ 20 ∧ code.length ≤ 200 ∧ hs.length ≤ 20) := by
    unfold witM lM
    rw [Bool.eq_iff_iff]
    simp
    omega
  rw [hw]
  by_cases hq : sk ≤ 20 ∧ lo ≤ 20 ∧ code.length ≤ 200 ∧ hs.length ≤ 20
  · have hl : (((lM sk lo code hs).code.length : Int) == 0) = false := by
      have : code.length ≠ 0 := fun e => hne (List.eq_nil_of_length_eq_zero e)
      simp [lM]
      exact hne
    have hcod : codE (lM sk lo code hs) = 0 := by
      unfold codE
      have e1 : firstF (insE ((lM sk lo code hs).code.length : Int) (lM sk lo code hs).lo) (lM sk lo code hs).code = 0 := hc
      have e2 : firstF (hndE ((lM sk lo code hs).code.length : Int)) (lM sk lo code hs).hs = 0 := hh
      rw [e1, e2]
      rfl
    rw [if_pos hq, hl, hcod]
    simp only [hq]
    simp [lM, argM]
    omega
  · rw [if_neg hq]
    simp [hq]
end Go.Proofs.Ytdalibfgkkgcpaa
