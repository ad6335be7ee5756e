/- The way up from a class. -/
/- The way up from a class, walked. -/
import Derived.Test.YthmepecmeambmaaGreatKLkL
import Derived.LaidEqlPtr
import Derived.ScopeJumps
namespace Go.Proofs.YthmepecmeambmaaGreat
open Go.RowKit
set_option linter.unusedVariables false

/-- Classes by their places. -/
def RP (b : Nat) (P : List Cls) (_ : World) (cs : List Value) (n : ByteArray) : Prop := cs = [pn b P n]
/-- Names that the program has. -/
def inP (P : List Cls) (way : List ByteArray) : Prop := ∀ x ∈ way, ∃ i, ixN P x = some i
theorem pn_is {b : Nat} {P : List Cls} {n : ByteArray} {i : Nat} (h : ixN P n = some i) : pn b P n = ptr b i := by unfold pn; rw [h]
theorem pn_no {b : Nat} {P : List Cls} {n : ByteArray} (h : ixN P n = none) : pn b P n = .pointer none := by unfold pn; rw [h]
theorem Pm.blk {w : World} {g b : Nat} {P : List Cls} (h : Pm w g b P) : ∃ cur, w.heap[b]? = some (.cells cur 41) := by
  obtain ⟨h0, h1, h2, cap, B, h3, h4⟩ := h
  obtain ⟨b', cs, e, _, _, _, _, _, _, cur, hc, _⟩ := Ow.at h4 (List.getElem?_eq_getElem h0)
  cases e
  exact ⟨cur, hc⟩
theorem infoP : (Tryz.prog.info? 41).map (fun i => i.size) = some 7 := by kernel_rfl
theorem eq_row {w : World} {b : Nat} {cur : Array Value} (hb : w.heap[b]? = some (.cells cur 41)) (i j : Nat) :
    (binOp .eql 117 (.pointer (some ⟨b, i * 7, none⟩)) (.pointer (some ⟨b, j * 7, none⟩))).run Tryz.prog w = .ok (.bool (i == j)) w := by
  obtain ⟨k, hk, hs⟩ := Option.map_eq_some_iff.1 infoP
  by_cases h : i = j
  · subst h
    rw [run_eql_ptr_same w _ Tryz.underlying117 hk]
    simp
  · have hne : (⟨b, i * 7, none⟩ : Addr) ≠ ⟨b, j * 7, none⟩ := fun e => by
      have : i * 7 = j * 7 := congrArg Addr.off e
      omega
    rw [run_eql_ptr_other w Tryz.underlying117 hk (by rw [hs]; decide) hne hb hb]
    simp [h]
theorem ix_eq {P : List Cls} {x n : ByteArray} {i j : Nat} (hx : ixN P x = some i) (hn : ixN P n = some j) : (j == i) = nq x n := by
  rw [Bool.eq_iff_iff, beq_iff_eq, nq_iff]
  constructor
  · rintro rfl; exact ix_inj hx hn
  · rintro rfl; rw [hx] at hn; cases hn; rfl
theorem hasN_snoc (l : List ByteArray) (x n : ByteArray) : hasN (l ++ [x]) n = (hasN l n || nq x n) := by simp [hasN, List.any_append]

set_option maxHeartbeats 2000000 in
theorem indexP_any (n : ByteArray) (j : Nat) (way : List ByteArray) (v : Value) (P : List Cls) (g b B : Nat) (w : World) (h : Pm w g b P) (hv : Ow 1 117 (RP b P) B w v way) (hw : inP P way) (hn : ixN P n = some j) (hl : way.length ≤ 1000) :
    Calls Tryz.prog 232 #[v, ptr b j] w fun e w' => (∃ r : Int, e = .returned (.int .i64 r) ∧ decide (0 ≤ r) = hasN way n) ∧ w' = w := by
  obtain ⟨cur, hb⟩ := h.blk
  obtain ⟨ao, c, rfl⟩ := hv.form
  have HV : Hid (Sl 1 (RP b P) w (.slice ao way.length c) way) := hv.sl
  have HW : Hid (inP P way) := hw
  have HN : Hid (ixN P n = some j) := hn
  clear hv hw hn h
  obtain ⟨ans, hans⟩ : ∃ q, hasN way n = q := ⟨_, rfl⟩
  rw [hans]
  refine Calls.mono (R := fun e w' => (∃ r : Int, e = .returned (.int .i64 r) ∧ Hid (decide (0 ≤ r) = ans)) ∧ w' = w) ?_ (fun e w' ⟨⟨r, h1, h2⟩, h3⟩ => ⟨⟨r, h1, h2.out⟩, h3⟩)
  have HA : Hid (hasN way n = ans) := hans
  clear hans
  unfold ptr
  go_enter Tryz.func232, Tryz.ntmps232
  go_wp2
  go_loop [8] (fun i => ∃ k : Nat, k ≤ way.length ∧ i = .int .i64 k ∧ hasN (way.take k) n = false) (fun i => way.length - (intOf i).toNat)
  case atStart => exact ⟨0, Nat.zero_le _, rfl, by simp [hasN]⟩
  case round =>
    obtain ⟨k, hk, rfl, hno⟩ := hrel
    by_cases hlt : k < way.length
    · obtain ⟨x, hx⟩ : ∃ x, way[k]? = some x := ⟨_, List.getElem?_eq_getElem hlt⟩
      obtain ⟨i, hi⟩ := HW.out x (List.mem_of_getElem? hx)
      obtain ⟨b', off, cs, e1, e2, e3⟩ := HV.out.at hx
      have e2 : cs = [pn b P x] := e2
      subst e1 e2
      have q0 := e3 0 _ rfl
      rw [pn_is hi] at q0
      unfold ptr at q0
      have hq := eq_row hb j i
      rw [ix_eq hi HN.out] at hq
      have HS : Hid (hasN (way.take (k + 1)) n = nq x n) := by
        obtain ⟨h1, h2⟩ := List.getElem?_eq_some_iff.1 hx
        show hasN (way.take (k + 1)) n = nq x n
        rw [List.take_succ_eq_append_getElem h1, h2, hasN_snoc, hno, Bool.false_or]
      have HM : Hid (x ∈ way) := List.mem_of_getElem? hx
      have HNO : Hid (hasN (way.take k) n = false) := hno
      have off0 : off + k * 1 + 0 = off + k := by omega
      rw [off0] at q0
      clear hx hi e3 hno off0
      obtain ⟨bq, hbq⟩ : ∃ q, nq x n = q := ⟨_, rfl⟩
      rw [hbq] at hq HS
      cases bq with
      | true =>
        go_wp2
        go_ret
        refine ⟨⟨_, rfl, ?_⟩, rfl⟩
        show decide _ = ans
        rw [← HA.out, hasN_iff.2 (by rw [← nq_iff.1 hbq]; exact HM.out)]
        simp
      | false =>
        have HB : Hid (nq x n = false) := hbq
        clear hbq
        go_wp2
        exact ⟨⟨k + 1, by omega, rfl, HS.out⟩, by simp [intOf]; omega⟩
    · obtain rfl : k = way.length := by omega
      rw [List.take_length] at hno
      have HNO : Hid (hasN way n = false) := hno
      clear hno
      go_wp2
      go_ret
      refine ⟨⟨_, rfl, ?_⟩, rfl⟩
      show decide _ = ans
      rw [← HA.out, HNO.out]
      rfl
set_option maxHeartbeats 1000000 in
theorem containsP_any (n : ByteArray) (j : Nat) (way : List ByteArray) (v : Value) (P : List Cls) (g b B : Nat) (w : World) (h : Pm w g b P) (hv : Ow 1 117 (RP b P) B w v way) (hw : inP P way) (hn : ixN P n = some j) (hl : way.length ≤ 1000) :
    Calls Tryz.prog 173 #[v, ptr b j] w fun e w' => e = .returned (.bool (hasN way n)) ∧ w' = w := by
  have hi := indexP_any n j way v P g b B w h hv hw hn hl
  clear h hv hw hn
  unfold ptr at *
  generalize hasN way n = a at *
  go_enter Tryz.func173, Tryz.ntmps173
  go_wp2_with (first
    | (go_at_call 232; (with_reducible refine hi.mono ?_); rintro e w' ⟨⟨r, rfl, hr⟩, hw⟩; have hw := hw.symm; subst hw)
    | fail)
  go_ret
  exact ⟨rfl, rfl⟩
end Go.Proofs.YthmepecmeambmaaGreat
namespace Go.Proofs.YthmepecmeambmaaGreat
open Go.RowKit
set_option linter.unusedVariables false

theorem noGoto_jumpL {l : Nat} {J : Act → World → Prop} {Q : Exit → Act → World → Prop} (e : Exit) (a : Act) (w : World) (h : Exit.noGoto Q e a w) : Exit.jump l J Q e a w := by
  cases e <;> first | exact h | exact h.elim
theorem wp_scope_oneL {P : Program} {a : Act} {w : World} {Q : Exit → Act → World → Prop} {c rest : Code} (l : Nat) (hf : findLabel c l = some rest)
    (h : c.wp P (Exit.jump l (fun a' w' => rest.wp P (Exit.noGoto Q) a' w') Q) a w) : (Code.scope c).wp P Q a w := by
  refine wp_scope_jumps l (fun a' w' => rest.wp P (Exit.noGoto Q) a' w') (fun _ _ => 0) hf h ?_
  intro a' w' hJ b k cs
  obtain ⟨e, a₁, w₁, hq, harr⟩ := hJ b k cs
  exact ⟨e, a₁, w₁, noGoto_jumpL e a₁ w₁ hq, harr⟩

theorem infS9 : (Tryz.prog.info? 9).map (fun i => (i.zero, i.size, i.bytes)) = some (some (.string ⟨#[]⟩), 1, 16) := by kernel_rfl
theorem infP117 : (Tryz.prog.info? 117).map (fun i => (i.zero, i.size, i.bytes)) = some (some (.pointer none), 1, 8) := by kernel_rfl
/-- One more, where each is one cell. -/
theorem Ow.push {α : Type} {e t : TypeId} {R : World → List Value → α → Prop} {B : Nat} {w : World} {v : Value} {xs : List α} (h : Ow 1 e R B w v xs) {z : Value} {by_ : Nat} (hinf : (Tryz.prog.info? e).map (fun i => (i.zero, i.size, i.bytes)) = some (some z, 1, by_)) (hz : z.cells.size = 1) (hby : by_ ≤ 16) (ht : Tryz.prog.underlying t = some (.slice e))
    {ops : Array Oper} {rest : List Oper} {o : Oper} {a : Act} {Q : Exit → Act → World → Prop} (hgd : o.guard = none) (s x : Operand)
    (ho : o.op = .call { callee := .builtin .append, args := #[s, x], argTypes := #[t, t] }) (hs : a.eval s = v) (u : Value) (d : α) (hd : ∀ w', R w' [u] d) (hR : ∀ w1 w2 cs a, R w1 cs a → R w2 cs a) (h1 : u.oneCell' = true)
    (g c : Nat) (hx : a.eval x = .slice (some ⟨g, 0, none⟩) 1 c) (hg : w.heap[g]? = some (.cells #[u] e)) (hL : xs.length ≤ 100000) (hB : B ≤ w.heap.size)
    (K : ∀ v' w', Ow 1 e R B w' v' (xs ++ [d]) → w.grownBy w' v.ownBlock → (∀ k, v.ownBlock = some k → B ≤ k) → wpList Tryz.prog ops Q rest (a.put o.dst v') w') : wpList Tryz.prog ops Q (o :: rest) a w := by
  obtain ⟨i0, hi, hz0, hz1, hz2⟩ := info_parts hinf
  obtain ⟨C, c1, c2, c3⟩ := h
  refine wpList_append_own_at _ hgd s x t ho B e i0 z 1 by_ ht hi hz0 hz1 hz2 hz (by decide) v xs.length _ hs c2 ⟨g, 0, none⟩ 1 c [u] hx rfl (fun j q hj => ?_) (fun q hq => ?_) (by unfold maxLen; omega) ?_ hB ?_
  · have ea : (⟨g, 0, none⟩ : Addr).add j = ⟨g, j, none⟩ := by unfold Addr.add; split <;> simp_all
    rw [ea]
    simp only [World.cell?, hg]
    simpa using hj
  · rw [List.mem_singleton.1 hq]; exact h1
  · have : (xs.length + 1) * by_ ≤ 100001 * 16 := Nat.mul_le_mul (by omega) hby
    omega
  · intro v' w' g1 g2 _ _
    refine K v' w' ⟨fun i => if i < xs.length then C i else [u], fun i => by dsimp only; split; exact c1 i; rfl, ?_, fun i a hia => ?_⟩ g2 (fun k hk => (c2.lt k hk).1)
    · rw [List.length_append]
      have e1 : [u] = (List.range 1).flatMap (fun _ => [u]) := rfl
      rw [e1, flat_app C (fun _ => [u]) xs.length 1] at g1
      exact g1
    · dsimp only
      by_cases hlt : i < xs.length
      · rw [if_pos hlt]
        rw [List.getElem?_append_left hlt] at hia
        exact hR _ _ _ _ (c3 i a hia)
      · rw [if_neg hlt]
        rw [List.getElem?_append_right (by omega)] at hia
        have : i - xs.length = 0 := by
          rcases Nat.eq_zero_or_pos (i - xs.length) with q | q
          · exact q
          · rw [List.getElem?_eq_none (by simp; omega)] at hia; cases hia
        rw [this] at hia
        cases hia
        exact hd w'
theorem Ow.keepP {b : Nat} {P : List Cls} {B : Nat} {w w' : World} {v : Value} {xs : List ByteArray} (h : Ow 1 117 (RP b P) B w v xs) (c : Ch w w') : Ow 1 117 (RP b P) B w' v xs := h.keep (fun _ _ x => x) c
theorem inP_nil (P : List Cls) : inP P [] := fun x hx => by cases hx
theorem jump_retL {l : Nat} {J : Act → World → Prop} {Q : Exit → Act → World → Prop} {a : Act} {w : World} : Exit.jump l J Q .ret a w = Q .ret a w := rfl
theorem inP_len {P : List Cls} {way : List ByteArray} (h : inP P way) (hn : way.Nodup) : way.length ≤ P.length := by
  have : way.length ≤ (nms P).length := nodup_le hn fun x hx => by
    obtain ⟨i, hi⟩ := h x hx
    obtain ⟨c, _, e, _⟩ := ix_some hi
    obtain ⟨h1, h2⟩ := lk_some e
    rw [← h2]
    exact List.mem_map_of_mem h1
  simpa [nms] using this
/-- What is told of one that comes again. -/
def ag (b : Nat) (P : List Cls) : Option ByteArray → Value
  | none => .pointer none
  | some m => pn b P m

def slen : Value → Nat
  | .slice _ n _ => n
  | _ => 0
theorem wk_no {L : ByteArray → Option Cls} {f : Nat} {n : ByteArray} {way : List ByteArray} (h : L n = none) : wk L (f + 1) n way = (way, none) := by unfold wk; rw [h]
theorem wk_ring {L : ByteArray → Option Cls} {f : Nat} {n : ByteArray} {way : List ByteArray} {c : Cls} (h : L n = some c) (hh : hasN way n = true) : wk L (f + 1) n way = ([], some n) := by unfold wk; rw [h]; simp [hh]
theorem wk_on {L : ByteArray → Option Cls} {f : Nat} {n : ByteArray} {way : List ByteArray} {c : Cls} (h : L n = some c) (hh : hasN way n = false) : wk L (f + 1) n way = wk L f c.s (way ++ [n]) := by rw [wk, h]; simp [hh]

set_option maxHeartbeats 8000000 in
set_option maxRecDepth 100000 in
theorem walk_any (n : ByteArray) (P : List Cls) (g b : Nat) (w : World) (h : Pm w g b P) :
    Calls Tryz.prog 96 #[.pointer (some ⟨g, 0, none⟩), .string n] w fun e w' => ∃ v, e = .returned (.tuple #[v, ag b P (walkN P n).2]) ∧ Ow 1 117 (RP b P) w.heap.size w' v (walkN P n).1 ∧ inP P (walkN P n).1 ∧ (walkN P n).1.Nodup ∧ Ch w w' := by
  have HP : Hid (Pm w g b P) := h
  have hl := h.2.1
  clear h
  obtain ⟨r, hr⟩ : ∃ r, walkN P n = r := ⟨_, rfl⟩
  rw [hr]
  have HR : Hid (wk (lk P) (P.length + 1) n [] = r) := hr
  clear hr
  have HF : Hid (∀ w', Ch w w' → ∀ m, Calls Tryz.prog 92 #[.pointer (some ⟨g, 0, none⟩), .string m] w' fun e w2 => e = .returned (pn b P m) ∧ Ch w' w2) := fun w' k m => find_any m P g b w' (HP.out.keep k)
  refine Calls.mono (R := fun e w' => ∃ v, e = .returned (.tuple #[v, ag b P r.2]) ∧ Hid (Ow 1 117 (RP b P) w.heap.size w' v r.1 ∧ inP P r.1 ∧ r.1.Nodup ∧ Ch w w')) ?_ (fun e w' ⟨v, h1, h2⟩ => ⟨v, h1, h2.out⟩)
  go_enter Tryz.func96, Tryz.ntmps96
  go_wp2_with fail
  refine wp_scope_oneL 0 (by rfl) ?_
  go_wp2_with (first
    | (go_at_call 92; (with_reducible refine (HF.out _ (Ch.refl _) n).mono ?_); rintro e w1 ⟨rfl, c1⟩)
    | fail)
  go_loopw [4, 6] (fun vw c wr => ∃ (n' : ByteArray) (way : List ByteArray), c = pn b P n' ∧ Ow 1 117 (RP b P) w.heap.size wr vw way ∧ wk (lk P) (P.length + 1 - way.length) n' way = r ∧ way.Nodup ∧ inP P way ∧ Ch w wr) (fun vw _ _ => P.length + 1 - slen vw)
  case atStart => exact ⟨n, [], rfl, Ow.nil, HR.out, List.nodup_nil, inP_nil P, c1⟩
  case round =>
    clear c1
    obtain ⟨n', way, rfl, ho, hw, hnd, hin, hcr⟩ := hrel
    have hlen := inP_len hin hnd
    obtain ⟨f, hf⟩ : ∃ f, P.length + 1 - way.length = f + 1 := ⟨P.length - way.length, by omega⟩
    rw [hf] at hw
    cases hx : ixN P n' with
    | none =>
      rw [wk_no (ix_none.1 hx)] at hw
      rw [pn_no hx]
      subst hw
      obtain ⟨ao, c, rfl⟩ := ho.form
      clear hx hf
      go_wp2_with fail
      rw [jump_retL]
      go_ret2
      exact ⟨_, rfl, ho, hin, hnd, hcr⟩
    | some i =>
      obtain ⟨x, hxi, hxl, hxlt⟩ := ix_some hx
      have hcon := containsP_any n' i way _ P g b w.heap.size wr (HP.out.keep hcr) ho hin hx (by omega)
      have hpn := pn_is (b := b) hx
      obtain ⟨ao, c, rfl⟩ := ho.form
      rw [hpn]
      cases hh : hasN way n' with
      | true =>
        rw [wk_ring hxl hh] at hw
        rw [hh] at hcon
        subst hw
        unfold ptr at *
        clear hx hf hxi hxl hh
        go_wp2_with (first
          | (go_at_call 173; (with_reducible refine hcon.mono ?_); rintro e w' ⟨rfl, hw⟩; have hw := hw.symm; subst hw)
          | fail)
        go_step3
        refine And.intro rfl ?_
        change Code.wp Tryz.prog _ _ _ _
        go_wp2
        rw [Exit.noGoto_ret]
        go_ret2
        refine ⟨_, ?_, Ow.nil, inP_nil P, List.nodup_nil, hcr⟩
        show _ = Ending.returned (.tuple #[.slice none 0 0, pn b P n'])
        rw [hpn]
        rfl
      | false =>
        rw [wk_on hxl hh] at hw
        rw [hh] at hcon
        have HX : Hid (wk (lk P) f x.s (way ++ [n']) = r) := hw
        have HI : Hid (ixN P n' = some i) := hx
        have HH : Hid (hasN way n' = false) := hh
        have HFf : Hid (P.length + 1 - way.length = f + 1) := hf
        have Q1 : Hid (∀ w', Ch w w' → w'.cell? ⟨b, i * 7 + 1, none⟩ = some (.string x.s)) := fun w' k => by
          obtain ⟨_, _, _, _, _, q, _⟩ := (HP.out.keep k).at hxi
          exact q
        have HPN : Hid (pn b P n' = ptr b i) := hpn
        unfold ptr at *
        clear hx hf hxi hxl hh hw hpn
        go_wp2_with (first
          | (go_at_call 173; (with_reducible refine hcon.mono ?_); rintro e w' ⟨rfl, hw⟩; have hw := hw.symm; subst hw)
          | (at_builtin; refine (ho.keepP ((Ch.refl wr).alloc _)).push infP117 rfl (by omega) Tryz.underlying125 rfl (.tmp 22) (.tmp 24) rfl rfl (.pointer (some ⟨b, i * 7, none⟩)) n' (fun _ => ?_) (fun _ _ _ _ x => x) rfl wr.heap.size 1 rfl (heap_alloc_new _ _) (by omega) (by have := hcr.size; simp; omega) ?_; (show [Value.pointer (some ⟨b, i * 7, none⟩)] = [pn b P n']; rw [HPN.out]); intro v3 w3 o3 g3 r3; have c3 : Ch w w3 := (hcr.alloc _).grown g3 r3; have q3 := Q1.out _ c3; obtain ⟨a3, d3, rfl⟩ := o3.form)
          | (go_at_call 92; (with_reducible refine (HF.out _ c3 x.s).mono ?_); rintro e w4 ⟨rfl, c4⟩)
          | fail)
        go_roundw
        case rel => exact ⟨x.s, way ++ [n'], rfl, (by have q := o3.keepP c4; rw [show (way ++ [n']).length = way.length + 1 from by simp] at q; exact q), by rw [show P.length + 1 - (way ++ [n']).length = f from by have := HFf.out; simp; omega]; exact HX.out, List.nodup_append.2 ⟨hnd, by simp, fun y hy z hz e => by rw [List.mem_singleton] at hz; subst e; subst hz; exact hasN_no.1 HH.out hy⟩, fun y hy => by
          rcases List.mem_append.1 hy with q | q
          · exact hin y q
          · rw [List.mem_singleton.1 q]; exact ⟨i, HI.out⟩, c3.trans c4⟩
        case measure => simp [slen]; omega
end Go.Proofs.YthmepecmeambmaaGreat
