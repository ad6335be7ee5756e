/- Rows that the decoder reads, one behind the other. -/
import Derived.Test.YtdalibfgkkgcpaaGreatKDecD
import Derived.Test.YtdalibfgkkgcpaaGreatKApp
namespace Go.Proofs.YtdalibfgkkgcpaaGreat
open Go.RowKit
set_option linter.unusedVariables false

/-- A reader: what is read, and how far it is then. -/
abbrev RD (α : Type) : Type := List Int → St → α × St
def bd {α β : Type} (r : RD α) (t : α → RD β) : RD β := fun bs s => t (r bs s).1 bs (r bs s).2
def fb {α : Type} (A : α) (r : RD α) : RD α := fun bs s => if bad s then (A, sy s) else r bs (sy s)
def lst {α : Type} (r : RD α) : Nat → List α → RD (List α)
  | 0, acc => fun _ s => (acc, s)
  | n + 1, acc => bd r fun x => fb [] (lst r n (acc ++ [x]))
def listR {α : Type} (most : Int) (r : RD α) : RD (List α) := bd (fun bs => cntR bs most) fun n => lst r n.toNat []
theorem lst_bad {α : Type} {r : RD α} {n : Nat} {acc : List α} {bs : List Int} {s s2 : St} {x : α} (h : r bs s = (x, s2)) (hb : bad s2 = true) : lst r (n + 1) acc bs s = ([], sy s2) := by
  simp [lst, bd, fb, h, hb]
theorem lst_on {α : Type} {r : RD α} {n : Nat} {acc : List α} {bs : List Int} {s s2 : St} {x : α} (h : r bs s = (x, s2)) (hb : bad s2 = false) : lst r (n + 1) acc bs s = lst r n (acc ++ [x]) bs (sy s2) := by
  simp [lst, bd, fb, h, hb]
theorem cntR_le (bs : List Int) (m : Int) (s : St) (hm : 0 ≤ m) : (cntR bs m s).1 ≤ m := by
  unfold cntR
  split
  · next h => exact h
  · exact hm
theorem cntR_nn (bs : List Int) (h : ∀ x ∈ bs, 0 ≤ x ∧ x < 256) (m : Int) (s : St) : 0 ≤ (cntR bs m s).1 := by
  unfold cntR
  split
  · exact (nR_bd bs h 2 s).1
  · exact Int.le_refl _

def insCl (x : Ins) : List Value := [.int .i64 x.op, .int .i64 x.a, .int .i64 x.b, .string x.c, .string x.n, .string x.d]
def hndCl (x : Hnd) : List Value := [.int .i64 x.fr, .int .i64 x.to, .int .i64 x.pl, .string x.c]
def fldCl (x : Fld) : List Value := [.string x.n, .string x.d, .bool x.st]
def strCl (x : ByteArray) : List Value := [.string x]
theorem jump_ret {l : Nat} {J : Act → World → Prop} {Q : Exit → Act → World → Prop} {a : Act} {w : World} : Exit.jump l J Q .ret a w = Q .ret a w := rfl
/-- What is known of a type of elements. -/
structure Ek (t e : TypeId) (k : Nat) : Prop where
  ht : Tryz.prog.underlying t = some (.slice e)
  hi : ∃ i z b, Tryz.prog.info? e = some i ∧ i.zero = some z ∧ i.size = k ∧ i.bytes = b ∧ z.cells.size = k ∧ b ≤ 1000
  hk : 0 < k
theorem ek_of {t e k b : Nat} {z : Value} (ht : Tryz.prog.underlying t = some (.slice e)) (h : (Tryz.prog.info? e).map (fun i => (i.zero, i.size, i.bytes)) = some (some z, k, b)) (hz : z.cells.size = k) (hb : b ≤ 1000) (hk : 0 < k) : Ek t e k := by
  obtain ⟨i0, hi, hz0, hz1, hz2⟩ := info_parts h
  exact ⟨ht, ⟨i0, z, b, hi, hz0, hz1, hz2, hz, hb⟩, hk⟩
theorem ekS : Ek 22 9 1 := ek_of Tryz.underlying22 Tryz.info9 rfl (by omega) (by omega)
theorem ekI : Ek 42 47 6 := ek_of (z := .agg #[.int .i64 0, .int .i64 0, .int .i64 0, .string ⟨#[]⟩, .string ⟨#[]⟩, .string ⟨#[]⟩]) (b := 72) Tryz.underlying42 (by kernel_rfl) (by kernel_rfl) (by omega) (by omega)
theorem ekH : Ek 43 77 4 := ek_of (z := .agg #[.int .i64 0, .int .i64 0, .int .i64 0, .string ⟨#[]⟩]) (b := 40) Tryz.underlying43 (by kernel_rfl) (by kernel_rfl) (by omega) (by omega)
theorem ekF : Ek 23 54 3 := ek_of (z := .agg #[.string ⟨#[]⟩, .string ⟨#[]⟩, .bool false]) (b := 40) Tryz.underlying23 (by kernel_rfl) (by kernel_rfl) (by omega) (by omega)
theorem ekM : Ek 24 45 8 := ek_of (z := .agg #[.string ⟨#[]⟩, .string ⟨#[]⟩, .bool false, .bool false, .int .i64 0, .int .i64 0, .slice none 0 0, .slice none 0 0]) (b := 104) Tryz.underlying24 (by kernel_rfl) (by kernel_rfl) (by omega) (by omega)

/-- Since w a row of elements has been laid, one's own. -/
structure Lx (w : World) (e : TypeId) (k : Nat) (l : Value) (n : Nat) (cells : List Value) (D r : Nat) (v pv : Value) (bs : List Int) (P : List ByteArray) (w1 : World) (s1 : St) : Prop where
  h0 : ∃ s0, Dc w D r v pv bs P s0
  own : w1.ownsRow w.heap.size e k l n cells
  dc : Dc w1 D r v pv bs P s1
  dk : Dk D r w w1
section
variable {w w1 w2 : World} {e : TypeId} {k n : Nat} {l : Value} {cells : List Value} {D r : Nat} {v pv : Value} {bs : List Int} {P : List ByteArray} {s s1 s2 : St}
theorem Lx.far (h : Lx w e k l n cells D r v pv bs P w1 s1) {g : Nat} (hg : l.ownBlock = some g) : w.heap.size ≤ g ∧ g < w1.heap.size ∧ ¬ (g = D ∨ g = r) := by
  obtain ⟨s0, h0⟩ := h.h0
  have a := h0.lt
  have b := h0.rd.lt
  have c := h.own.lt g hg
  exact ⟨c.1, c.2, by omega⟩
theorem Lx.call (h : Lx w e k l n cells D r v pv bs P w1 s1) (hd : Dc w2 D r v pv bs P s2) (hk : Dk D r w1 w2) : Lx w e k l n cells D r v pv bs P w2 s2 :=
  ⟨h.h0, ownsRow_same h.own (fun g hg => hk.block g (h.far hg).2.1 (h.far hg).2.2), hd, h.dk.trans hk⟩
theorem Lx.push (h : Lx w e k l n cells D r v pv bs P w1 s1) {cs cells' : List Value} {n' : Nat} {v' : Value} {o : Obj} (h1 : w2.ownsRow w.heap.size e k v' n' cells') (h2 : (w1.alloc o).grownBy w2 l.ownBlock) : Lx w e k v' n' cells' D r v pv bs P w2 s1 := by
  obtain ⟨s0, h0⟩ := h.h0
  have hk : Dk D r w w2 := Cs.grown (h.dk.alloc o) h2 (fun g hg => Or.inr (h.far hg).1)
  have hs := h.dk.size
  refine ⟨⟨s0, h0⟩, h1, h0.re h.dc hk (fun b hb => ?_), hk⟩
  rw [h2.block b (by simp; omega) (fun e => by have := (h.far e.symm).1; omega)]
  exact Below.heap_alloc _ _ _ (by omega)
theorem Lx.wpL {t : TypeId} (E : Ek t e k) (h : Lx w e k l n cells D r v pv bs P w1 s1) {ops : Array Oper} {rest : List Oper} {o : Oper} {a : Act} {Q : Exit → Act → World → Prop} (hgd : o.guard = none) (s x : Operand)
    (ho : o.op = .call { callee := .builtin .append, args := #[s, x], argTypes := #[t, t] }) (hs : a.eval s = l) (cs : List Value) (c : Nat) (hx : a.eval x = .slice (some ⟨w1.heap.size, 0, none⟩) 1 c) (hcs : cs.length = k) (h1 : ∀ u ∈ cs, u.oneCell' = true) (hn : n ≤ 100000)
    (K : ∀ v' w', Lx w e k v' (n + 1) (cells ++ cs) D r v pv bs P w' s1 → wpList Tryz.prog ops Q rest (a.put o.dst v') w') : wpList Tryz.prog ops Q (o :: rest) a (w1.alloc (.cells cs.toArray e)) := by
  obtain ⟨i, z, b, hi, hz, hsz, hby, hzs, hb⟩ := E.hi
  have hs1 := h.dk.size
  refine wpList_append_own_at _ hgd s x t ho w.heap.size e i z k b E.ht hi hz hsz hby hzs E.hk l n cells hs (ownsRow_keep h.own ((Ch.refl w1).alloc _)) ⟨w1.heap.size, 0, none⟩ 1 c cs hx (by omega) (fun j u hj => ?_) h1 (by unfold maxLen; omega) ?_ (by simp; omega) ?_
  · have e1 : (⟨w1.heap.size, 0, none⟩ : Addr).add j = ⟨w1.heap.size, 0 + j, none⟩ := by unfold Addr.add; split <;> simp_all
    have hb0 : (w1.alloc (.cells cs.toArray e)).heap[w1.heap.size]? = some (.cells cs.toArray e) := heap_alloc_new _ _
    rw [e1]
    simp only [World.cell?, hb0, Nat.zero_add]
    simpa using hj
  · have : (n + 1) * b ≤ 100001 * 1000 := Nat.mul_le_mul (by omega) hb
    omega
  · intro v' w' g1 g2 _ _
    exact K v' w' (h.push (cs := cs) g1 g2)
end

def rtxR : RD ByteArray := fun bs s =>
  if s.f = false ∧ s.a + 2 ≤ bs.length ∧ s.a + 2 + (num ((bs.drop s.a).take 2)).toNat ≤ bs.length then
    (strOfNums ((bs.drop (s.a + 2)).take (num ((bs.drop s.a).take 2)).toNat), { s with a := s.a + 2 + (num ((bs.drop s.a).take 2)).toNat })
  else (⟨#[]⟩, { s with f := true })
theorem rtext_any (D r : Nat) (v pv : Value) (bs : List Int) (P : List ByteArray) (s : St) (w : World) (h : Dc w D r v pv bs P s) :
    Calls Tryz.prog 49 #[.pointer (some ⟨r, 0, none⟩)] w fun e w' => e = .returned (.string (rtxR bs s).1) ∧ Dc w' D r v pv bs P (rtxR bs s).2 ∧ Dk D r w w' := by
  by_cases hc : s.f = false ∧ s.a + 2 ≤ bs.length
  · have hr := h.rd
    rw [hc.1] at hr
    have hbd := num_take_bd bs s.a 2 h.rd.small hc.2
    obtain ⟨n, hn⟩ := Int.eq_ofNat_of_zero_le hbd.1
    by_cases hf : s.a + 2 + n ≤ bs.length
    · have e1 : rtxR bs s = (strOfNums ((bs.drop (s.a + 2)).take n), { s with a := s.a + 2 + n }) := by unfold rtxR; rw [hn, Int.toNat_natCast, if_pos ⟨hc.1, hc.2, hf⟩]
      refine (text_ok r v bs s.a n w hr hc.2 hn hf).mono ?_
      rintro e w' ⟨rfl, h1, h2⟩
      have h3 := h.move h1 h2
      have e2 : ({ s with a := s.a + 2 + n, f := false } : St) = { s with a := s.a + 2 + n } := by rw [← hc.1]
      rw [e2] at h3
      rw [e1]
      exact ⟨rfl, h3, Cs.dk h2⟩
    · have e1 : rtxR bs s = (⟨#[]⟩, { s with f := true }) := by unfold rtxR; rw [hn, Int.toNat_natCast, if_neg (fun q => hf q.2.2)]
      refine (text_fail2 r v bs s.a w hr hc.2 (by rw [hn]; omega)).mono ?_
      rintro e w' ⟨rfl, h1, h2⟩
      have h3 := h.move h1 h2
      rw [e1]
      exact ⟨rfl, h3, Cs.dk h2⟩
  · have e1 : rtxR bs s = (⟨#[]⟩, { s with f := true }) := by unfold rtxR; rw [if_neg (fun q => hc ⟨q.1, q.2.1⟩)]
    have hl : (if s.f then 0 else (bs.length : Int) - s.a) < 2 := by
      have := h.rd.le
      cases hf : s.f with
      | true => simp
      | false => simp only [hf, true_and] at hc; simp; omega
    refine (text_fail1 r v bs s.a s.f w h.rd hl).mono ?_
    rintro e w' ⟨rfl, h1, h2⟩
    have h3 := h.move h1 h2
    rw [e1]
    exact ⟨rfl, h3, Cs.dk h2⟩

set_option maxRecDepth 100000 in
set_option maxHeartbeats 8000000 in
theorem listS_any (D r : Nat) (v pv : Value) (bs : List Int) (P : List ByteArray) (s : St) (rd : RD ByteArray) (most : Int) (hm : 0 ≤ most) (w : World) (h : Dc w D r v pv bs P s)
    (hread : ∀ w' s', Dc w' D r v pv bs P s' → Calls Tryz.prog 88 #[.pointer (some ⟨D, 0, none⟩)] w' fun e w'' => e = .returned (.string (rd bs s').1) ∧ Dc w'' D r v pv bs P (rd bs s').2 ∧ Dk D r w' w'') :
    Calls Tryz.prog 48 #[.pointer (some ⟨D, 0, none⟩), .int .i64 most, .func (.func 88) #[.pointer (some ⟨D, 0, none⟩)] #[]] w fun e w' => ∃ l, e = .returned l ∧ Lx w 9 1 l (listR most rd bs s).1.length ((listR most rd bs s).1.flatMap strCl) D r v pv bs P w' (listR most rd bs s).2 := by
  have hnn := cntR_nn bs h.rd.small most s
  have hle : (cntR bs most s).1 ≤ 65535 := by
    unfold cntR
    split
    · have := (nR_bd bs h.rd.small 2 s).2
      have hp : pw 2 = 65536 := by decide
      omega
    · exact (by omega : (0 : Int) ≤ 65535)
  have hcn := count_any D r v pv bs P s most w h
  obtain ⟨⟨n0, s1⟩, e1⟩ : ∃ q, cntR bs most s = q := ⟨_, rfl⟩
  have hl : listR most rd bs s = lst rd n0.toNat [] bs s1 := by show lst rd (cntR bs most s).1.toNat [] bs (cntR bs most s).2 = _; rw [e1]
  rw [e1] at hcn hnn hle
  rw [hl]
  dsimp only at hcn hnn hle
  obtain ⟨N, rfl⟩ := Int.eq_ofNat_of_zero_le hnn
  rw [Int.toNat_natCast]
  obtain ⟨goal, hg⟩ : ∃ g, lst rd N [] bs s1 = g := ⟨_, rfl⟩
  rw [hg]
  clear hl e1 hnn
  go_enter Tryz.func48, Tryz.ntmps48
  go_wp2
  refine wp_scope_once 0 (by rfl) ?_
  go_wp2_with (first
    | (go_at_call 83; (with_reducible refine hcn.mono ?_); rintro e w1 ⟨rfl, h1, k1⟩)
    | fail)
  go_loopw [7, 11] (fun l i wr => ∃ (j : Nat) (acc : List ByteArray) (s' : St), i = .int .i64 j ∧ j ≤ N ∧ acc.length ≤ j ∧ lst rd (N - j) acc bs s' = goal ∧ Lx w 9 1 l acc.length (acc.flatMap strCl) D r v pv bs P wr s') (fun _ i _ => N - (intOf i).toNat)
  case atStart => exact ⟨0, [], s1, rfl, Nat.zero_le _, Nat.le_refl _, hg, ⟨⟨s, h⟩, World.ownsRow_nil _ _ _ _, h1, k1⟩⟩
  case round =>
    clear h1 k1 hg hcn
    obtain ⟨j, acc, s', rfl, hj, ha, hd, hL⟩ := hrel
    by_cases hlt : j < N
    · have e2 : N - j = (N - (j + 1)) + 1 := by omega
      have hrd := hread wr s' hL.dc
      obtain ⟨⟨x, s2⟩, e3⟩ : ∃ q, rd bs s' = q := ⟨_, rfl⟩
      rw [e3] at hrd
      rw [e2] at hd
      obtain ⟨ao, c, rfl⟩ := own_form hL.own
      cases hb : bad s2 with
      | true =>
        rw [lst_bad e3 hb] at hd
        have HD : Hid (([], sy s2) = goal) := hd
        clear hd e3 e2
        go_wp2_with (first
          | (go_at_call 88; (with_reducible refine hrd.mono ?_); rintro e w2 ⟨rfl, h2, k2⟩; have hL2 := hL.call h2 k2)
          | (at_builtin; refine hL2.wpL ekS rfl (.tmp 13) (.tmp 16) rfl rfl ([.string x] : List Value) _ rfl rfl (by simp [Value.oneCell']) (by omega) ?_; intro v' w3 hL3; have hfa := failed_any D r v pv bs P s2 w3 hL3.dc; rw [hb] at hfa)
          | (go_at_call 50; (with_reducible refine hfa.mono ?_); rintro e w4 ⟨rfl, h4, k4⟩; have hL4 := hL3.call h4 k4)
          | fail)
        go_step3
        refine And.intro rfl ?_
        change Code.wp Tryz.prog _ _ _ _
        go_wp2
        rw [Exit.noGoto_ret]
        go_ret
        rw [← HD.out]
        exact ⟨_, rfl, hL4.h0, World.ownsRow_nil _ _ _ _, hL4.dc, hL4.dk⟩
      | false =>
        rw [lst_on e3 hb] at hd
        have HD : Hid (lst rd (N - (j + 1)) (acc ++ [x]) bs (sy s2) = goal) := hd
        clear hd e3 e2
        go_wp2_with (first
          | (go_at_call 88; (with_reducible refine hrd.mono ?_); rintro e w2 ⟨rfl, h2, k2⟩; have hL2 := hL.call h2 k2)
          | (at_builtin; refine hL2.wpL ekS rfl (.tmp 13) (.tmp 16) rfl rfl ([.string x] : List Value) _ rfl rfl (by simp [Value.oneCell']) (by omega) ?_; intro v' w3 hL3; have hfa := failed_any D r v pv bs P s2 w3 hL3.dc; rw [hb] at hfa)
          | (go_at_call 50; (with_reducible refine hfa.mono ?_); rintro e w4 ⟨rfl, h4, k4⟩; have hL4 := hL3.call h4 k4)
          | fail)
        go_roundw
        case rel => exact ⟨j + 1, acc ++ [x], sy s2, by go_num, by omega, by simp; omega, HD.out, by
          have e1 : (acc ++ [x]).length = acc.length + 1 := by simp
          have e2 : ((acc ++ [x]).flatMap strCl) = (acc.flatMap strCl) ++ [.string x] := by simp [strCl]
          rw [e1, e2]
          exact hL4⟩
        case measure => simp [intOf]; omega
    · obtain rfl : j = N := by omega
      rw [Nat.sub_self, lst] at hd
      have HD : Hid ((acc, s') = goal) := hd
      clear hd
      go_wp2
      rw [jump_ret]
      go_ret
      rw [← HD.out]
      exact ⟨_, rfl, hL⟩

set_option maxRecDepth 100000 in
set_option maxHeartbeats 8000000 in
theorem listP_any (D r : Nat) (v pv : Value) (bs : List Int) (P : List ByteArray) (s : St) (rd : RD ByteArray) (most : Int) (hm : 0 ≤ most) (w : World) (h : Dc w D r v pv bs P s)
    (hread : ∀ w' s', Dc w' D r v pv bs P s' → Calls Tryz.prog 49 #[.pointer (some ⟨r, 0, none⟩)] w' fun e w'' => e = .returned (.string (rd bs s').1) ∧ Dc w'' D r v pv bs P (rd bs s').2 ∧ Dk D r w' w'') :
    Calls Tryz.prog 48 #[.pointer (some ⟨D, 0, none⟩), .int .i64 most, .func (.func 49) #[.pointer (some ⟨r, 0, none⟩)] #[]] w fun e w' => ∃ l, e = .returned l ∧ Lx w 9 1 l (listR most rd bs s).1.length ((listR most rd bs s).1.flatMap strCl) D r v pv bs P w' (listR most rd bs s).2 := by
  have hnn := cntR_nn bs h.rd.small most s
  have hle : (cntR bs most s).1 ≤ 65535 := by
    unfold cntR
    split
    · have := (nR_bd bs h.rd.small 2 s).2
      have hp : pw 2 = 65536 := by decide
      omega
    · exact (by omega : (0 : Int) ≤ 65535)
  have hcn := count_any D r v pv bs P s most w h
  obtain ⟨⟨n0, s1⟩, e1⟩ : ∃ q, cntR bs most s = q := ⟨_, rfl⟩
  have hl : listR most rd bs s = lst rd n0.toNat [] bs s1 := by show lst rd (cntR bs most s).1.toNat [] bs (cntR bs most s).2 = _; rw [e1]
  rw [e1] at hcn hnn hle
  rw [hl]
  dsimp only at hcn hnn hle
  obtain ⟨N, rfl⟩ := Int.eq_ofNat_of_zero_le hnn
  rw [Int.toNat_natCast]
  obtain ⟨goal, hg⟩ : ∃ g, lst rd N [] bs s1 = g := ⟨_, rfl⟩
  rw [hg]
  clear hl e1 hnn
  go_enter Tryz.func48, Tryz.ntmps48
  go_wp2
  refine wp_scope_once 0 (by rfl) ?_
  go_wp2_with (first
    | (go_at_call 83; (with_reducible refine hcn.mono ?_); rintro e w1 ⟨rfl, h1, k1⟩)
    | fail)
  go_loopw [7, 11] (fun l i wr => ∃ (j : Nat) (acc : List ByteArray) (s' : St), i = .int .i64 j ∧ j ≤ N ∧ acc.length ≤ j ∧ lst rd (N - j) acc bs s' = goal ∧ Lx w 9 1 l acc.length (acc.flatMap strCl) D r v pv bs P wr s') (fun _ i _ => N - (intOf i).toNat)
  case atStart => exact ⟨0, [], s1, rfl, Nat.zero_le _, Nat.le_refl _, hg, ⟨⟨s, h⟩, World.ownsRow_nil _ _ _ _, h1, k1⟩⟩
  case round =>
    clear h1 k1 hg hcn
    obtain ⟨j, acc, s', rfl, hj, ha, hd, hL⟩ := hrel
    by_cases hlt : j < N
    · have e2 : N - j = (N - (j + 1)) + 1 := by omega
      have hrd := hread wr s' hL.dc
      obtain ⟨⟨x, s2⟩, e3⟩ : ∃ q, rd bs s' = q := ⟨_, rfl⟩
      rw [e3] at hrd
      rw [e2] at hd
      obtain ⟨ao, c, rfl⟩ := own_form hL.own
      cases hb : bad s2 with
      | true =>
        rw [lst_bad e3 hb] at hd
        have HD : Hid (([], sy s2) = goal) := hd
        clear hd e3 e2
        go_wp2_with (first
          | (go_at_call 49; (with_reducible refine hrd.mono ?_); rintro e w2 ⟨rfl, h2, k2⟩; have hL2 := hL.call h2 k2)
          | (at_builtin; refine hL2.wpL ekS rfl (.tmp 13) (.tmp 16) rfl rfl ([.string x] : List Value) _ rfl rfl (by simp [Value.oneCell']) (by omega) ?_; intro v' w3 hL3; have hfa := failed_any D r v pv bs P s2 w3 hL3.dc; rw [hb] at hfa)
          | (go_at_call 50; (with_reducible refine hfa.mono ?_); rintro e w4 ⟨rfl, h4, k4⟩; have hL4 := hL3.call h4 k4)
          | fail)
        go_step3
        refine And.intro rfl ?_
        change Code.wp Tryz.prog _ _ _ _
        go_wp2
        rw [Exit.noGoto_ret]
        go_ret
        rw [← HD.out]
        exact ⟨_, rfl, hL4.h0, World.ownsRow_nil _ _ _ _, hL4.dc, hL4.dk⟩
      | false =>
        rw [lst_on e3 hb] at hd
        have HD : Hid (lst rd (N - (j + 1)) (acc ++ [x]) bs (sy s2) = goal) := hd
        clear hd e3 e2
        go_wp2_with (first
          | (go_at_call 49; (with_reducible refine hrd.mono ?_); rintro e w2 ⟨rfl, h2, k2⟩; have hL2 := hL.call h2 k2)
          | (at_builtin; refine hL2.wpL ekS rfl (.tmp 13) (.tmp 16) rfl rfl ([.string x] : List Value) _ rfl rfl (by simp [Value.oneCell']) (by omega) ?_; intro v' w3 hL3; have hfa := failed_any D r v pv bs P s2 w3 hL3.dc; rw [hb] at hfa)
          | (go_at_call 50; (with_reducible refine hfa.mono ?_); rintro e w4 ⟨rfl, h4, k4⟩; have hL4 := hL3.call h4 k4)
          | fail)
        go_roundw
        case rel => exact ⟨j + 1, acc ++ [x], sy s2, by go_num, by omega, by simp; omega, HD.out, by
          have e1 : (acc ++ [x]).length = acc.length + 1 := by simp
          have e2 : ((acc ++ [x]).flatMap strCl) = (acc.flatMap strCl) ++ [.string x] := by simp [strCl]
          rw [e1, e2]
          exact hL4⟩
        case measure => simp [intOf]; omega
    · obtain rfl : j = N := by omega
      rw [Nat.sub_self, lst] at hd
      have HD : Hid ((acc, s') = goal) := hd
      clear hd
      go_wp2
      rw [jump_ret]
      go_ret
      rw [← HD.out]
      exact ⟨_, rfl, hL⟩

set_option maxRecDepth 100000 in
set_option maxHeartbeats 8000000 in
theorem listI_any (D r : Nat) (v pv : Value) (bs : List Int) (P : List ByteArray) (s : St) (rd : RD Ins) (most : Int) (hm : 0 ≤ most) (w : World) (h : Dc w D r v pv bs P s)
    (hread : ∀ w' s', Dc w' D r v pv bs P s' → Calls Tryz.prog 124 #[.pointer (some ⟨D, 0, none⟩)] w' fun e w'' => e = .returned (insV (rd bs s').1) ∧ Dc w'' D r v pv bs P (rd bs s').2 ∧ Dk D r w' w'') :
    Calls Tryz.prog 123 #[.pointer (some ⟨D, 0, none⟩), .int .i64 most, .func (.func 124) #[.pointer (some ⟨D, 0, none⟩)] #[]] w fun e w' => ∃ l, e = .returned l ∧ Lx w 47 6 l (listR most rd bs s).1.length ((listR most rd bs s).1.flatMap insCl) D r v pv bs P w' (listR most rd bs s).2 := by
  have hnn := cntR_nn bs h.rd.small most s
  have hle : (cntR bs most s).1 ≤ 65535 := by
    unfold cntR
    split
    · have := (nR_bd bs h.rd.small 2 s).2
      have hp : pw 2 = 65536 := by decide
      omega
    · exact (by omega : (0 : Int) ≤ 65535)
  have hcn := count_any D r v pv bs P s most w h
  obtain ⟨⟨n0, s1⟩, e1⟩ : ∃ q, cntR bs most s = q := ⟨_, rfl⟩
  have hl : listR most rd bs s = lst rd n0.toNat [] bs s1 := by show lst rd (cntR bs most s).1.toNat [] bs (cntR bs most s).2 = _; rw [e1]
  rw [e1] at hcn hnn hle
  rw [hl]
  dsimp only at hcn hnn hle
  obtain ⟨N, rfl⟩ := Int.eq_ofNat_of_zero_le hnn
  rw [Int.toNat_natCast]
  obtain ⟨goal, hg⟩ : ∃ g, lst rd N [] bs s1 = g := ⟨_, rfl⟩
  rw [hg]
  clear hl e1 hnn
  go_enter Tryz.func123, Tryz.ntmps123
  go_wp2
  refine wp_scope_once 0 (by rfl) ?_
  go_wp2_with (first
    | (go_at_call 83; (with_reducible refine hcn.mono ?_); rintro e w1 ⟨rfl, h1, k1⟩)
    | fail)
  go_loopw [7, 11] (fun l i wr => ∃ (j : Nat) (acc : List Ins) (s' : St), i = .int .i64 j ∧ j ≤ N ∧ acc.length ≤ j ∧ lst rd (N - j) acc bs s' = goal ∧ Lx w 47 6 l acc.length (acc.flatMap insCl) D r v pv bs P wr s') (fun _ i _ => N - (intOf i).toNat)
  case atStart => exact ⟨0, [], s1, rfl, Nat.zero_le _, Nat.le_refl _, hg, ⟨⟨s, h⟩, World.ownsRow_nil _ _ _ _, h1, k1⟩⟩
  case round =>
    clear h1 k1 hg hcn
    obtain ⟨j, acc, s', rfl, hj, ha, hd, hL⟩ := hrel
    by_cases hlt : j < N
    · have e2 : N - j = (N - (j + 1)) + 1 := by omega
      have hrd := hread wr s' hL.dc
      obtain ⟨⟨x, s2⟩, e3⟩ : ∃ q, rd bs s' = q := ⟨_, rfl⟩
      rw [e3] at hrd
      rw [e2] at hd
      unfold insV at hrd
      dsimp only at hrd
      obtain ⟨ao, c, rfl⟩ := own_form hL.own
      cases hb : bad s2 with
      | true =>
        rw [lst_bad e3 hb] at hd
        have HD : Hid (([], sy s2) = goal) := hd
        clear hd e3 e2
        go_wp2_with (first
          | (go_at_call 124; (with_reducible refine hrd.mono ?_); rintro e w2 ⟨rfl, h2, k2⟩; have hL2 := hL.call h2 k2)
          | (at_builtin; refine hL2.wpL ekI rfl (.tmp 13) (.tmp 16) rfl rfl ([.int .i64 x.op, .int .i64 x.a, .int .i64 x.b, .string x.c, .string x.n, .string x.d] : List Value) _ rfl rfl (by simp [Value.oneCell']) (by omega) ?_; intro v' w3 hL3; have hfa := failed_any D r v pv bs P s2 w3 hL3.dc; rw [hb] at hfa)
          | (go_at_call 50; (with_reducible refine hfa.mono ?_); rintro e w4 ⟨rfl, h4, k4⟩; have hL4 := hL3.call h4 k4)
          | fail)
        go_step3
        refine And.intro rfl ?_
        change Code.wp Tryz.prog _ _ _ _
        go_wp2
        rw [Exit.noGoto_ret]
        go_ret
        rw [← HD.out]
        exact ⟨_, rfl, hL4.h0, World.ownsRow_nil _ _ _ _, hL4.dc, hL4.dk⟩
      | false =>
        rw [lst_on e3 hb] at hd
        have HD : Hid (lst rd (N - (j + 1)) (acc ++ [x]) bs (sy s2) = goal) := hd
        clear hd e3 e2
        go_wp2_with (first
          | (go_at_call 124; (with_reducible refine hrd.mono ?_); rintro e w2 ⟨rfl, h2, k2⟩; have hL2 := hL.call h2 k2)
          | (at_builtin; refine hL2.wpL ekI rfl (.tmp 13) (.tmp 16) rfl rfl ([.int .i64 x.op, .int .i64 x.a, .int .i64 x.b, .string x.c, .string x.n, .string x.d] : List Value) _ rfl rfl (by simp [Value.oneCell']) (by omega) ?_; intro v' w3 hL3; have hfa := failed_any D r v pv bs P s2 w3 hL3.dc; rw [hb] at hfa)
          | (go_at_call 50; (with_reducible refine hfa.mono ?_); rintro e w4 ⟨rfl, h4, k4⟩; have hL4 := hL3.call h4 k4)
          | fail)
        go_roundw
        case rel => exact ⟨j + 1, acc ++ [x], sy s2, by go_num, by omega, by simp; omega, HD.out, by
          have e1 : (acc ++ [x]).length = acc.length + 1 := by simp
          have e2 : ((acc ++ [x]).flatMap insCl) = (acc.flatMap insCl) ++ [.int .i64 x.op, .int .i64 x.a, .int .i64 x.b, .string x.c, .string x.n, .string x.d] := by simp [insCl]
          rw [e1, e2]
          exact hL4⟩
        case measure => simp [intOf]; omega
    · obtain rfl : j = N := by omega
      rw [Nat.sub_self, lst] at hd
      have HD : Hid ((acc, s') = goal) := hd
      clear hd
      go_wp2
      rw [jump_ret]
      go_ret
      rw [← HD.out]
      exact ⟨_, rfl, hL⟩

set_option maxRecDepth 100000 in
set_option maxHeartbeats 8000000 in
theorem listH_any (D r : Nat) (v pv : Value) (bs : List Int) (P : List ByteArray) (s : St) (rd : RD Hnd) (most : Int) (hm : 0 ≤ most) (w : World) (h : Dc w D r v pv bs P s)
    (hread : ∀ w' s', Dc w' D r v pv bs P s' → Calls Tryz.prog 126 #[.pointer (some ⟨D, 0, none⟩)] w' fun e w'' => e = .returned (hndV (rd bs s').1) ∧ Dc w'' D r v pv bs P (rd bs s').2 ∧ Dk D r w' w'') :
    Calls Tryz.prog 125 #[.pointer (some ⟨D, 0, none⟩), .int .i64 most, .func (.func 126) #[.pointer (some ⟨D, 0, none⟩)] #[]] w fun e w' => ∃ l, e = .returned l ∧ Lx w 77 4 l (listR most rd bs s).1.length ((listR most rd bs s).1.flatMap hndCl) D r v pv bs P w' (listR most rd bs s).2 := by
  have hnn := cntR_nn bs h.rd.small most s
  have hle : (cntR bs most s).1 ≤ 65535 := by
    unfold cntR
    split
    · have := (nR_bd bs h.rd.small 2 s).2
      have hp : pw 2 = 65536 := by decide
      omega
    · exact (by omega : (0 : Int) ≤ 65535)
  have hcn := count_any D r v pv bs P s most w h
  obtain ⟨⟨n0, s1⟩, e1⟩ : ∃ q, cntR bs most s = q := ⟨_, rfl⟩
  have hl : listR most rd bs s = lst rd n0.toNat [] bs s1 := by show lst rd (cntR bs most s).1.toNat [] bs (cntR bs most s).2 = _; rw [e1]
  rw [e1] at hcn hnn hle
  rw [hl]
  dsimp only at hcn hnn hle
  obtain ⟨N, rfl⟩ := Int.eq_ofNat_of_zero_le hnn
  rw [Int.toNat_natCast]
  obtain ⟨goal, hg⟩ : ∃ g, lst rd N [] bs s1 = g := ⟨_, rfl⟩
  rw [hg]
  clear hl e1 hnn
  go_enter Tryz.func125, Tryz.ntmps125
  go_wp2
  refine wp_scope_once 0 (by rfl) ?_
  go_wp2_with (first
    | (go_at_call 83; (with_reducible refine hcn.mono ?_); rintro e w1 ⟨rfl, h1, k1⟩)
    | fail)
  go_loopw [7, 11] (fun l i wr => ∃ (j : Nat) (acc : List Hnd) (s' : St), i = .int .i64 j ∧ j ≤ N ∧ acc.length ≤ j ∧ lst rd (N - j) acc bs s' = goal ∧ Lx w 77 4 l acc.length (acc.flatMap hndCl) D r v pv bs P wr s') (fun _ i _ => N - (intOf i).toNat)
  case atStart => exact ⟨0, [], s1, rfl, Nat.zero_le _, Nat.le_refl _, hg, ⟨⟨s, h⟩, World.ownsRow_nil _ _ _ _, h1, k1⟩⟩
  case round =>
    clear h1 k1 hg hcn
    obtain ⟨j, acc, s', rfl, hj, ha, hd, hL⟩ := hrel
    by_cases hlt : j < N
    · have e2 : N - j = (N - (j + 1)) + 1 := by omega
      have hrd := hread wr s' hL.dc
      obtain ⟨⟨x, s2⟩, e3⟩ : ∃ q, rd bs s' = q := ⟨_, rfl⟩
      rw [e3] at hrd
      rw [e2] at hd
      unfold hndV at hrd
      dsimp only at hrd
      obtain ⟨ao, c, rfl⟩ := own_form hL.own
      cases hb : bad s2 with
      | true =>
        rw [lst_bad e3 hb] at hd
        have HD : Hid (([], sy s2) = goal) := hd
        clear hd e3 e2
        go_wp2_with (first
          | (go_at_call 126; (with_reducible refine hrd.mono ?_); rintro e w2 ⟨rfl, h2, k2⟩; have hL2 := hL.call h2 k2)
          | (at_builtin; refine hL2.wpL ekH rfl (.tmp 13) (.tmp 16) rfl rfl ([.int .i64 x.fr, .int .i64 x.to, .int .i64 x.pl, .string x.c] : List Value) _ rfl rfl (by simp [Value.oneCell']) (by omega) ?_; intro v' w3 hL3; have hfa := failed_any D r v pv bs P s2 w3 hL3.dc; rw [hb] at hfa)
          | (go_at_call 50; (with_reducible refine hfa.mono ?_); rintro e w4 ⟨rfl, h4, k4⟩; have hL4 := hL3.call h4 k4)
          | fail)
        go_step3
        refine And.intro rfl ?_
        change Code.wp Tryz.prog _ _ _ _
        go_wp2
        rw [Exit.noGoto_ret]
        go_ret
        rw [← HD.out]
        exact ⟨_, rfl, hL4.h0, World.ownsRow_nil _ _ _ _, hL4.dc, hL4.dk⟩
      | false =>
        rw [lst_on e3 hb] at hd
        have HD : Hid (lst rd (N - (j + 1)) (acc ++ [x]) bs (sy s2) = goal) := hd
        clear hd e3 e2
        go_wp2_with (first
          | (go_at_call 126; (with_reducible refine hrd.mono ?_); rintro e w2 ⟨rfl, h2, k2⟩; have hL2 := hL.call h2 k2)
          | (at_builtin; refine hL2.wpL ekH rfl (.tmp 13) (.tmp 16) rfl rfl ([.int .i64 x.fr, .int .i64 x.to, .int .i64 x.pl, .string x.c] : List Value) _ rfl rfl (by simp [Value.oneCell']) (by omega) ?_; intro v' w3 hL3; have hfa := failed_any D r v pv bs P s2 w3 hL3.dc; rw [hb] at hfa)
          | (go_at_call 50; (with_reducible refine hfa.mono ?_); rintro e w4 ⟨rfl, h4, k4⟩; have hL4 := hL3.call h4 k4)
          | fail)
        go_roundw
        case rel => exact ⟨j + 1, acc ++ [x], sy s2, by go_num, by omega, by simp; omega, HD.out, by
          have e1 : (acc ++ [x]).length = acc.length + 1 := by simp
          have e2 : ((acc ++ [x]).flatMap hndCl) = (acc.flatMap hndCl) ++ [.int .i64 x.fr, .int .i64 x.to, .int .i64 x.pl, .string x.c] := by simp [hndCl]
          rw [e1, e2]
          exact hL4⟩
        case measure => simp [intOf]; omega
    · obtain rfl : j = N := by omega
      rw [Nat.sub_self, lst] at hd
      have HD : Hid ((acc, s') = goal) := hd
      clear hd
      go_wp2
      rw [jump_ret]
      go_ret
      rw [← HD.out]
      exact ⟨_, rfl, hL⟩

set_option maxRecDepth 100000 in
set_option maxHeartbeats 8000000 in
theorem listF_any (D r : Nat) (v pv : Value) (bs : List Int) (P : List ByteArray) (s : St) (rd : RD Fld) (most : Int) (hm : 0 ≤ most) (w : World) (h : Dc w D r v pv bs P s)
    (hread : ∀ w' s', Dc w' D r v pv bs P s' → Calls Tryz.prog 92 #[.pointer (some ⟨D, 0, none⟩)] w' fun e w'' => e = .returned (fldV (rd bs s').1) ∧ Dc w'' D r v pv bs P (rd bs s').2 ∧ Dk D r w' w'') :
    Calls Tryz.prog 91 #[.pointer (some ⟨D, 0, none⟩), .int .i64 most, .func (.func 92) #[.pointer (some ⟨D, 0, none⟩)] #[]] w fun e w' => ∃ l, e = .returned l ∧ Lx w 54 3 l (listR most rd bs s).1.length ((listR most rd bs s).1.flatMap fldCl) D r v pv bs P w' (listR most rd bs s).2 := by
  have hnn := cntR_nn bs h.rd.small most s
  have hle : (cntR bs most s).1 ≤ 65535 := by
    unfold cntR
    split
    · have := (nR_bd bs h.rd.small 2 s).2
      have hp : pw 2 = 65536 := by decide
      omega
    · exact (by omega : (0 : Int) ≤ 65535)
  have hcn := count_any D r v pv bs P s most w h
  obtain ⟨⟨n0, s1⟩, e1⟩ : ∃ q, cntR bs most s = q := ⟨_, rfl⟩
  have hl : listR most rd bs s = lst rd n0.toNat [] bs s1 := by show lst rd (cntR bs most s).1.toNat [] bs (cntR bs most s).2 = _; rw [e1]
  rw [e1] at hcn hnn hle
  rw [hl]
  dsimp only at hcn hnn hle
  obtain ⟨N, rfl⟩ := Int.eq_ofNat_of_zero_le hnn
  rw [Int.toNat_natCast]
  obtain ⟨goal, hg⟩ : ∃ g, lst rd N [] bs s1 = g := ⟨_, rfl⟩
  rw [hg]
  clear hl e1 hnn
  go_enter Tryz.func91, Tryz.ntmps91
  go_wp2
  refine wp_scope_once 0 (by rfl) ?_
  go_wp2_with (first
    | (go_at_call 83; (with_reducible refine hcn.mono ?_); rintro e w1 ⟨rfl, h1, k1⟩)
    | fail)
  go_loopw [7, 11] (fun l i wr => ∃ (j : Nat) (acc : List Fld) (s' : St), i = .int .i64 j ∧ j ≤ N ∧ acc.length ≤ j ∧ lst rd (N - j) acc bs s' = goal ∧ Lx w 54 3 l acc.length (acc.flatMap fldCl) D r v pv bs P wr s') (fun _ i _ => N - (intOf i).toNat)
  case atStart => exact ⟨0, [], s1, rfl, Nat.zero_le _, Nat.le_refl _, hg, ⟨⟨s, h⟩, World.ownsRow_nil _ _ _ _, h1, k1⟩⟩
  case round =>
    clear h1 k1 hg hcn
    obtain ⟨j, acc, s', rfl, hj, ha, hd, hL⟩ := hrel
    by_cases hlt : j < N
    · have e2 : N - j = (N - (j + 1)) + 1 := by omega
      have hrd := hread wr s' hL.dc
      obtain ⟨⟨x, s2⟩, e3⟩ : ∃ q, rd bs s' = q := ⟨_, rfl⟩
      rw [e3] at hrd
      rw [e2] at hd
      unfold fldV at hrd
      dsimp only at hrd
      obtain ⟨ao, c, rfl⟩ := own_form hL.own
      cases hb : bad s2 with
      | true =>
        rw [lst_bad e3 hb] at hd
        have HD : Hid (([], sy s2) = goal) := hd
        clear hd e3 e2
        go_wp2_with (first
          | (go_at_call 92; (with_reducible refine hrd.mono ?_); rintro e w2 ⟨rfl, h2, k2⟩; have hL2 := hL.call h2 k2)
          | (at_builtin; refine hL2.wpL ekF rfl (.tmp 13) (.tmp 16) rfl rfl ([.string x.n, .string x.d, .bool x.st] : List Value) _ rfl rfl (by simp [Value.oneCell']) (by omega) ?_; intro v' w3 hL3; have hfa := failed_any D r v pv bs P s2 w3 hL3.dc; rw [hb] at hfa)
          | (go_at_call 50; (with_reducible refine hfa.mono ?_); rintro e w4 ⟨rfl, h4, k4⟩; have hL4 := hL3.call h4 k4)
          | fail)
        go_step3
        refine And.intro rfl ?_
        change Code.wp Tryz.prog _ _ _ _
        go_wp2
        rw [Exit.noGoto_ret]
        go_ret
        rw [← HD.out]
        exact ⟨_, rfl, hL4.h0, World.ownsRow_nil _ _ _ _, hL4.dc, hL4.dk⟩
      | false =>
        rw [lst_on e3 hb] at hd
        have HD : Hid (lst rd (N - (j + 1)) (acc ++ [x]) bs (sy s2) = goal) := hd
        clear hd e3 e2
        go_wp2_with (first
          | (go_at_call 92; (with_reducible refine hrd.mono ?_); rintro e w2 ⟨rfl, h2, k2⟩; have hL2 := hL.call h2 k2)
          | (at_builtin; refine hL2.wpL ekF rfl (.tmp 13) (.tmp 16) rfl rfl ([.string x.n, .string x.d, .bool x.st] : List Value) _ rfl rfl (by simp [Value.oneCell']) (by omega) ?_; intro v' w3 hL3; have hfa := failed_any D r v pv bs P s2 w3 hL3.dc; rw [hb] at hfa)
          | (go_at_call 50; (with_reducible refine hfa.mono ?_); rintro e w4 ⟨rfl, h4, k4⟩; have hL4 := hL3.call h4 k4)
          | fail)
        go_roundw
        case rel => exact ⟨j + 1, acc ++ [x], sy s2, by go_num, by omega, by simp; omega, HD.out, by
          have e1 : (acc ++ [x]).length = acc.length + 1 := by simp
          have e2 : ((acc ++ [x]).flatMap fldCl) = (acc.flatMap fldCl) ++ [.string x.n, .string x.d, .bool x.st] := by simp [fldCl]
          rw [e1, e2]
          exact hL4⟩
        case measure => simp [intOf]; omega
    · obtain rfl : j = N := by omega
      rw [Nat.sub_self, lst] at hd
      have HD : Hid ((acc, s') = goal) := hd
      clear hd
      go_wp2
      rw [jump_ret]
      go_ret
      rw [← HD.out]
      exact ⟨_, rfl, hL⟩
end Go.Proofs.YtdalibfgkkgcpaaGreat
