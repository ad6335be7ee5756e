/- Methods that are read, one behind the other; a class. -/
import Derived.Test.YtdalibfgkkgcpaaGreatKDecF
namespace Go.Proofs.YtdalibfgkkgcpaaGreat
open Go.RowKit
set_option linter.unusedVariables false

/-- A method as it lies: itself, its code's slice, its handlers'. -/
def mthCl (t : Mth × Value × Value) : List Value := [.string t.1.n, .string t.1.d, .bool t.1.st, .bool t.1.ab, .int .i64 t.1.sk, .int .i64 t.1.lo, t.2.1, t.2.2]
def inRows (t : Mth × Value × Value) : List Rw := [⟨t.2.1, 47, 6, t.1.code.length, t.1.code.flatMap insCl⟩, ⟨t.2.2, 77, 4, t.1.hs.length, t.1.hs.flatMap hndCl⟩]
/-- Rows of other types than T, one's own since B. -/
def Rws (B : Nat) (T : TypeId) (w : World) (rows : List Rw) : Prop := ∀ x ∈ rows, x.e ≠ T ∧ w.ownsRow B x.e x.k x.v x.n x.cells
section
variable {w w1 w2 : World} {B : Nat} {T e : TypeId} {k n : Nat} {l : Value} {cells : List Value} {D r : Nat} {v pv : Value} {bs : List Int} {P : List ByteArray} {s s1 s2 : St} {rows : List Rw}
theorem Rws.call (h : Rws B T w1 rows) (hk : Dk D r w1 w2) (hD : D < B) (hr : r < B) : Rws B T w2 rows := fun x hx =>
  ⟨(h x hx).1, ownsRow_same (h x hx).2 (fun g' hg' => by
    have hl := (h x hx).2.lt g' hg'
    exact hk.block g' hl.2 (by omega))⟩
theorem Rws.push (h : Rws B T w1 rows) {o : Obj} (hg : (w1.alloc o).grownBy w2 l.ownBlock) {B' : Nat} (ho : w1.ownsRow B' T k l n cells) : Rws B T w2 rows := fun x hx =>
  ⟨(h x hx).1, ownsRow_same (h x hx).2 (fun g' hg' => by
    have hl := (h x hx).2.lt g' hg'
    refine (hg.block g' (by simp; omega) (fun e' => ?_)).trans (Below.heap_alloc _ _ _ hl.2)
    obtain ⟨_, c1, h1⟩ := own_obj (h x hx).2 hg'
    obtain ⟨_, c2, h2⟩ := own_obj ho e'.symm
    rw [h1] at h2
    have : x.e = T := by simpa using (by simpa using h2 : _ ∧ _).2
    exact (h x hx).1 this)⟩
theorem Lx.wpL2 {t : TypeId} (E : Ek t e k) (h : Lx w e k l n cells D r v pv bs P w1 s1) {ops : Array Oper} {rest : List Oper} {o : Oper} {a : Act} {Q : Exit → Act → World → Prop} (hgd : o.guard = none) (s x : Operand)
    (ho : o.op = .call { callee := .builtin .append, args := #[s, x], argTypes := #[t, t] }) (hs : a.eval s = l) (cs : List Value) (c : Nat) (hx : a.eval x = .slice (some ⟨w1.heap.size, 0, none⟩) 1 c) (hcs : cs.length = k) (h1 : ∀ u ∈ cs, u.oneCell' = true) (hn : n ≤ 100000)
    (hI : Rws w.heap.size e w1 rows)
    (K : ∀ v' w', Lx w e k v' (n + 1) (cells ++ cs) D r v pv bs P w' s1 → Rws w.heap.size e w' rows → wpList Tryz.prog ops Q rest (a.put o.dst v') w') : wpList Tryz.prog ops Q (o :: rest) a (w1.alloc (.cells cs.toArray e)) := by
  obtain ⟨i, z, b, hi, hz, hsz, hby, hzs, hb⟩ := E.hi
  have hs1 := h.dk.size
  refine wpList_append_own_at _ hgd s x t ho w.heap.size e i z k b E.ht hi hz hsz hby hzs E.hk l n cells hs (ownsRow_keep h.own ((Ch.refl w1).alloc _)) ⟨w1.heap.size, 0, none⟩ 1 c cs hx (by omega) (fun j u hj => ?_) h1 (by unfold maxLen; omega) ?_ (by simp; omega) ?_
  · have e1 : (⟨w1.heap.size, 0, none⟩ : Addr).add j = ⟨w1.heap.size, 0 + j, none⟩ := by unfold Addr.add; split <;> simp_all
    have hb0 : (w1.alloc (.cells cs.toArray e)).heap[w1.heap.size]? = some (.cells cs.toArray e) := heap_alloc_new _ _
    rw [e1]
    simp only [World.cell?, hb0, Nat.zero_add]
    simpa using hj
  · have : (n + 1) * b ≤ 100001 * 1000 := Nat.mul_le_mul (by omega) hb
    omega
  · intro v' w' g1 g2 _ _
    exact K v' w' (h.push (cs := cs) g1 g2) (hI.push g2 h.own)
theorem Bw.row2 {g : Nat} {cs : Array Value} (h : Bw w g T cs D r v pv bs P w1 s1 rows) (hL : Lx w1 e k l n cells D r v pv bs P w2 s2) (he : e ≠ T) {more : List Rw} (hm : Rws w1.heap.size e w2 more) (hmT : ∀ x ∈ more, x.e ≠ T) : Bw w g T cs D r v pv bs P w2 s2 (⟨l, e, k, n, cells⟩ :: (more ++ rows)) := by
  have h1 := h.row hL he
  refine ⟨h1.bx, fun x hx => ?_⟩
  rcases List.mem_cons.1 hx with rfl | hx
  · exact h1.ow _ (List.mem_cons_self ..)
  · rcases List.mem_append.1 hx with hx | hx
    · exact ⟨hmT x hx, ownsRow_base (hm x hx).2 h.bx.k.size⟩
    · exact h1.ow x (List.mem_cons_of_mem _ hx)
end

set_option maxRecDepth 100000 in
set_option maxHeartbeats 8000000 in
theorem listM_any (D r : Nat) (v pv : Value) (bs : List Int) (P : List ByteArray) (s : St) (rd : RD Mth) (most : Int) (hm : 0 ≤ most) (w : World) (h : Dc w D r v pv bs P s)
    (hread : ∀ w' s', Dc w' D r v pv bs P s' → Calls Tryz.prog 94 #[.pointer (some ⟨D, 0, none⟩)] w' fun e w'' => ∃ vc vh, e = .returned (.agg #[.string (rd bs s').1.n, .string (rd bs s').1.d, .bool (rd bs s').1.st, .bool (rd bs s').1.ab, .int .i64 (rd bs s').1.sk, .int .i64 (rd bs s').1.lo, vc, vh]) ∧
      w''.ownsRow w'.heap.size 47 6 vc (rd bs s').1.code.length ((rd bs s').1.code.flatMap insCl) ∧ w''.ownsRow w'.heap.size 77 4 vh (rd bs s').1.hs.length ((rd bs s').1.hs.flatMap hndCl) ∧ Dc w'' D r v pv bs P (rd bs s').2 ∧ Dk D r w' w'') :
    Calls Tryz.prog 93 #[.pointer (some ⟨D, 0, none⟩), .int .i64 most, .func (.func 94) #[.pointer (some ⟨D, 0, none⟩)] #[]] w fun e w' => ∃ (l : Value) (ts : List (Mth × Value × Value)), e = .returned l ∧ ts.map (·.1) = (listR most rd bs s).1 ∧ Lx w 45 8 l ts.length (ts.flatMap mthCl) D r v pv bs P w' (listR most rd bs s).2 ∧ Rws w.heap.size 45 w' (ts.flatMap inRows) := by
  have hnn := cntR_nn bs h.rd.small most s
  have hle : (cntR bs most s).1 ≤ 65535 := by
    unfold cntR
    split
    · have := (nR_bd bs h.rd.small 2 s).2
      have hp : pw 2 = 65536 := by decide
      omega
    · exact (by omega : (0 : Int) ≤ 65535)
  have hcn := count_any D r v pv bs P s most w h
  obtain ⟨⟨n0, s1⟩, e1⟩ : ∃ q, cntR bs most s = q := ⟨_, rfl⟩
  have hl : listR most rd bs s = lst rd n0.toNat [] bs s1 := by show lst rd (cntR bs most s).1.toNat [] bs (cntR bs most s).2 = _; rw [e1]
  rw [e1] at hcn hnn hle
  rw [hl]
  dsimp only at hcn hnn hle
  obtain ⟨N, rfl⟩ := Int.eq_ofNat_of_zero_le hnn
  rw [Int.toNat_natCast]
  obtain ⟨goal, hg⟩ : ∃ g, lst rd N [] bs s1 = g := ⟨_, rfl⟩
  rw [hg]
  have hDw := h.lt
  have hrw := h.rd.lt
  clear hl e1 hnn
  go_enter Tryz.func93, Tryz.ntmps93
  go_wp2
  refine wp_scope_once 0 (by rfl) ?_
  go_wp2_with (first
    | (go_at_call 83; (with_reducible refine hcn.mono ?_); rintro e w1 ⟨rfl, h1, k1⟩)
    | fail)
  go_loopw [7, 11] (fun l i wr => ∃ (j : Nat) (acc : List (Mth × Value × Value)) (s' : St), i = .int .i64 j ∧ j ≤ N ∧ acc.length ≤ j ∧ lst rd (N - j) (acc.map (·.1)) bs s' = goal ∧ Lx w 45 8 l acc.length (acc.flatMap mthCl) D r v pv bs P wr s' ∧ Rws w.heap.size 45 wr (acc.flatMap inRows)) (fun _ i _ => N - (intOf i).toNat)
  case atStart => exact ⟨0, [], s1, rfl, Nat.zero_le _, Nat.le_refl _, hg, ⟨⟨s, h⟩, World.ownsRow_nil _ _ _ _, h1, k1⟩, fun x hx => by simp at hx⟩
  case round =>
    clear h1 k1 hg hcn
    obtain ⟨j, acc, s', rfl, hj, ha, hd, hL, hI⟩ := hrel
    by_cases hlt : j < N
    · have e2 : N - j = (N - (j + 1)) + 1 := by omega
      have hrd := hread wr s' hL.dc
      obtain ⟨⟨x, s2⟩, e3⟩ : ∃ q, rd bs s' = q := ⟨_, rfl⟩
      rw [e3] at hrd
      rw [e2] at hd
      dsimp only at hrd
      obtain ⟨ao, c, rfl⟩ := own_form hL.own
      have hwr := hL.dk.size
      have HIN : Hid (∀ w2 vc vh, Dk D r wr w2 → w2.ownsRow wr.heap.size 47 6 vc x.code.length (x.code.flatMap insCl) → w2.ownsRow wr.heap.size 77 4 vh x.hs.length (x.hs.flatMap hndCl) → Rws w.heap.size 45 w2 ((acc ++ [(x, vc, vh)]).flatMap inRows)) := fun w2 vc vh k2 o1 o2 => by
        intro y hy
        rw [List.flatMap_append] at hy
        rcases List.mem_append.1 hy with hy | hy
        · exact (hI.call k2 hDw hrw) y hy
        · simp only [List.flatMap_cons, List.flatMap_nil, List.append_nil, inRows, List.mem_cons, List.not_mem_nil, or_false] at hy
          rcases hy with rfl | rfl
          · exact ⟨(by show (47 : Nat) ≠ 45; decide), ownsRow_base o1 hwr⟩
          · exact ⟨(by show (77 : Nat) ≠ 45; decide), ownsRow_base o2 hwr⟩
      clear hI
      cases hb : bad s2 with
      | true =>
        rw [lst_bad e3 hb] at hd
        have HD : Hid (([], sy s2) = goal) := hd
        clear hd e3 e2
        go_wp2_with (first
          | (go_at_call 94; (with_reducible refine hrd.mono ?_); rintro e w2 ⟨vc, vh, rfl, o1, o2, h2, k2⟩; have hL2 := hL.call h2 k2; have hI2 := HIN.out w2 vc vh k2 o1 o2; obtain ⟨ac, cc, rfl⟩ := own_form o1; obtain ⟨ah, ch, rfl⟩ := own_form o2)
          | (at_builtin; refine hL2.wpL2 ekM rfl (.tmp 13) (.tmp 16) rfl rfl (mthCl (x, _, _)) _ rfl rfl (by simp [mthCl, Value.oneCell']) (by omega) hI2 ?_; intro v' w3 hL3 hI3; have hfa := failed_any D r v pv bs P s2 w3 hL3.dc; rw [hb] at hfa)
          | (go_at_call 50; (with_reducible refine hfa.mono ?_); rintro e w4 ⟨rfl, h4, k4⟩; have hL4 := hL3.call h4 k4)
          | fail)
        go_step3
        refine And.intro rfl ?_
        change Code.wp Tryz.prog _ _ _ _
        go_wp2
        rw [Exit.noGoto_ret]
        go_ret
        rw [← HD.out]
        exact ⟨_, [], rfl, rfl, ⟨hL4.h0, World.ownsRow_nil _ _ _ _, hL4.dc, hL4.dk⟩, fun x hx => by simp at hx⟩
      | false =>
        rw [lst_on e3 hb] at hd
        have HD : Hid (lst rd (N - (j + 1)) (acc.map (·.1) ++ [x]) bs (sy s2) = goal) := hd
        clear hd e3 e2
        go_wp2_with (first
          | (go_at_call 94; (with_reducible refine hrd.mono ?_); rintro e w2 ⟨vc, vh, rfl, o1, o2, h2, k2⟩; have hL2 := hL.call h2 k2; have hI2 := HIN.out w2 vc vh k2 o1 o2; obtain ⟨ac, cc, rfl⟩ := own_form o1; obtain ⟨ah, ch, rfl⟩ := own_form o2)
          | (at_builtin; refine hL2.wpL2 ekM rfl (.tmp 13) (.tmp 16) rfl rfl (mthCl (x, _, _)) _ rfl rfl (by simp [mthCl, Value.oneCell']) (by omega) hI2 ?_; intro v' w3 hL3 hI3; have hfa := failed_any D r v pv bs P s2 w3 hL3.dc; rw [hb] at hfa)
          | (go_at_call 50; (with_reducible refine hfa.mono ?_); rintro e w4 ⟨rfl, h4, k4⟩; have hL4 := hL3.call h4 k4; have hI4 := hI3.call k4 hDw hrw)
          | fail)
        go_roundw
        case rel => exact ⟨j + 1, acc ++ [(x, .slice ac x.code.length cc, .slice ah x.hs.length ch)], sy s2, by go_num, by omega, by simp; omega, by rw [List.map_append]; exact HD.out, by
          have e1 : (acc ++ [(x, Value.slice ac x.code.length cc, Value.slice ah x.hs.length ch)]).length = acc.length + 1 := by simp
          have e2 : ((acc ++ [(x, Value.slice ac x.code.length cc, Value.slice ah x.hs.length ch)]).flatMap mthCl) = (acc.flatMap mthCl) ++ mthCl (x, Value.slice ac x.code.length cc, Value.slice ah x.hs.length ch) := by simp
          rw [e1, e2]
          exact hL4, hI4⟩
        case measure => simp [intOf]; omega
    · obtain rfl : j = N := by omega
      rw [Nat.sub_self, lst] at hd
      have HD : Hid ((acc.map (·.1), s') = goal) := hd
      clear hd
      go_wp2
      rw [jump_ret]
      go_ret
      rw [← HD.out]
      exact ⟨_, acc, rfl, rfl, hL, hI⟩
theorem Sl.nil {α : Type} (k : Nat) (R : World → List Value → α → Prop) (w : World) : Sl k R w (.slice none 0 0) ([] : List α) := ⟨none, 0, rfl, Nat.le_refl _, by omega, fun hp => by simp at hp⟩
theorem own_far {w1 w2 : World} {B : Nat} {e : TypeId} {k n : Nat} {l : Value} {cells : List Value} (h : w1.ownsRow B e k l n cells) (c : Cs (fun g => g < B) w1 w2) : w2.ownsRow B e k l n cells :=
  ownsRow_same h (fun g hg => by have := h.lt g hg; exact c.block g this.2 (by omega))
theorem sl_mth {w : World} {B : Nat} {v : Value} {ts : List (Mth × Value × Value)} (h : w.ownsRow B 45 8 v ts.length (ts.flatMap mthCl)) (hI : ∀ t ∈ ts, w.ownsRow B 47 6 t.2.1 t.1.code.length (t.1.code.flatMap insCl) ∧ w.ownsRow B 77 4 t.2.2 t.1.hs.length (t.1.hs.flatMap hndCl)) :
    Sl 8 RM w v (ts.map (·.1)) := by
  have h1 : Sl 8 (fun w cs t => cs = mthCl t) w v ts := sl_gen (C := mthCl) (fun _ => rfl) h (fun _ _ => rfl)
  obtain ⟨ao, cap, hv, a1, a2, a3⟩ := h1
  refine ⟨ao, cap, by rw [List.length_map]; exact hv, by rw [List.length_map]; exact a1, a2, fun hp => ?_⟩
  rw [List.length_map] at hp
  obtain ⟨b, off, hao, hc⟩ := a3 hp
  refine ⟨b, off, hao, fun i m hi => ?_⟩
  rw [List.getElem?_map] at hi
  cases ht : ts[i]? with
  | none => rw [ht] at hi; cases hi
  | some t =>
    rw [ht] at hi
    have hi : t.1 = m := by simpa using hi
    subst hi
    obtain ⟨cs, rfl, hcell⟩ := hc i t ht
    obtain ⟨o1, o2⟩ := hI t (List.mem_of_getElem? ht)
    exact ⟨_, ⟨t.2.1, t.2.2, rfl, sl_ins o1, sl_hnd o2⟩, hcell⟩
theorem info26' : (Tryz.prog.info? 26).map (·.size) = some 7 := by kernel_rfl
theorem inRows_ne {ts : List (Mth × Value × Value)} : ∀ x ∈ ts.flatMap inRows, x.e ≠ 26 := by
  intro x hx
  obtain ⟨t, _, hx⟩ := List.mem_flatMap.1 hx
  simp only [inRows, List.mem_cons, List.not_mem_nil, or_false] at hx
  rcases hx with rfl | rfl
  · show (47 : Nat) ≠ 26; decide
  · show (77 : Nat) ≠ 26; decide

set_option maxRecDepth 100000 in
set_option maxHeartbeats 16000000 in
theorem class_0 (D r : Nat) (v pv : Value) (bs : List Int) (P : List ByteArray) (s : St) (hP : ∀ t ∈ P, t.size ≤ 65535) (w : World) (h : Dc w D r v pv bs P s)
    (x1 x2 : ByteArray) (x3 x4 : Bool) (im : List ByteArray) (s1 s2 s3 s4 s5 : St)
    (e1 : txtR bs P s = (x1, s1)) (e2 : txtR bs P s1 = (x2, s2)) (e3 : yesR bs s2 = (x3, s3)) (e4 : yesR bs s3 = (x4, s4)) (e5 : listR 30 (fun bs => txtR bs P) bs s4 = (im, s5))
    (s6 : St) (e6 : mu s5 (hdE ⟨x1, x2, x3, x4, im, [], []⟩) s.a = s6) (hb6 : bad s6 = true) :
    Calls Tryz.prog 51 #[.pointer (some ⟨D, 0, none⟩)] w fun e w' => ∃ vi vf vm, e = .returned (.agg #[.string x1, .string x2, .bool x3, .bool x4, vi, vf, vm]) ∧ (∀ w'', Cs (fun g => g < w.heap.size) w' w'' → ClsAt w'' ⟨x1, x2, x3, x4, im, [], []⟩ vi vf vm) ∧ Dc w' D r v pv bs P (sy s6) ∧ Dk D r w w' := by
  have H1 : Hid (∀ w', Dc w' D r v pv bs P s → Calls Tryz.prog 88 #[.pointer (some ⟨D, 0, none⟩)] w' fun e w'' => e = .returned (.string x1) ∧ Dc w'' D r v pv bs P s1 ∧ Dk D r w' w'') := fun w' h' => by
    have := dtext_any D r v pv bs P s w' h'; rw [e1] at this; exact this
  have H2 : Hid (∀ w', Dc w' D r v pv bs P s1 → Calls Tryz.prog 88 #[.pointer (some ⟨D, 0, none⟩)] w' fun e w'' => e = .returned (.string x2) ∧ Dc w'' D r v pv bs P s2 ∧ Dk D r w' w'') := fun w' h' => by
    have := dtext_any D r v pv bs P s1 w' h'; rw [e2] at this; exact this
  have H3 : Hid (∀ w', Dc w' D r v pv bs P s2 → Calls Tryz.prog 89 #[.pointer (some ⟨D, 0, none⟩)] w' fun e w'' => e = .returned (.bool x3) ∧ Dc w'' D r v pv bs P s3 ∧ Dk D r w' w'') := fun w' h' => by
    have := dyes_any D r v pv bs P s2 w' h'; rw [e3] at this; exact this
  have H4 : Hid (∀ w', Dc w' D r v pv bs P s3 → Calls Tryz.prog 89 #[.pointer (some ⟨D, 0, none⟩)] w' fun e w'' => e = .returned (.bool x4) ∧ Dc w'' D r v pv bs P s4 ∧ Dk D r w' w'') := fun w' h' => by
    have := dyes_any D r v pv bs P s3 w' h'; rw [e4] at this; exact this
  have H5 : Hid (∀ w', Dc w' D r v pv bs P s4 → Calls Tryz.prog 48 #[.pointer (some ⟨D, 0, none⟩), .int .i64 30, .func (.func 88) #[.pointer (some ⟨D, 0, none⟩)] #[]] w' fun e w'' => ∃ l, e = .returned l ∧ Lx w' 9 1 l im.length (im.flatMap strCl) D r v pv bs P w'' s5) := fun w' h' => by
    have := listS_any D r v pv bs P s4 (fun bs => txtR bs P) 30 (by decide) w' h' (fun w0 s0 h0 => dtext_any D r v pv bs P s0 w0 h0); rw [e5] at this; exact this
  have hF : Fine ⟨x1, x2, x3, x4, im, [], []⟩ := by
    have a1 := txtR_all (fun t => t.size ≤ 65535) (Nat.zero_le _) hP bs s
    have a2 := txtR_all (fun t => t.size ≤ 65535) (Nat.zero_le _) hP bs s1
    have a3 := listR_all (r := fun bs => txtR bs P) (bs := bs) 30 (fun t : ByteArray => t.size ≤ 65535) (fun s0 => txtR_all (fun t => t.size ≤ 65535) (Nat.zero_le _) hP bs s0) s4
    have a4 := listR_len (fun bs => txtR bs P) bs 30 s4
    have e5' : listR ((30 : Nat) : Int) (fun bs => txtR bs P) bs s4 = (im, s5) := e5
    rw [e1] at a1
    rw [e2] at a2
    rw [e5] at a3
    rw [e5'] at a4
    have a4 : im.length ≤ 30 := a4
    exact ⟨Nat.le_trans a1 (by omega), Nat.le_trans a2 (by omega), fun x hx => by have := a3 x hx; omega, fun x hx => by simp at hx, fun x hx => by simp at hx, by simp [clsX]; omega⟩
  have HC : Hid (∀ w' vi, w'.ownsRow w.heap.size 9 1 vi im.length (im.flatMap strCl) → Calls Tryz.prog 35 #[.agg #[.string x1, .string x2, .bool x3, .bool x4, vi, .slice none 0 0, .slice none 0 0]] w' fun e w'' => e = .returned (.int .i64 (hdE ⟨x1, x2, x3, x4, im, [], []⟩)) ∧ Ch w' w'') := fun w' vi o1 => checkHead_any ⟨x1, x2, x3, x4, im, [], []⟩ vi _ _ w' ⟨sl_str o1, Sl.nil _ _ _, Sl.nil _ _ _⟩ hF
  have H6 : Hid (∀ w', Dc w' D r v pv bs P s5 → Calls Tryz.prog 90 #[.pointer (some ⟨D, 0, none⟩), .int .i64 (hdE ⟨x1, x2, x3, x4, im, [], []⟩), .int .i64 s.a] w' fun e w'' => e = .returned (.tuple #[]) ∧ Dc w'' D r v pv bs P s6 ∧ Dk D r w' w'') := fun w' h' => by
    have := must_any D r v pv bs P s5 (hdE ⟨x1, x2, x3, x4, im, [], []⟩) s.a w' h'; rw [e6] at this; exact this
  generalize hdE ⟨x1, x2, x3, x4, im, [], []⟩ = q at *
  have HB6 : Hid (∀ w', Dc w' D r v pv bs P s6 → Calls Tryz.prog 50 #[.pointer (some ⟨D, 0, none⟩)] w' fun e w'' => e = .returned (.bool true) ∧ Dc w'' D r v pv bs P (sy s6) ∧ Dk D r w' w'') := fun w' h' => by
    have := failed_any D r v pv bs P s6 w' h'; rw [hb6] at this; exact this
  generalize sy s6 = s6' at *
  skip
  clear e1 e2 e3 e4 e5 e6 hb6 hP hF  
  have B0 := Bw.new h #[.string ⟨#[]⟩, .string ⟨#[]⟩, .bool false, .bool false, .slice none 0 0, .slice none 0 0, .slice none 0 0] 26
  clear h
  have c0 := B0.dc.c0
  go_enter Tryz.func51, Tryz.ntmps51
  go_wp2
  refine wp_scope_once 0 (by rfl) ?_
  go_wp2_with (first
    | (go_at_call 87; (with_reducible refine (at_any r v bs s.a s.f _ B0.dc.rd).mono ?_); rintro e w' ⟨rfl, hw⟩; have hw := hw.symm; subst hw)
    | (go_at_call 88; (with_reducible refine (H1.out _ B0.dc).mono ?_); rintro e w1 ⟨rfl, h1, k1⟩; have B1 := B0.call h1 k1)
    | (go_at_call 88; (with_reducible refine (H2.out _ B1.dc).mono ?_); rintro e w2 ⟨rfl, h2, k2⟩; have B2 := B1.call h2 k2; have f20 := B2.fz 0; have g20 := B2.c 0 rfl; have f21 := B2.fz 1; have g21 := B2.c 1 rfl; have C2 : Bw w w.heap.size 26 #[.string x1, .string x2, .bool false, .bool false, .slice none 0 0, .slice none 0 0, .slice none 0 0] D r v pv bs P _ s2 [] := (B2.set 0 (.string x1)).set 1 (.string x2))
    | (go_at_call 89; (with_reducible refine (H3.out _ C2.dc).mono ?_); rintro e w3 ⟨rfl, h3, k3⟩; have B3 := C2.call h3 k3)
    | (go_at_call 89; (with_reducible refine (H4.out _ B3.dc).mono ?_); rintro e w4 ⟨rfl, h4, k4⟩; have B4 := B3.call h4 k4; have f42 := B4.fz 2; have g42 := B4.c 2 rfl; have f43 := B4.fz 3; have g43 := B4.c 3 rfl; have C4 : Bw w w.heap.size 26 #[.string x1, .string x2, .bool x3, .bool x4, .slice none 0 0, .slice none 0 0, .slice none 0 0] D r v pv bs P _ s4 [] := (B4.set 2 (.bool x3)).set 3 (.bool x4))
    | (go_at_call 48; (with_reducible refine (H5.out _ C4.dc).mono ?_); rintro e w5 ⟨l5, rfl, hL5⟩; obtain ⟨a5, c5, rfl⟩ := own_form hL5.own; have B5 := C4.row hL5 (by decide); have f50 := B5.fz 0; have g50 := B5.c 0 rfl; have f51 := B5.fz 1; have g51 := B5.c 1 rfl; have f52 := B5.fz 2; have g52 := B5.c 2 rfl; have f53 := B5.fz 3; have g53 := B5.c 3 rfl; have f54 := B5.fz 4; have g54 := B5.c 4 rfl; have f55 := B5.fz 5; have g55 := B5.c 5 rfl; have f56 := B5.fz 6; have g56 := B5.c 6 rfl; have C5 : Bw w w.heap.size 26 #[.string x1, .string x2, .bool x3, .bool x4, .slice a5 im.length c5, .slice none 0 0, .slice none 0 0] D r v pv bs P _ s5 [⟨.slice a5 im.length c5, 9, 1, im.length, im.flatMap strCl⟩] := B5.set 4 (.slice a5 im.length c5); have o5 := (C5.ow _ (List.mem_cons_self ..)).2)
    | (go_at_call 35; (with_reducible refine (HC.out _ _ o5).mono ?_); rintro e w6 ⟨rfl, k6⟩; have B6 := C5.ch k6)
    | (go_at_call 90; (with_reducible refine (H6.out _ B6.dc).mono ?_); rintro e w7 ⟨rfl, h7, k7⟩; have B7 := B6.call h7 k7)
    | (go_at_call 50; (with_reducible refine (HB6.out _ B7.dc).mono ?_); rintro e w8 ⟨rfl, h8, k8⟩; have B8 := B7.call h8 k8; have f80 := B8.fz 0; have g80 := B8.c 0 rfl; have f81 := B8.fz 1; have g81 := B8.c 1 rfl; have f82 := B8.fz 2; have g82 := B8.c 2 rfl; have f83 := B8.fz 3; have g83 := B8.c 3 rfl; have f84 := B8.fz 4; have g84 := B8.c 4 rfl; have f85 := B8.fz 5; have g85 := B8.c 5 rfl; have f86 := B8.fz 6; have g86 := B8.c 6 rfl)
    | fail)
  go_step3
  refine And.intro rfl ?_
  change Code.wp Tryz.prog _ _ _ _
  go_wp2
  have BZ : Bw w w.heap.size 26 #[.string x1, .string x2, .bool x3, .bool x4, .slice a5 im.length c5, .slice none 0 0, .slice none 0 0] D r v pv bs P _ s6' [⟨.slice a5 im.length c5, 9, 1, im.length, im.flatMap strCl⟩] := (((((((B8.set 0 (.string x1)).set 1 (.string x2)).set 2 (.bool x3)).set 3 (.bool x4)).set 4 (.slice a5 im.length c5)).set 5 (.slice none 0 0)).set 6 (.slice none 0 0))
  try rw [Exit.noGoto_ret]
  refine bodyPost_ret (results_cell_row rfl _ _ w.heap.size 26 _ (0, 0) _ rfl BZ.bx.b Tryz.underlying26 rfl info26') rfl ?_
  exact ⟨_, _, _, rfl, fun w'' cc => ⟨sl_str (own_far (BZ.ow _ (List.mem_cons_self ..)).2 cc), Sl.nil _ _ _, Sl.nil _ _ _⟩, BZ.dc, BZ.bx.k⟩

set_option maxRecDepth 100000 in
set_option maxHeartbeats 16000000 in
theorem class_1 (D r : Nat) (v pv : Value) (bs : List Int) (P : List ByteArray) (s : St) (hP : ∀ t ∈ P, t.size ≤ 65535) (w : World) (h : Dc w D r v pv bs P s)
    (x1 x2 : ByteArray) (x3 x4 : Bool) (im : List ByteArray) (s1 s2 s3 s4 s5 : St)
    (e1 : txtR bs P s = (x1, s1)) (e2 : txtR bs P s1 = (x2, s2)) (e3 : yesR bs s2 = (x3, s3)) (e4 : yesR bs s3 = (x4, s4)) (e5 : listR 30 (fun bs => txtR bs P) bs s4 = (im, s5))
    (s6 : St) (e6 : mu s5 (hdE ⟨x1, x2, x3, x4, im, [], []⟩) s.a = s6) (hb6 : bad s6 = false)
    (fs : List Fld) (s7 : St) (e7 : listR 20 (fun bs => fldR bs P) bs (sy s6) = (fs, s7)) (hb7 : bad s7 = true) :
    Calls Tryz.prog 51 #[.pointer (some ⟨D, 0, none⟩)] w fun e w' => ∃ vi vf vm, e = .returned (.agg #[.string x1, .string x2, .bool x3, .bool x4, vi, vf, vm]) ∧ (∀ w'', Cs (fun g => g < w.heap.size) w' w'' → ClsAt w'' ⟨x1, x2, x3, x4, im, fs, []⟩ vi vf vm) ∧ Dc w' D r v pv bs P (sy s7) ∧ Dk D r w w' := by
  have H1 : Hid (∀ w', Dc w' D r v pv bs P s → Calls Tryz.prog 88 #[.pointer (some ⟨D, 0, none⟩)] w' fun e w'' => e = .returned (.string x1) ∧ Dc w'' D r v pv bs P s1 ∧ Dk D r w' w'') := fun w' h' => by
    have := dtext_any D r v pv bs P s w' h'; rw [e1] at this; exact this
  have H2 : Hid (∀ w', Dc w' D r v pv bs P s1 → Calls Tryz.prog 88 #[.pointer (some ⟨D, 0, none⟩)] w' fun e w'' => e = .returned (.string x2) ∧ Dc w'' D r v pv bs P s2 ∧ Dk D r w' w'') := fun w' h' => by
    have := dtext_any D r v pv bs P s1 w' h'; rw [e2] at this; exact this
  have H3 : Hid (∀ w', Dc w' D r v pv bs P s2 → Calls Tryz.prog 89 #[.pointer (some ⟨D, 0, none⟩)] w' fun e w'' => e = .returned (.bool x3) ∧ Dc w'' D r v pv bs P s3 ∧ Dk D r w' w'') := fun w' h' => by
    have := dyes_any D r v pv bs P s2 w' h'; rw [e3] at this; exact this
  have H4 : Hid (∀ w', Dc w' D r v pv bs P s3 → Calls Tryz.prog 89 #[.pointer (some ⟨D, 0, none⟩)] w' fun e w'' => e = .returned (.bool x4) ∧ Dc w'' D r v pv bs P s4 ∧ Dk D r w' w'') := fun w' h' => by
    have := dyes_any D r v pv bs P s3 w' h'; rw [e4] at this; exact this
  have H5 : Hid (∀ w', Dc w' D r v pv bs P s4 → Calls Tryz.prog 48 #[.pointer (some ⟨D, 0, none⟩), .int .i64 30, .func (.func 88) #[.pointer (some ⟨D, 0, none⟩)] #[]] w' fun e w'' => ∃ l, e = .returned l ∧ Lx w' 9 1 l im.length (im.flatMap strCl) D r v pv bs P w'' s5) := fun w' h' => by
    have := listS_any D r v pv bs P s4 (fun bs => txtR bs P) 30 (by decide) w' h' (fun w0 s0 h0 => dtext_any D r v pv bs P s0 w0 h0); rw [e5] at this; exact this
  have hF : Fine ⟨x1, x2, x3, x4, im, [], []⟩ := by
    have a1 := txtR_all (fun t => t.size ≤ 65535) (Nat.zero_le _) hP bs s
    have a2 := txtR_all (fun t => t.size ≤ 65535) (Nat.zero_le _) hP bs s1
    have a3 := listR_all (r := fun bs => txtR bs P) (bs := bs) 30 (fun t : ByteArray => t.size ≤ 65535) (fun s0 => txtR_all (fun t => t.size ≤ 65535) (Nat.zero_le _) hP bs s0) s4
    have a4 := listR_len (fun bs => txtR bs P) bs 30 s4
    have e5' : listR ((30 : Nat) : Int) (fun bs => txtR bs P) bs s4 = (im, s5) := e5
    rw [e1] at a1
    rw [e2] at a2
    rw [e5] at a3
    rw [e5'] at a4
    have a4 : im.length ≤ 30 := a4
    exact ⟨Nat.le_trans a1 (by omega), Nat.le_trans a2 (by omega), fun x hx => by have := a3 x hx; omega, fun x hx => by simp at hx, fun x hx => by simp at hx, by simp [clsX]; omega⟩
  have HC : Hid (∀ w' vi, w'.ownsRow w.heap.size 9 1 vi im.length (im.flatMap strCl) → Calls Tryz.prog 35 #[.agg #[.string x1, .string x2, .bool x3, .bool x4, vi, .slice none 0 0, .slice none 0 0]] w' fun e w'' => e = .returned (.int .i64 (hdE ⟨x1, x2, x3, x4, im, [], []⟩)) ∧ Ch w' w'') := fun w' vi o1 => checkHead_any ⟨x1, x2, x3, x4, im, [], []⟩ vi _ _ w' ⟨sl_str o1, Sl.nil _ _ _, Sl.nil _ _ _⟩ hF
  have H6 : Hid (∀ w', Dc w' D r v pv bs P s5 → Calls Tryz.prog 90 #[.pointer (some ⟨D, 0, none⟩), .int .i64 (hdE ⟨x1, x2, x3, x4, im, [], []⟩), .int .i64 s.a] w' fun e w'' => e = .returned (.tuple #[]) ∧ Dc w'' D r v pv bs P s6 ∧ Dk D r w' w'') := fun w' h' => by
    have := must_any D r v pv bs P s5 (hdE ⟨x1, x2, x3, x4, im, [], []⟩) s.a w' h'; rw [e6] at this; exact this
  generalize hdE ⟨x1, x2, x3, x4, im, [], []⟩ = q at *
  have HB6 : Hid (∀ w', Dc w' D r v pv bs P s6 → Calls Tryz.prog 50 #[.pointer (some ⟨D, 0, none⟩)] w' fun e w'' => e = .returned (.bool false) ∧ Dc w'' D r v pv bs P (sy s6) ∧ Dk D r w' w'') := fun w' h' => by
    have := failed_any D r v pv bs P s6 w' h'; rw [hb6] at this; exact this
  have H7 : Hid (∀ w', Dc w' D r v pv bs P (sy s6) → Calls Tryz.prog 91 #[.pointer (some ⟨D, 0, none⟩), .int .i64 20, .func (.func 92) #[.pointer (some ⟨D, 0, none⟩)] #[]] w' fun e w'' => ∃ l, e = .returned l ∧ Lx w' 54 3 l fs.length (fs.flatMap fldCl) D r v pv bs P w'' s7) := fun w' h' => by
    have := listF_any D r v pv bs P (sy s6) (fun bs => fldR bs P) 20 (by decide) w' h' (fun w0 s0 h0 => field_any D r v pv bs P s0 hP w0 h0); rw [e7] at this; exact this
  have HB7 : Hid (∀ w', Dc w' D r v pv bs P s7 → Calls Tryz.prog 50 #[.pointer (some ⟨D, 0, none⟩)] w' fun e w'' => e = .returned (.bool true) ∧ Dc w'' D r v pv bs P (sy s7) ∧ Dk D r w' w'') := fun w' h' => by
    have := failed_any D r v pv bs P s7 w' h'; rw [hb7] at this; exact this
  generalize sy s6 = s6' at *
  generalize sy s7 = s7' at *
  clear e1 e2 e3 e4 e5 e6 hb6 hP hF e7 hb7 
  have B0 := Bw.new h #[.string ⟨#[]⟩, .string ⟨#[]⟩, .bool false, .bool false, .slice none 0 0, .slice none 0 0, .slice none 0 0] 26
  clear h
  have c0 := B0.dc.c0
  go_enter Tryz.func51, Tryz.ntmps51
  go_wp2
  refine wp_scope_once 0 (by rfl) ?_
  go_wp2_with (first
    | (go_at_call 87; (with_reducible refine (at_any r v bs s.a s.f _ B0.dc.rd).mono ?_); rintro e w' ⟨rfl, hw⟩; have hw := hw.symm; subst hw)
    | (go_at_call 88; (with_reducible refine (H1.out _ B0.dc).mono ?_); rintro e w1 ⟨rfl, h1, k1⟩; have B1 := B0.call h1 k1)
    | (go_at_call 88; (with_reducible refine (H2.out _ B1.dc).mono ?_); rintro e w2 ⟨rfl, h2, k2⟩; have B2 := B1.call h2 k2; have f20 := B2.fz 0; have g20 := B2.c 0 rfl; have f21 := B2.fz 1; have g21 := B2.c 1 rfl; have C2 : Bw w w.heap.size 26 #[.string x1, .string x2, .bool false, .bool false, .slice none 0 0, .slice none 0 0, .slice none 0 0] D r v pv bs P _ s2 [] := (B2.set 0 (.string x1)).set 1 (.string x2))
    | (go_at_call 89; (with_reducible refine (H3.out _ C2.dc).mono ?_); rintro e w3 ⟨rfl, h3, k3⟩; have B3 := C2.call h3 k3)
    | (go_at_call 89; (with_reducible refine (H4.out _ B3.dc).mono ?_); rintro e w4 ⟨rfl, h4, k4⟩; have B4 := B3.call h4 k4; have f42 := B4.fz 2; have g42 := B4.c 2 rfl; have f43 := B4.fz 3; have g43 := B4.c 3 rfl; have C4 : Bw w w.heap.size 26 #[.string x1, .string x2, .bool x3, .bool x4, .slice none 0 0, .slice none 0 0, .slice none 0 0] D r v pv bs P _ s4 [] := (B4.set 2 (.bool x3)).set 3 (.bool x4))
    | (go_at_call 48; (with_reducible refine (H5.out _ C4.dc).mono ?_); rintro e w5 ⟨l5, rfl, hL5⟩; obtain ⟨a5, c5, rfl⟩ := own_form hL5.own; have B5 := C4.row hL5 (by decide); have f50 := B5.fz 0; have g50 := B5.c 0 rfl; have f51 := B5.fz 1; have g51 := B5.c 1 rfl; have f52 := B5.fz 2; have g52 := B5.c 2 rfl; have f53 := B5.fz 3; have g53 := B5.c 3 rfl; have f54 := B5.fz 4; have g54 := B5.c 4 rfl; have f55 := B5.fz 5; have g55 := B5.c 5 rfl; have f56 := B5.fz 6; have g56 := B5.c 6 rfl; have C5 : Bw w w.heap.size 26 #[.string x1, .string x2, .bool x3, .bool x4, .slice a5 im.length c5, .slice none 0 0, .slice none 0 0] D r v pv bs P _ s5 [⟨.slice a5 im.length c5, 9, 1, im.length, im.flatMap strCl⟩] := B5.set 4 (.slice a5 im.length c5); have o5 := (C5.ow _ (List.mem_cons_self ..)).2)
    | (go_at_call 35; (with_reducible refine (HC.out _ _ o5).mono ?_); rintro e w6 ⟨rfl, k6⟩; have B6 := C5.ch k6)
    | (go_at_call 90; (with_reducible refine (H6.out _ B6.dc).mono ?_); rintro e w7 ⟨rfl, h7, k7⟩; have B7 := B6.call h7 k7)
    | (go_at_call 50; (with_reducible refine (HB6.out _ B7.dc).mono ?_); rintro e w8 ⟨rfl, h8, k8⟩; have B8 := B7.call h8 k8; have f80 := B8.fz 0; have g80 := B8.c 0 rfl; have f81 := B8.fz 1; have g81 := B8.c 1 rfl; have f82 := B8.fz 2; have g82 := B8.c 2 rfl; have f83 := B8.fz 3; have g83 := B8.c 3 rfl; have f84 := B8.fz 4; have g84 := B8.c 4 rfl; have f85 := B8.fz 5; have g85 := B8.c 5 rfl; have f86 := B8.fz 6; have g86 := B8.c 6 rfl)
    | (go_at_call 91; (with_reducible refine (H7.out _ B8.dc).mono ?_); rintro e w9 ⟨l9, rfl, hL9⟩; obtain ⟨a9, c9, rfl⟩ := own_form hL9.own; have B9 := B8.row hL9 (by decide); have f95 := B9.fz 5; have g95 := B9.c 5 rfl; have C9 : Bw w w.heap.size 26 #[.string x1, .string x2, .bool x3, .bool x4, .slice a5 im.length c5, .slice a9 fs.length c9, .slice none 0 0] D r v pv bs P _ s7 [⟨.slice a9 fs.length c9, 54, 3, fs.length, fs.flatMap fldCl⟩, ⟨.slice a5 im.length c5, 9, 1, im.length, im.flatMap strCl⟩] := B9.set 5 (.slice a9 fs.length c9))
    | (go_at_call 50; (with_reducible refine (HB7.out _ C9.dc).mono ?_); rintro e w10 ⟨rfl, h10, k10⟩; have B10 := C9.call h10 k10; have f100 := B10.fz 0; have g100 := B10.c 0 rfl; have f101 := B10.fz 1; have g101 := B10.c 1 rfl; have f102 := B10.fz 2; have g102 := B10.c 2 rfl; have f103 := B10.fz 3; have g103 := B10.c 3 rfl; have f104 := B10.fz 4; have g104 := B10.c 4 rfl; have f105 := B10.fz 5; have g105 := B10.c 5 rfl; have f106 := B10.fz 6; have g106 := B10.c 6 rfl)
    | fail)
  go_step3
  refine And.intro rfl ?_
  change Code.wp Tryz.prog _ _ _ _
  go_wp2
  have BZ : Bw w w.heap.size 26 #[.string x1, .string x2, .bool x3, .bool x4, .slice a5 im.length c5, .slice a9 fs.length c9, .slice none 0 0] D r v pv bs P _ s7' [⟨.slice a9 fs.length c9, 54, 3, fs.length, fs.flatMap fldCl⟩, ⟨.slice a5 im.length c5, 9, 1, im.length, im.flatMap strCl⟩] := (((((((B10.set 0 (.string x1)).set 1 (.string x2)).set 2 (.bool x3)).set 3 (.bool x4)).set 4 (.slice a5 im.length c5)).set 5 (.slice a9 fs.length c9)).set 6 (.slice none 0 0))
  try rw [Exit.noGoto_ret]
  refine bodyPost_ret (results_cell_row rfl _ _ w.heap.size 26 _ (0, 0) _ rfl BZ.bx.b Tryz.underlying26 rfl info26') rfl ?_
  exact ⟨_, _, _, rfl, fun w'' cc => ⟨sl_str (own_far (BZ.ow _ (List.mem_cons_of_mem _ (List.mem_cons_self ..))).2 cc), sl_fld (own_far (BZ.ow _ (List.mem_cons_self ..)).2 cc), Sl.nil _ _ _⟩, BZ.dc, BZ.bx.k⟩

set_option maxRecDepth 100000 in
set_option maxHeartbeats 16000000 in
theorem class_2 (D r : Nat) (v pv : Value) (bs : List Int) (P : List ByteArray) (s : St) (hP : ∀ t ∈ P, t.size ≤ 65535) (w : World) (h : Dc w D r v pv bs P s)
    (x1 x2 : ByteArray) (x3 x4 : Bool) (im : List ByteArray) (s1 s2 s3 s4 s5 : St)
    (e1 : txtR bs P s = (x1, s1)) (e2 : txtR bs P s1 = (x2, s2)) (e3 : yesR bs s2 = (x3, s3)) (e4 : yesR bs s3 = (x4, s4)) (e5 : listR 30 (fun bs => txtR bs P) bs s4 = (im, s5))
    (s6 : St) (e6 : mu s5 (hdE ⟨x1, x2, x3, x4, im, [], []⟩) s.a = s6) (hb6 : bad s6 = false)
    (fs : List Fld) (s7 : St) (e7 : listR 20 (fun bs => fldR bs P) bs (sy s6) = (fs, s7)) (hb7 : bad s7 = false)
    (me : List Mth) (s8 : St) (e8 : listR 20 (mthR P) bs (sy s7) = (me, s8)) :
    Calls Tryz.prog 51 #[.pointer (some ⟨D, 0, none⟩)] w fun e w' => ∃ vi vf vm, e = .returned (.agg #[.string x1, .string x2, .bool x3, .bool x4, vi, vf, vm]) ∧ (∀ w'', Cs (fun g => g < w.heap.size) w' w'' → ClsAt w'' ⟨x1, x2, x3, x4, im, fs, me⟩ vi vf vm) ∧ Dc w' D r v pv bs P s8 ∧ Dk D r w w' := by
  have H1 : Hid (∀ w', Dc w' D r v pv bs P s → Calls Tryz.prog 88 #[.pointer (some ⟨D, 0, none⟩)] w' fun e w'' => e = .returned (.string x1) ∧ Dc w'' D r v pv bs P s1 ∧ Dk D r w' w'') := fun w' h' => by
    have := dtext_any D r v pv bs P s w' h'; rw [e1] at this; exact this
  have H2 : Hid (∀ w', Dc w' D r v pv bs P s1 → Calls Tryz.prog 88 #[.pointer (some ⟨D, 0, none⟩)] w' fun e w'' => e = .returned (.string x2) ∧ Dc w'' D r v pv bs P s2 ∧ Dk D r w' w'') := fun w' h' => by
    have := dtext_any D r v pv bs P s1 w' h'; rw [e2] at this; exact this
  have H3 : Hid (∀ w', Dc w' D r v pv bs P s2 → Calls Tryz.prog 89 #[.pointer (some ⟨D, 0, none⟩)] w' fun e w'' => e = .returned (.bool x3) ∧ Dc w'' D r v pv bs P s3 ∧ Dk D r w' w'') := fun w' h' => by
    have := dyes_any D r v pv bs P s2 w' h'; rw [e3] at this; exact this
  have H4 : Hid (∀ w', Dc w' D r v pv bs P s3 → Calls Tryz.prog 89 #[.pointer (some ⟨D, 0, none⟩)] w' fun e w'' => e = .returned (.bool x4) ∧ Dc w'' D r v pv bs P s4 ∧ Dk D r w' w'') := fun w' h' => by
    have := dyes_any D r v pv bs P s3 w' h'; rw [e4] at this; exact this
  have H5 : Hid (∀ w', Dc w' D r v pv bs P s4 → Calls Tryz.prog 48 #[.pointer (some ⟨D, 0, none⟩), .int .i64 30, .func (.func 88) #[.pointer (some ⟨D, 0, none⟩)] #[]] w' fun e w'' => ∃ l, e = .returned l ∧ Lx w' 9 1 l im.length (im.flatMap strCl) D r v pv bs P w'' s5) := fun w' h' => by
    have := listS_any D r v pv bs P s4 (fun bs => txtR bs P) 30 (by decide) w' h' (fun w0 s0 h0 => dtext_any D r v pv bs P s0 w0 h0); rw [e5] at this; exact this
  have hF : Fine ⟨x1, x2, x3, x4, im, [], []⟩ := by
    have a1 := txtR_all (fun t => t.size ≤ 65535) (Nat.zero_le _) hP bs s
    have a2 := txtR_all (fun t => t.size ≤ 65535) (Nat.zero_le _) hP bs s1
    have a3 := listR_all (r := fun bs => txtR bs P) (bs := bs) 30 (fun t : ByteArray => t.size ≤ 65535) (fun s0 => txtR_all (fun t => t.size ≤ 65535) (Nat.zero_le _) hP bs s0) s4
    have a4 := listR_len (fun bs => txtR bs P) bs 30 s4
    have e5' : listR ((30 : Nat) : Int) (fun bs => txtR bs P) bs s4 = (im, s5) := e5
    rw [e1] at a1
    rw [e2] at a2
    rw [e5] at a3
    rw [e5'] at a4
    have a4 : im.length ≤ 30 := a4
    exact ⟨Nat.le_trans a1 (by omega), Nat.le_trans a2 (by omega), fun x hx => by have := a3 x hx; omega, fun x hx => by simp at hx, fun x hx => by simp at hx, by simp [clsX]; omega⟩
  have HC : Hid (∀ w' vi, w'.ownsRow w.heap.size 9 1 vi im.length (im.flatMap strCl) → Calls Tryz.prog 35 #[.agg #[.string x1, .string x2, .bool x3, .bool x4, vi, .slice none 0 0, .slice none 0 0]] w' fun e w'' => e = .returned (.int .i64 (hdE ⟨x1, x2, x3, x4, im, [], []⟩)) ∧ Ch w' w'') := fun w' vi o1 => checkHead_any ⟨x1, x2, x3, x4, im, [], []⟩ vi _ _ w' ⟨sl_str o1, Sl.nil _ _ _, Sl.nil _ _ _⟩ hF
  have H6 : Hid (∀ w', Dc w' D r v pv bs P s5 → Calls Tryz.prog 90 #[.pointer (some ⟨D, 0, none⟩), .int .i64 (hdE ⟨x1, x2, x3, x4, im, [], []⟩), .int .i64 s.a] w' fun e w'' => e = .returned (.tuple #[]) ∧ Dc w'' D r v pv bs P s6 ∧ Dk D r w' w'') := fun w' h' => by
    have := must_any D r v pv bs P s5 (hdE ⟨x1, x2, x3, x4, im, [], []⟩) s.a w' h'; rw [e6] at this; exact this
  generalize hdE ⟨x1, x2, x3, x4, im, [], []⟩ = q at *
  have HB6 : Hid (∀ w', Dc w' D r v pv bs P s6 → Calls Tryz.prog 50 #[.pointer (some ⟨D, 0, none⟩)] w' fun e w'' => e = .returned (.bool false) ∧ Dc w'' D r v pv bs P (sy s6) ∧ Dk D r w' w'') := fun w' h' => by
    have := failed_any D r v pv bs P s6 w' h'; rw [hb6] at this; exact this
  have H7 : Hid (∀ w', Dc w' D r v pv bs P (sy s6) → Calls Tryz.prog 91 #[.pointer (some ⟨D, 0, none⟩), .int .i64 20, .func (.func 92) #[.pointer (some ⟨D, 0, none⟩)] #[]] w' fun e w'' => ∃ l, e = .returned l ∧ Lx w' 54 3 l fs.length (fs.flatMap fldCl) D r v pv bs P w'' s7) := fun w' h' => by
    have := listF_any D r v pv bs P (sy s6) (fun bs => fldR bs P) 20 (by decide) w' h' (fun w0 s0 h0 => field_any D r v pv bs P s0 hP w0 h0); rw [e7] at this; exact this
  have HB7 : Hid (∀ w', Dc w' D r v pv bs P s7 → Calls Tryz.prog 50 #[.pointer (some ⟨D, 0, none⟩)] w' fun e w'' => e = .returned (.bool false) ∧ Dc w'' D r v pv bs P (sy s7) ∧ Dk D r w' w'') := fun w' h' => by
    have := failed_any D r v pv bs P s7 w' h'; rw [hb7] at this; exact this
  have H8 : Hid (∀ w', Dc w' D r v pv bs P (sy s7) → Calls Tryz.prog 93 #[.pointer (some ⟨D, 0, none⟩), .int .i64 20, .func (.func 94) #[.pointer (some ⟨D, 0, none⟩)] #[]] w' fun e w'' => ∃ (l : Value) (ts : List (Mth × Value × Value)), e = .returned l ∧ ts.map (·.1) = me ∧ Lx w' 45 8 l ts.length (ts.flatMap mthCl) D r v pv bs P w'' s8 ∧ Rws w'.heap.size 45 w'' (ts.flatMap inRows)) := fun w' h' => by
    have := listM_any D r v pv bs P (sy s7) (mthR P) 20 (by decide) w' h' (fun w0 s0 h0 => dmethod_any D r v pv bs P s0 hP w0 h0); rw [e8] at this; exact this
  generalize sy s6 = s6' at *
  generalize sy s7 = s7' at *
  clear e1 e2 e3 e4 e5 e6 hb6 hP hF e7 hb7 e8
  have B0 := Bw.new h #[.string ⟨#[]⟩, .string ⟨#[]⟩, .bool false, .bool false, .slice none 0 0, .slice none 0 0, .slice none 0 0] 26
  clear h
  have c0 := B0.dc.c0
  go_enter Tryz.func51, Tryz.ntmps51
  go_wp2
  go_step3
  go_wp2_with (first
    | (go_at_call 87; (with_reducible refine (at_any r v bs s.a s.f _ B0.dc.rd).mono ?_); rintro e w' ⟨rfl, hw⟩; have hw := hw.symm; subst hw)
    | (go_at_call 88; (with_reducible refine (H1.out _ B0.dc).mono ?_); rintro e w1 ⟨rfl, h1, k1⟩; have B1 := B0.call h1 k1)
    | (go_at_call 88; (with_reducible refine (H2.out _ B1.dc).mono ?_); rintro e w2 ⟨rfl, h2, k2⟩; have B2 := B1.call h2 k2; have f20 := B2.fz 0; have g20 := B2.c 0 rfl; have f21 := B2.fz 1; have g21 := B2.c 1 rfl; have C2 : Bw w w.heap.size 26 #[.string x1, .string x2, .bool false, .bool false, .slice none 0 0, .slice none 0 0, .slice none 0 0] D r v pv bs P _ s2 [] := (B2.set 0 (.string x1)).set 1 (.string x2))
    | (go_at_call 89; (with_reducible refine (H3.out _ C2.dc).mono ?_); rintro e w3 ⟨rfl, h3, k3⟩; have B3 := C2.call h3 k3)
    | (go_at_call 89; (with_reducible refine (H4.out _ B3.dc).mono ?_); rintro e w4 ⟨rfl, h4, k4⟩; have B4 := B3.call h4 k4; have f42 := B4.fz 2; have g42 := B4.c 2 rfl; have f43 := B4.fz 3; have g43 := B4.c 3 rfl; have C4 : Bw w w.heap.size 26 #[.string x1, .string x2, .bool x3, .bool x4, .slice none 0 0, .slice none 0 0, .slice none 0 0] D r v pv bs P _ s4 [] := (B4.set 2 (.bool x3)).set 3 (.bool x4))
    | (go_at_call 48; (with_reducible refine (H5.out _ C4.dc).mono ?_); rintro e w5 ⟨l5, rfl, hL5⟩; obtain ⟨a5, c5, rfl⟩ := own_form hL5.own; have B5 := C4.row hL5 (by decide); have f50 := B5.fz 0; have g50 := B5.c 0 rfl; have f51 := B5.fz 1; have g51 := B5.c 1 rfl; have f52 := B5.fz 2; have g52 := B5.c 2 rfl; have f53 := B5.fz 3; have g53 := B5.c 3 rfl; have f54 := B5.fz 4; have g54 := B5.c 4 rfl; have f55 := B5.fz 5; have g55 := B5.c 5 rfl; have f56 := B5.fz 6; have g56 := B5.c 6 rfl; have C5 : Bw w w.heap.size 26 #[.string x1, .string x2, .bool x3, .bool x4, .slice a5 im.length c5, .slice none 0 0, .slice none 0 0] D r v pv bs P _ s5 [⟨.slice a5 im.length c5, 9, 1, im.length, im.flatMap strCl⟩] := B5.set 4 (.slice a5 im.length c5); have o5 := (C5.ow _ (List.mem_cons_self ..)).2)
    | (go_at_call 35; (with_reducible refine (HC.out _ _ o5).mono ?_); rintro e w6 ⟨rfl, k6⟩; have B6 := C5.ch k6)
    | (go_at_call 90; (with_reducible refine (H6.out _ B6.dc).mono ?_); rintro e w7 ⟨rfl, h7, k7⟩; have B7 := B6.call h7 k7)
    | (go_at_call 50; (with_reducible refine (HB6.out _ B7.dc).mono ?_); rintro e w8 ⟨rfl, h8, k8⟩; have B8 := B7.call h8 k8; have f80 := B8.fz 0; have g80 := B8.c 0 rfl; have f81 := B8.fz 1; have g81 := B8.c 1 rfl; have f82 := B8.fz 2; have g82 := B8.c 2 rfl; have f83 := B8.fz 3; have g83 := B8.c 3 rfl; have f84 := B8.fz 4; have g84 := B8.c 4 rfl; have f85 := B8.fz 5; have g85 := B8.c 5 rfl; have f86 := B8.fz 6; have g86 := B8.c 6 rfl)
    | (go_at_call 91; (with_reducible refine (H7.out _ B8.dc).mono ?_); rintro e w9 ⟨l9, rfl, hL9⟩; obtain ⟨a9, c9, rfl⟩ := own_form hL9.own; have B9 := B8.row hL9 (by decide); have f95 := B9.fz 5; have g95 := B9.c 5 rfl; have C9 : Bw w w.heap.size 26 #[.string x1, .string x2, .bool x3, .bool x4, .slice a5 im.length c5, .slice a9 fs.length c9, .slice none 0 0] D r v pv bs P _ s7 [⟨.slice a9 fs.length c9, 54, 3, fs.length, fs.flatMap fldCl⟩, ⟨.slice a5 im.length c5, 9, 1, im.length, im.flatMap strCl⟩] := B9.set 5 (.slice a9 fs.length c9))
    | (go_at_call 50; (with_reducible refine (HB7.out _ C9.dc).mono ?_); rintro e w10 ⟨rfl, h10, k10⟩; have B10 := C9.call h10 k10; have f100 := B10.fz 0; have g100 := B10.c 0 rfl; have f101 := B10.fz 1; have g101 := B10.c 1 rfl; have f102 := B10.fz 2; have g102 := B10.c 2 rfl; have f103 := B10.fz 3; have g103 := B10.c 3 rfl; have f104 := B10.fz 4; have g104 := B10.c 4 rfl; have f105 := B10.fz 5; have g105 := B10.c 5 rfl; have f106 := B10.fz 6; have g106 := B10.c 6 rfl)
    | (go_at_call 93; (with_reducible refine (H8.out _ B10.dc).mono ?_); rintro e w11 ⟨l11, ts, rfl, hts, hL11, hI11⟩; obtain ⟨a11, c11, rfl⟩ := own_form hL11.own; have B11 := B10.row2 hL11 (by decide) hI11 inRows_ne; have f110 := B11.fz 0; have g110 := B11.c 0 rfl; have f111 := B11.fz 1; have g111 := B11.c 1 rfl; have f112 := B11.fz 2; have g112 := B11.c 2 rfl; have f113 := B11.fz 3; have g113 := B11.c 3 rfl; have f114 := B11.fz 4; have g114 := B11.c 4 rfl; have f115 := B11.fz 5; have g115 := B11.c 5 rfl; have f116 := B11.fz 6; have g116 := B11.c 6 rfl)
    | fail)
  refine wp_label ?_
  go_wp2_with fail
  have BZ : Bw w w.heap.size 26 #[.string x1, .string x2, .bool x3, .bool x4, .slice a5 im.length c5, .slice a9 fs.length c9, .slice a11 ts.length c11] D r v pv bs P _ s8 (⟨.slice a11 ts.length c11, 45, 8, ts.length, ts.flatMap mthCl⟩ :: (ts.flatMap inRows ++ [⟨.slice a9 fs.length c9, 54, 3, fs.length, fs.flatMap fldCl⟩, ⟨.slice a5 im.length c5, 9, 1, im.length, im.flatMap strCl⟩])) := ((((((((B11.set 6 (.slice a11 ts.length c11)).set 0 (.string x1)).set 1 (.string x2)).set 2 (.bool x3)).set 3 (.bool x4)).set 4 (.slice a5 im.length c5)).set 5 (.slice a9 fs.length c9)).set 6 (.slice a11 ts.length c11))
  try rw [Exit.noGoto_ret]
  refine bodyPost_ret (results_cell_row rfl _ _ w.heap.size 26 _ (0, 0) _ rfl BZ.bx.b Tryz.underlying26 rfl info26') rfl ?_
  refine ⟨_, _, _, rfl, fun w'' cc => ⟨sl_str (own_far (BZ.ow _ (List.mem_cons_of_mem _ (List.mem_append_right _ (List.mem_cons_of_mem _ (List.mem_cons_self ..))))).2 cc), sl_fld (own_far (BZ.ow _ (List.mem_cons_of_mem _ (List.mem_append_right _ (List.mem_cons_self ..)))).2 cc), ?_⟩, BZ.dc, BZ.bx.k⟩
  rw [← hts]
  refine sl_mth (own_far (BZ.ow _ (List.mem_cons_self ..)).2 cc) (fun t ht => ?_)
  have hin : ∀ x ∈ inRows t, w''.ownsRow w.heap.size x.e x.k x.v x.n x.cells := fun x hx => own_far (BZ.ow _ (List.mem_cons_of_mem _ (List.mem_append_left _ (List.mem_flatMap.2 ⟨t, ht, hx⟩)))).2 cc
  exact ⟨hin _ (List.mem_cons_self ..), hin _ (List.mem_cons_of_mem _ (List.mem_cons_self ..))⟩

theorem class_any (D r : Nat) (v pv : Value) (bs : List Int) (P : List ByteArray) (s : St) (hP : ∀ t ∈ P, t.size ≤ 65535) (w : World) (h : Dc w D r v pv bs P s) :
    Calls Tryz.prog 51 #[.pointer (some ⟨D, 0, none⟩)] w fun e w' => ∃ vi vf vm, e = .returned (.agg #[.string (clsR P bs s).1.n, .string (clsR P bs s).1.s, .bool (clsR P bs s).1.it, .bool (clsR P bs s).1.ab, vi, vf, vm]) ∧
      (∀ w'', Cs (fun g => g < w.heap.size) w' w'' → ClsAt w'' (clsR P bs s).1 vi vf vm) ∧ Dc w' D r v pv bs P (clsR P bs s).2 ∧ Dk D r w w' := by
  obtain ⟨⟨x1, s1⟩, e1⟩ : ∃ q, txtR bs P s = q := ⟨_, rfl⟩
  obtain ⟨⟨x2, s2⟩, e2⟩ : ∃ q, txtR bs P s1 = q := ⟨_, rfl⟩
  obtain ⟨⟨x3, s3⟩, e3⟩ : ∃ q, yesR bs s2 = q := ⟨_, rfl⟩
  obtain ⟨⟨x4, s4⟩, e4⟩ : ∃ q, yesR bs s3 = q := ⟨_, rfl⟩
  obtain ⟨⟨im, s5⟩, e5⟩ : ∃ q, listR 30 (fun bs => txtR bs P) bs s4 = q := ⟨_, rfl⟩
  obtain ⟨s6, e6⟩ : ∃ q, mu s5 (hdE ⟨x1, x2, x3, x4, im, [], []⟩) s.a = q := ⟨_, rfl⟩
  obtain ⟨⟨fs, s7⟩, e7⟩ : ∃ q, listR 20 (fun bs => fldR bs P) bs (sy s6) = q := ⟨_, rfl⟩
  obtain ⟨⟨me, s8⟩, e8⟩ : ∃ q, listR 20 (mthR P) bs (sy s7) = q := ⟨_, rfl⟩
  cases hb6 : bad s6 with
  | true =>
    have e : clsR P bs s = (⟨x1, x2, x3, x4, im, [], []⟩, sy s6) := by simp only [clsR, hdr, bd, mst, e1, e2, e3, e4, e5, e6, fb, hb6, if_true]
    rw [e]
    exact class_0 D r v pv bs P s hP w h x1 x2 x3 x4 im s1 s2 s3 s4 s5 e1 e2 e3 e4 e5 s6 e6 hb6
  | false =>
    cases hb7 : bad s7 with
    | true =>
      have e : clsR P bs s = (⟨x1, x2, x3, x4, im, fs, []⟩, sy s7) := by simp only [clsR, hdr, bd, mst, e1, e2, e3, e4, e5, e6, fb, hb6, Bool.false_eq_true, if_false, e7, hb7, if_true]
      rw [e]
      exact class_1 D r v pv bs P s hP w h x1 x2 x3 x4 im s1 s2 s3 s4 s5 e1 e2 e3 e4 e5 s6 e6 hb6 fs s7 e7 hb7
    | false =>
      have e : clsR P bs s = (⟨x1, x2, x3, x4, im, fs, me⟩, s8) := by simp only [clsR, hdr, bd, mst, e1, e2, e3, e4, e5, e6, fb, hb6, Bool.false_eq_true, if_false, e7, hb7, e8]
      rw [e]
      exact class_2 D r v pv bs P s hP w h x1 x2 x3 x4 im s1 s2 s3 s4 s5 e1 e2 e3 e4 e5 s6 e6 hb6 fs s7 e7 hb7 me s8 e8
end Go.Proofs.YtdalibfgkkgcpaaGreat
