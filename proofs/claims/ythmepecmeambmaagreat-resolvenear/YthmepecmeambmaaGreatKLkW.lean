/- Whether an abstract method is answered. -/
import Derived.Test.YthmepecmeambmaaGreatKLkS
import Derived.Deep.RegionHeld3
namespace Go.Proofs.YthmepecmeambmaaGreat
open Go.RowKit
set_option linter.unusedVariables false

set_option maxHeartbeats 4000000 in
theorem ixM288 (d : Nat) (pd : Mth → Bool) (xs : List Mth) (v : Value) (w : World) (hv : Sl 8 RM w v xs) (hf : ∀ w', Ch w w' → ∀ x ∈ xs, ∀ vc vh, Sl 6 RI w' vc x.code → Sl 4 RH w' vh x.hs → Calls Tryz.prog 288 #[.agg #[.string x.n, .string x.d, .bool x.st, .bool x.ab, .int .i64 x.sk, .int .i64 x.lo, vc, vh], .pointer (some ⟨d, 0, none⟩)] w' fun e w2 => e = .returned (.bool (pd x)) ∧ Ch w' w2) :
    Calls Tryz.prog 200 #[v, .func (.func 288) #[] #[.pointer (some ⟨d, 0, none⟩)]] w fun e w' => e = .returned (.int .i64 (idI pd xs)) ∧ Ch w w' := by
  obtain ⟨ao, c, rfl, hc1, hc2⟩ := hv.form
  have HS : Hid (Sl 8 RM w (.slice ao xs.length c) xs) := hv
  have HF : Hid (∀ w', Ch w w' → ∀ x ∈ xs, ∀ vc vh, Sl 6 RI w' vc x.code → Sl 4 RH w' vh x.hs → Calls Tryz.prog 288 #[.agg #[.string x.n, .string x.d, .bool x.st, .bool x.ab, .int .i64 x.sk, .int .i64 x.lo, vc, vh], .pointer (some ⟨d, 0, none⟩)] w' fun e w2 => e = .returned (.bool (pd x)) ∧ Ch w' w2) := hf
  clear hv hf
  obtain ⟨ans, hans⟩ : ∃ q, idI pd xs = q := ⟨_, rfl⟩
  rw [hans]
  have HA : Hid (idJ pd 0 (xs.drop 0) = ans) := hans
  clear hans
  go_enter Tryz.func200, Tryz.ntmps200
  go_wp2_with fail
  go_loopw [8] (fun i wr => ∃ k : Nat, k ≤ xs.length ∧ i = .int .i64 k ∧ idJ pd k (xs.drop k) = ans ∧ Ch w wr) (fun i _ => xs.length - (intOf i).toNat)
  case atStart => exact ⟨0, Nat.zero_le _, rfl, HA.out, Ch.refl _⟩
  case round =>
    obtain ⟨k, hk, rfl, hno, hcr⟩ := hrel
    by_cases hlt : k < xs.length
    · obtain ⟨x, hx⟩ : ∃ x, xs[k]? = some x := ⟨_, List.getElem?_eq_getElem hlt⟩
      obtain ⟨b, off, vc, vh, rfl, s1, s2, q0, q1, q2, q3, q4, q5, q6, q7⟩ := (HS.out.keepM hcr).atM hx
      have hfk := HF.out wr hcr x (List.mem_of_getElem? hx) vc vh s1 s2
      obtain ⟨ac, cc, rfl, _, _⟩ := s1.form
      obtain ⟨ah, chh, rfl, _, _⟩ := s2.form
      clear s1 s2
      rw [idJ_step pd hx] at hno
      have HN : Hid ((if pd x then (k : Int) else idJ pd (k + 1) (xs.drop (k + 1))) = ans) := hno
      clear hno hx
      obtain ⟨bq, hbq⟩ : ∃ q, pd x = q := ⟨_, rfl⟩
      rw [hbq] at hfk HN
      clear hbq
      cases bq with
      | true =>
        go_wp2_with (first
          | (go_at_call 288; (with_reducible refine hfk.mono ?_); rintro e w3 ⟨rfl, c3⟩)
          | fail)
        go_ret
        exact ⟨by rw [← HN.out]; rfl, hcr.trans c3⟩
      | false =>
        go_wp2_with (first
          | (go_at_call 288; (with_reducible refine hfk.mono ?_); rintro e w3 ⟨rfl, c3⟩)
          | fail)
        go_roundw
        case rel => exact ⟨k + 1, by omega, by go_num, by rw [← HN.out]; rfl, hcr.trans c3⟩
        case measure => simp [intOf]; omega
    · obtain rfl : k = xs.length := by omega
      rw [List.drop_length] at hno
      subst hno
      go_wp2_with fail
      go_ret
      exact ⟨rfl, hcr⟩

set_option maxHeartbeats 1000000 in
theorem coM288 (d : Nat) (pd : Mth → Bool) (xs : List Mth) (v : Value) (w : World) (hv : Sl 8 RM w v xs) (hf : ∀ w', Ch w w' → ∀ x ∈ xs, ∀ vc vh, Sl 6 RI w' vc x.code → Sl 4 RH w' vh x.hs → Calls Tryz.prog 288 #[.agg #[.string x.n, .string x.d, .bool x.st, .bool x.ab, .int .i64 x.sk, .int .i64 x.lo, vc, vh], .pointer (some ⟨d, 0, none⟩)] w' fun e w2 => e = .returned (.bool (pd x)) ∧ Ch w' w2) :
    Calls Tryz.prog 223 #[v, .func (.func 288) #[] #[.pointer (some ⟨d, 0, none⟩)]] w fun e w' => e = .returned (.bool (xs.any pd)) ∧ Ch w w' := by
  have hi := ixM288 d pd xs v w hv hf
  rw [← idI_any]
  obtain ⟨ao, c, rfl, hc1, hc2⟩ := hv.form
  clear hv hf
  generalize idI pd xs = r at *
  go_enter Tryz.func223, Tryz.ntmps223
  go_wp2_with (first
    | (go_at_call 200; (with_reducible refine hi.mono ?_); rintro e w3 ⟨rfl, c3⟩)
    | fail)
  go_ret
  exact ⟨rfl, c3⟩

def ansM (m o : Mth) : Bool := nq o.n m.n && (nq o.d m.d && (!o.st && !o.ab))
theorem answ_eq (L : ByteArray → Option Cls) (way : List ByteArray) (m : Mth) : answ L way m = way.any fun n => (meOf L n).any (ansM m) := rfl
set_option maxHeartbeats 4000000 in
theorem ansM_any (m o : Mth) (d : Nat) (a1 : Option Addr) (n1 c1 : Nat) (a2 : Option Addr) (n2 c2 : Nat) (w : World) (h0 : w.cell? ⟨d, 0, none⟩ = some (.string m.n)) (h1 : w.cell? ⟨d, 1, none⟩ = some (.string m.d)) :
    Calls Tryz.prog 288 #[.agg #[.string o.n, .string o.d, .bool o.st, .bool o.ab, .int .i64 o.sk, .int .i64 o.lo, .slice a1 n1 c1, .slice a2 n2 c2], .pointer (some ⟨d, 0, none⟩)] w fun e w' => e = .returned (.bool (ansM m o)) ∧ Ch w w' := by
  unfold ansM
  obtain ⟨xn, xd, xst, xab, xsk, xlo, xc, xh⟩ := o
  dsimp only
  have hq : (xn.toList == m.n.toList) = nq xn m.n := toList_nq _ _
  have hq2 : (xd.toList == m.d.toList) = nq xd m.d := toList_nq _ _
  generalize nq xn m.n = r at *
  generalize nq xd m.d = s at *
  have g0 := cell_keep ((Ch.refl w).alloc (.cells #[.string xn, .string xd, .bool xst, .bool xab, .int .i64 xsk, .int .i64 xlo, .slice a1 n1 c1, .slice a2 n2 c2] 66)) h0
  have g1 := cell_keep ((Ch.refl w).alloc (.cells #[.string xn, .string xd, .bool xst, .bool xab, .int .i64 xsk, .int .i64 xlo, .slice a1 n1 c1, .slice a2 n2 c2] 66)) h1
  cases r <;> cases s <;> cases xst <;> cases xab <;>
  · go_enter Tryz.func288, Tryz.ntmps288
    go_wp2
    go_ret
    exact ⟨rfl, (Ch.refl w).alloc _⟩

set_option maxHeartbeats 4000000 in
theorem ansC_any (m : Mth) (d f i : Nat) (x : Cls) (P : List Cls) (g b : Nat) (w : World) (h : Pm w g b P) (hx : P[i]? = some x) (h0 : w.cell? ⟨d, 0, none⟩ = some (.string m.n)) (h1 : w.cell? ⟨d, 1, none⟩ = some (.string m.d)) (hf : w.cell? ⟨f, 0, none⟩ = some (.func (.func 288) #[] #[.pointer (some ⟨d, 0, none⟩)])) :
    Calls Tryz.prog 290 #[ptr b i, .pointer (some ⟨f, 0, none⟩)] w fun e w' => e = .returned (.bool (x.me.any (ansM m))) ∧ Ch w w' := by
  obtain ⟨vi, vf, vm, hat, q0, q1, q2, q3, q4, q5, q6⟩ := h.at hx
  have HC : Hid (∀ w', Ch w w' → Calls Tryz.prog 223 #[vm, .func (.func 288) #[] #[.pointer (some ⟨d, 0, none⟩)]] w' fun e w2 => e = .returned (.bool (x.me.any (ansM m))) ∧ Ch w' w2) := fun w' k => coM288 d (ansM m) x.me vm w' (hat.2.2.keepM k) (fun w2 k2 o _ vc vh s1 s2 => by
    obtain ⟨a1, c1, rfl, _, _⟩ := s1.form
    obtain ⟨a2, c2, rfl, _, _⟩ := s2.form
    exact ansM_any m o d a1 _ c1 a2 _ c2 w2 (cell_keep (k.trans k2) h0) (cell_keep (k.trans k2) h1))
  obtain ⟨am, cm, rfl, _, _⟩ := hat.2.2.form
  have HD : Hid (∀ w', Ch w w' → w'.cell? ⟨b, i * 7 + 6, none⟩ = some (.slice am x.me.length cm) ∧ w'.cell? ⟨f, 0, none⟩ = some (.func (.func 288) #[] #[.pointer (some ⟨d, 0, none⟩)])) := fun w' k => ⟨cell_keep k q6, cell_keep k hf⟩
  clear hat q0 q1 q2 q3 q4 q5 q6 h hx h0 h1 hf
  generalize x.me.any (ansM m) = r at *
  unfold ptr
  go_enter Tryz.func290, Tryz.ntmps290
  go_wp2_with fail
  go_region_held3 (fun w' => w'.cell? ⟨b, i * 7 + 6, none⟩ = some (.slice am x.me.length cm) ∧ w'.cell? ⟨f, 0, none⟩ = some (.func (.func 288) #[] #[.pointer (some ⟨d, 0, none⟩)])) (first | (with_reducible exact hS) | (with_reducible exact HD.out _ (Ch.refl w).drew) | fail) (first
    | (go_at_call 223; (with_reducible refine (HC.out _ (Ch.refl w).drew).mono ?_); rintro e w3 ⟨rfl, c3⟩; have hS := HD.out w3 ((Ch.refl w).drew.trans c3); have hc3 := (Ch.refl w).drew.trans c3)
    | fail)
  go_wp2_with fail
  go_ret
  exact ⟨rfl, hc3⟩

set_option maxHeartbeats 4000000 in
theorem ixP290 (f : Nat) (pd : ByteArray → Bool) (way : List ByteArray) (v : Value) (P : List Cls) (g b B : Nat) (w : World) (h : Pm w g b P) (hv : Ow 1 117 (RP b P) B w v way) (hw : inP P way)
    (hf : ∀ w', Ch w w' → ∀ i x, P[i]? = some x → lk P x.n = some x → Calls Tryz.prog 290 #[ptr b i, .pointer (some ⟨f, 0, none⟩)] w' fun e w2 => e = .returned (.bool (pd x.n)) ∧ Ch w' w2) :
    Calls Tryz.prog 326 #[v, .func (.func 290) #[] #[.pointer (some ⟨f, 0, none⟩)]] w fun e w' => e = .returned (.int .i64 (idI pd way)) ∧ Ch w w' := by
  obtain ⟨ao, c, rfl, hl1, hl2⟩ := hv.sl.form
  have HS : Hid (Sl 1 (RP b P) w (.slice ao way.length c) way) := hv.sl
  have HF : Hid (∀ w', Ch w w' → ∀ i x, P[i]? = some x → lk P x.n = some x → Calls Tryz.prog 290 #[ptr b i, .pointer (some ⟨f, 0, none⟩)] w' fun e w2 => e = .returned (.bool (pd x.n)) ∧ Ch w' w2) := hf
  have HW : Hid (inP P way) := hw
  clear hv hf hw h
  obtain ⟨ans, hans⟩ : ∃ q, idI pd way = q := ⟨_, rfl⟩
  rw [hans]
  have HA : Hid (idJ pd 0 (way.drop 0) = ans) := hans
  clear hans
  go_enter Tryz.func326, Tryz.ntmps326
  go_wp2_with fail
  go_loopw [8] (fun i wr => ∃ k : Nat, k ≤ way.length ∧ i = .int .i64 k ∧ idJ pd k (way.drop k) = ans ∧ Ch w wr) (fun i _ => way.length - (intOf i).toNat)
  case atStart => exact ⟨0, Nat.zero_le _, rfl, HA.out, Ch.refl _⟩
  case round =>
    obtain ⟨k, hk, rfl, hno, hcr⟩ := hrel
    by_cases hlt : k < way.length
    · obtain ⟨n, hn⟩ : ∃ x, way[k]? = some x := ⟨_, List.getElem?_eq_getElem hlt⟩
      obtain ⟨i, hi⟩ := HW.out n (List.mem_of_getElem? hn)
      obtain ⟨x, hxi, hxl, _⟩ := ix_some hi
      obtain ⟨_, hxn⟩ := lk_some hxl
      subst hxn
      have hsl : Sl 1 (RP b P) wr (.slice ao way.length c) way := HS.out.keep (fun _ _ x => x) hcr
      obtain ⟨b', off, cs, e1, e2, e3⟩ := hsl.at hn
      have e2 : cs = [pn b P x.n] := e2
      subst e1 e2
      have q0 := e3 0 _ rfl
      rw [pn_is hi] at q0
      have off0 : off + k * 1 + 0 = off + k := by omega
      rw [off0] at q0
      have hfk := HF.out wr hcr i x hxi hxl
      rw [idJ_step pd hn] at hno
      have HN : Hid ((if pd x.n then (k : Int) else idJ pd (k + 1) (way.drop (k + 1))) = ans) := hno
      unfold ptr at *
      clear hno hn hi hxi hxl e3 off0 hsl
      obtain ⟨bq, hbq⟩ : ∃ q, pd x.n = q := ⟨_, rfl⟩
      rw [hbq] at hfk HN
      clear hbq
      cases bq with
      | true =>
        go_wp2_with (first
          | (go_at_call 290; (with_reducible refine hfk.mono ?_); rintro e w3 ⟨rfl, c3⟩)
          | fail)
        go_ret
        exact ⟨by rw [← HN.out]; rfl, hcr.trans c3⟩
      | false =>
        go_wp2_with (first
          | (go_at_call 290; (with_reducible refine hfk.mono ?_); rintro e w3 ⟨rfl, c3⟩)
          | fail)
        go_roundw
        case rel => exact ⟨k + 1, by omega, by go_num, by rw [← HN.out]; rfl, hcr.trans c3⟩
        case measure => simp [intOf]; omega
    · obtain rfl : k = way.length := by omega
      rw [List.drop_length] at hno
      subst hno
      go_wp2_with fail
      go_ret
      exact ⟨rfl, hcr⟩
set_option maxHeartbeats 1000000 in
theorem coP290 (f : Nat) (pd : ByteArray → Bool) (way : List ByteArray) (v : Value) (P : List Cls) (g b B : Nat) (w : World) (h : Pm w g b P) (hv : Ow 1 117 (RP b P) B w v way) (hw : inP P way)
    (hf : ∀ w', Ch w w' → ∀ i x, P[i]? = some x → lk P x.n = some x → Calls Tryz.prog 290 #[ptr b i, .pointer (some ⟨f, 0, none⟩)] w' fun e w2 => e = .returned (.bool (pd x.n)) ∧ Ch w' w2) :
    Calls Tryz.prog 289 #[v, .func (.func 290) #[] #[.pointer (some ⟨f, 0, none⟩)]] w fun e w' => e = .returned (.bool (way.any pd)) ∧ Ch w w' := by
  have hi := ixP290 f pd way v P g b B w h hv hw hf
  rw [← idI_any]
  obtain ⟨ao, c, rfl⟩ := hv.form
  clear hv hf hw h
  generalize idI pd way = r at *
  go_enter Tryz.func289, Tryz.ntmps289
  go_wp2_with (first
    | (go_at_call 326; (with_reducible refine hi.mono ?_); rintro e w3 ⟨rfl, c3⟩)
    | fail)
  go_ret
  exact ⟨rfl, c3⟩

theorem store_fn (b : Nat) (v u : Value) (w : World) (h1 : v.oneCell' = true) (hc : w.cell? ⟨b, 0, none⟩ = some u) (hf : w.frozen? ⟨b, 0, none⟩ = false) : (store ⟨b, 0, none⟩ v).run Tryz.prog w = .ok () (w.setCell ⟨b, 0, none⟩ v) := by
  have hst := run_store Tryz.prog w ⟨b, 0, none⟩ v .plain h1
  rw [hc] at hst
  simp only [hf] at hst
  simpa using hst
set_option maxHeartbeats 4000000 in
theorem answered_any (m : Mth) (vc vh : Value) (way : List ByteArray) (v : Value) (P : List Cls) (g b B : Nat) (w : World) (h : Pm w g b P) (hv : Ow 1 117 (RP b P) B w v way) (hw : inP P way) (h1 : Sl 6 RI w vc m.code) (h2 : Sl 4 RH w vh m.hs) :
    Calls Tryz.prog 226 #[v, .agg #[.string m.n, .string m.d, .bool m.st, .bool m.ab, .int .i64 m.sk, .int .i64 m.lo, vc, vh]] w fun e w' => e = .returned (.bool (answ (lk P) way m)) ∧ Ch w w' := by
  rw [answ_eq]
  obtain ⟨ac, cc, rfl, _, _⟩ := h1.form
  obtain ⟨ah, chh, rfl, _, _⟩ := h2.form
  clear h1 h2
  have hB : Bo w w.heap.size 66 #[.string m.n, .string m.d, .bool m.st, .bool m.ab, .int .i64 m.sk, .int .i64 m.lo, .slice ac m.code.length cc, .slice ah m.hs.length chh] _ := Bo.new (Ch.refl w) _ _
  have hsz : (w.alloc (.cells #[.string m.n, .string m.d, .bool m.st, .bool m.ab, .int .i64 m.sk, .int .i64 m.lo, .slice ac m.code.length cc, .slice ah m.hs.length chh] 66)).heap.size = w.heap.size + 1 := by simp
  have hN := Bo.new hB.ch #[.nilFunc] 214
  rw [hsz] at hN
  have n0 := hN.c 0 rfl
  have nf := hN.fz 0
  have hF := hN.set 0 (.func (.func 288) #[] #[.pointer (some ⟨w.heap.size, 0, none⟩)])
  have hB2 := (hB.call ((Ch.refl _).alloc (.cells #[.nilFunc] 214))).far 0 (.func (.func 288) #[] #[.pointer (some ⟨w.heap.size, 0, none⟩)]) (g' := w.heap.size + 1) (by omega) (by omega)
  have hst := store_fn (w.heap.size + 1) (.func (.func 288) #[] #[.pointer (some ⟨w.heap.size, 0, none⟩)]) _ _ rfl n0 nf
  have hco := coP290 (w.heap.size + 1) (fun n => (meOf (lk P) n).any (ansM m)) way v P g b B _ (h.keep hF.ch) (hv.keepP hF.ch) hw (fun w' k i x hx hl => by
    have e : meOf (lk P) x.n = x.me := by unfold meOf; rw [hl]
    rw [e]
    exact ansC_any m w.heap.size (w.heap.size + 1) i x P g b w' (h.keep (hF.ch.trans k)) hx ((hB2.call k).c 0 rfl) ((hB2.call k).c 1 rfl) ((hF.call k).c 0 rfl))
  have hch := hF.ch
  have hew : ((w.alloc (.cells #[.string m.n, .string m.d, .bool m.st, .bool m.ab, .int .i64 m.sk, .int .i64 m.lo, .slice ac m.code.length cc, .slice ah m.hs.length chh] 66)).alloc (.cells #[.nilFunc] 214)).setCell ⟨w.heap.size + 1, 0, none⟩ (.func (.func 288) #[] #[.pointer (some ⟨w.heap.size, 0, none⟩)]) = (w.alloc (.cells #[.string m.n, .string m.d, .bool m.st, .bool m.ab, .int .i64 m.sk, .int .i64 m.lo, .slice ac m.code.length cc, .slice ah m.hs.length chh] 66)).alloc (.cells #[.func (.func 288) #[] #[.pointer (some ⟨w.heap.size, 0, none⟩)]] 214) := by
    rw [World.setCell_alloc_at] <;> first | rfl | simp
  rw [hew] at hco hch
  obtain ⟨ao, c, rfl⟩ := hv.form
  clear hv hw h hB hF hB2 hN hew
  generalize (way.any fun n => (meOf (lk P) n).any (ansM m)) = r at *
  go_enter Tryz.func226, Tryz.ntmps226
  go_wp2_with (first
    | (go_at_call 289; (with_reducible refine hco.mono ?_); rintro e w3 ⟨rfl, c3⟩)
    | fail)
  go_ret
  exact ⟨rfl, hch.trans c3⟩
end Go.Proofs.YthmepecmeambmaaGreat
