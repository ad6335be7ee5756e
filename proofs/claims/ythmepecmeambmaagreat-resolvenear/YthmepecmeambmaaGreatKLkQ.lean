/- Names of those that are wanted; whether one is alone. -/
import Derived.Test.YthmepecmeambmaaGreatKLkP
import Derived.Deep.RegionHeld3
namespace Go.Proofs.YthmepecmeambmaaGreat
open Go.RowKit
set_option linter.unusedVariables false

set_option maxHeartbeats 8000000 in
set_option maxRecDepth 100000 in
theorem namesOf_all (pd : Cls → Bool) (P : List Cls) (g b : Nat) (w : World) (h : Pm w g b P) (hf : ∀ w', Ch w w' → ∀ i x, P[i]? = some x → Calls Tryz.prog 85 #[ptr b i] w' fun e w2 => e = .returned (.bool (pd x)) ∧ Ch w' w2) :
    Calls Tryz.prog 84 #[.pointer (some ⟨g, 0, none⟩), .func (.func 85) #[] #[]] w fun e w' => ∃ v, e = .returned v ∧ Ow 1 9 RS w.heap.size w' v ((P.filter pd).map (·.n)) ∧ Ch w w' := by
  obtain ⟨cap, B, hg, ho⟩ := h.2.2.2
  have HP : Hid (Pm w g b P) := h
  have hl := h.2.1
  have HC : Hid (∀ w', Ch w w' → w'.cell? ⟨g, 0, none⟩ = some (.slice (some ⟨b, 0, none⟩) P.length cap)) := fun w' k => by simp [World.cell?, kept_at k hg]
  have HF : Hid (∀ w', Ch w w' → ∀ i x, P[i]? = some x → Calls Tryz.prog 85 #[ptr b i] w' fun e w2 => e = .returned (.bool (pd x)) ∧ Ch w' w2) := hf
  have q0 := HC.out w (Ch.refl w)
  clear h ho hg hf
  obtain ⟨r, hr⟩ : ∃ r, (P.filter pd).map (·.n) = r := ⟨_, rfl⟩
  rw [hr]
  have HR : Hid ((P.filter pd).map (·.n) = r) := hr
  clear hr
  refine Calls.mono (R := fun e w' => ∃ v, e = .returned v ∧ Hid (Ow 1 9 RS w.heap.size w' v r ∧ Ch w w')) ?_ (fun e w' ⟨v, h1, h2⟩ => ⟨v, h1, h2.out⟩)
  go_enter Tryz.func84, Tryz.ntmps84
  go_wp2_with fail
  go_loopw [5, 15] (fun vl i wr => ∃ k : Nat, k ≤ P.length ∧ i = .int .i64 k ∧ Ow 1 9 RS w.heap.size wr vl (((P.take k).filter pd).map (·.n)) ∧ Ch w wr) (fun _ i _ => P.length - (intOf i).toNat)
  case atStart => exact ⟨0, Nat.zero_le _, rfl, by simpa using Ow.nil, Ch.refl _⟩
  case round =>
    clear q0
    obtain ⟨k, hk, rfl, hO, hcr⟩ := hrel
    have q0 := HC.out wr hcr
    by_cases hlt : k < P.length
    · obtain ⟨x, hx⟩ : ∃ x, P[k]? = some x := ⟨_, List.getElem?_eq_getElem hlt⟩
      have hfk := HF.out wr hcr k x hx
      have HX : Hid (P[k]? = some x) := hx
      have Q1 : Hid (∀ w', Ch w w' → w'.cell? ⟨b, k * 7, none⟩ = some (.string x.n)) := fun w' c => by
        obtain ⟨_, _, _, _, q, _⟩ := (HP.out.keep c).at HX.out
        exact q
      have hll : (((P.take k).filter pd).map (·.n)).length ≤ 100000 := by
        rw [List.length_map]
        have := List.length_filter_le pd (P.take k)
        rw [List.length_take] at this
        omega
      have hst : ((P.take (k + 1)).filter pd).map (·.n) = ((P.take k).filter pd).map (·.n) ++ (if pd x then [x.n] else []) := by
        obtain ⟨h1, h2⟩ := List.getElem?_eq_some_iff.1 hx
        rw [List.take_succ_eq_append_getElem h1, h2, List.filter_append, List.map_append]
        congr 1
        cases hp : pd x <;> simp [hp]
      clear hx
      generalize ((P.take k).filter pd).map (·.n) = l1 at *
      have HS : Hid (((P.take (k + 1)).filter pd).map (·.n) = l1 ++ (if pd x then [x.n] else [])) := hst
      clear hst
      obtain ⟨al, cl, rfl⟩ := hO.form
      unfold ptr at hfk
      have e7 : (⟨b, 0, none⟩ : Addr).add (k * 7) = ⟨b, k * 7, none⟩ := by unfold Addr.add; split <;> simp_all
      obtain ⟨bq, hbq⟩ : ∃ q, pd x = q := ⟨_, rfl⟩
      rw [hbq] at hfk HS
      clear hbq
      cases bq with
      | true =>
        go_wp2_with (first
          | (go_at_call 85; (with_reducible refine hfk.mono ?_); rintro e w3 ⟨rfl, c3⟩; have q3 := Q1.out w3 (hcr.trans c3))
          | (at_builtin; refine (((hO.keepS c3)).keepS ((Ch.refl w3).alloc _)).push infS9 rfl (by omega) Tryz.underlying32 rfl (.tmp 27) (.tmp 32) rfl rfl (.string x.n) x.n (fun _ => rfl) (fun _ _ _ _ x => x) rfl w3.heap.size 1 rfl (heap_alloc_new _ _) hll (by have := hcr.size; have := c3.size; simp; omega) ?_; intro v4 w4 o4 g4 r4; have c4 : Ch w w4 := ((hcr.trans c3).alloc _).grown g4 r4)
          | fail)
        go_roundw
        case rel => exact ⟨k + 1, by omega, by go_num, by rw [HS.out]; simpa using o4, c4⟩
        case measure => simp [intOf]; omega
      | false =>
        go_wp2_with (first
          | (go_at_call 85; (with_reducible refine hfk.mono ?_); rintro e w3 ⟨rfl, c3⟩)
          | fail)
        go_roundw
        case rel => exact ⟨k + 1, by omega, by go_num, by rw [HS.out]; simpa using hO.keepS c3, hcr.trans c3⟩
        case measure => simp [intOf]; omega
    · obtain rfl : k = P.length := by omega
      rw [List.take_length, HR.out] at hO
      have HO : Hid (Ow 1 9 RS w.heap.size wr u5 r) := hO
      clear hO
      go_wp2_with fail
      go_ret
      exact ⟨_, rfl, HO.out, hcr⟩

set_option maxHeartbeats 8000000 in
set_option maxRecDepth 100000 in
theorem namesOf_one (d : Nat) (pd : Cls → Bool) (P : List Cls) (g b : Nat) (w : World) (h : Pm w g b P) (hf : ∀ w', Ch w w' → ∀ i x, P[i]? = some x → Calls Tryz.prog 217 #[ptr b i, .pointer (some ⟨d, 0, none⟩)] w' fun e w2 => e = .returned (.bool (pd x)) ∧ Ch w' w2) :
    Calls Tryz.prog 84 #[.pointer (some ⟨g, 0, none⟩), .func (.func 217) #[] #[.pointer (some ⟨d, 0, none⟩)]] w fun e w' => ∃ v, e = .returned v ∧ Ow 1 9 RS w.heap.size w' v ((P.filter pd).map (·.n)) ∧ Ch w w' := by
  obtain ⟨cap, B, hg, ho⟩ := h.2.2.2
  have HP : Hid (Pm w g b P) := h
  have hl := h.2.1
  have HC : Hid (∀ w', Ch w w' → w'.cell? ⟨g, 0, none⟩ = some (.slice (some ⟨b, 0, none⟩) P.length cap)) := fun w' k => by simp [World.cell?, kept_at k hg]
  have HF : Hid (∀ w', Ch w w' → ∀ i x, P[i]? = some x → Calls Tryz.prog 217 #[ptr b i, .pointer (some ⟨d, 0, none⟩)] w' fun e w2 => e = .returned (.bool (pd x)) ∧ Ch w' w2) := hf
  have q0 := HC.out w (Ch.refl w)
  clear h ho hg hf
  obtain ⟨r, hr⟩ : ∃ r, (P.filter pd).map (·.n) = r := ⟨_, rfl⟩
  rw [hr]
  have HR : Hid ((P.filter pd).map (·.n) = r) := hr
  clear hr
  refine Calls.mono (R := fun e w' => ∃ v, e = .returned v ∧ Hid (Ow 1 9 RS w.heap.size w' v r ∧ Ch w w')) ?_ (fun e w' ⟨v, h1, h2⟩ => ⟨v, h1, h2.out⟩)
  go_enter Tryz.func84, Tryz.ntmps84
  go_wp2_with fail
  go_loopw [5, 15] (fun vl i wr => ∃ k : Nat, k ≤ P.length ∧ i = .int .i64 k ∧ Ow 1 9 RS w.heap.size wr vl (((P.take k).filter pd).map (·.n)) ∧ Ch w wr) (fun _ i _ => P.length - (intOf i).toNat)
  case atStart => exact ⟨0, Nat.zero_le _, rfl, by simpa using Ow.nil, Ch.refl _⟩
  case round =>
    clear q0
    obtain ⟨k, hk, rfl, hO, hcr⟩ := hrel
    have q0 := HC.out wr hcr
    by_cases hlt : k < P.length
    · obtain ⟨x, hx⟩ : ∃ x, P[k]? = some x := ⟨_, List.getElem?_eq_getElem hlt⟩
      have hfk := HF.out wr hcr k x hx
      have HX : Hid (P[k]? = some x) := hx
      have Q1 : Hid (∀ w', Ch w w' → w'.cell? ⟨b, k * 7, none⟩ = some (.string x.n)) := fun w' c => by
        obtain ⟨_, _, _, _, q, _⟩ := (HP.out.keep c).at HX.out
        exact q
      have hll : (((P.take k).filter pd).map (·.n)).length ≤ 100000 := by
        rw [List.length_map]
        have := List.length_filter_le pd (P.take k)
        rw [List.length_take] at this
        omega
      have hst : ((P.take (k + 1)).filter pd).map (·.n) = ((P.take k).filter pd).map (·.n) ++ (if pd x then [x.n] else []) := by
        obtain ⟨h1, h2⟩ := List.getElem?_eq_some_iff.1 hx
        rw [List.take_succ_eq_append_getElem h1, h2, List.filter_append, List.map_append]
        congr 1
        cases hp : pd x <;> simp [hp]
      clear hx
      generalize ((P.take k).filter pd).map (·.n) = l1 at *
      have HS : Hid (((P.take (k + 1)).filter pd).map (·.n) = l1 ++ (if pd x then [x.n] else [])) := hst
      clear hst
      obtain ⟨al, cl, rfl⟩ := hO.form
      unfold ptr at hfk
      have e7 : (⟨b, 0, none⟩ : Addr).add (k * 7) = ⟨b, k * 7, none⟩ := by unfold Addr.add; split <;> simp_all
      obtain ⟨bq, hbq⟩ : ∃ q, pd x = q := ⟨_, rfl⟩
      rw [hbq] at hfk HS
      clear hbq
      cases bq with
      | true =>
        go_wp2_with (first
          | (go_at_call 217; (with_reducible refine hfk.mono ?_); rintro e w3 ⟨rfl, c3⟩; have q3 := Q1.out w3 (hcr.trans c3))
          | (at_builtin; refine (((hO.keepS c3)).keepS ((Ch.refl w3).alloc _)).push infS9 rfl (by omega) Tryz.underlying32 rfl (.tmp 27) (.tmp 32) rfl rfl (.string x.n) x.n (fun _ => rfl) (fun _ _ _ _ x => x) rfl w3.heap.size 1 rfl (heap_alloc_new _ _) hll (by have := hcr.size; have := c3.size; simp; omega) ?_; intro v4 w4 o4 g4 r4; have c4 : Ch w w4 := ((hcr.trans c3).alloc _).grown g4 r4)
          | fail)
        go_roundw
        case rel => exact ⟨k + 1, by omega, by go_num, by rw [HS.out]; simpa using o4, c4⟩
        case measure => simp [intOf]; omega
      | false =>
        go_wp2_with (first
          | (go_at_call 217; (with_reducible refine hfk.mono ?_); rintro e w3 ⟨rfl, c3⟩)
          | fail)
        go_roundw
        case rel => exact ⟨k + 1, by omega, by go_num, by rw [HS.out]; simpa using hO.keepS c3, hcr.trans c3⟩
        case measure => simp [intOf]; omega
    · obtain rfl : k = P.length := by omega
      rw [List.take_length, HR.out] at hO
      have HO : Hid (Ow 1 9 RS w.heap.size wr u5 r) := hO
      clear hO
      go_wp2_with fail
      go_ret
      exact ⟨_, rfl, HO.out, hcr⟩

theorem namesAll_any (P : List Cls) (g b : Nat) (w : World) (h : Pm w g b P) : Calls Tryz.prog 26 #[.pointer (some ⟨g, 0, none⟩)] w fun e w' => ∃ v, e = .returned v ∧ Ow 1 9 RS w.heap.size w' v (nms P) ∧ Ch w w' := by
  have hn := namesOf_all (fun _ => true) P g b w h (fun w' _ i x _ => by
    unfold ptr
    go_enter Tryz.func85, Tryz.ntmps85
    go_wp2
    go_ret
    exact ⟨rfl, Ch.refl _⟩)
  have e : (P.filter fun _ => true).map (·.n) = nms P := by rw [List.filter_eq_self.2 (fun _ _ => rfl)]; rfl
  rw [e] at hn
  go_enter Tryz.func26, Tryz.ntmps26
  go_wp2_with (first
    | (go_at_call 84; (with_reducible refine hn.mono ?_); rintro e w3 ⟨v3, rfl, o3, c3⟩)
    | fail)
  go_ret
  exact ⟨_, rfl, o3, c3⟩

set_option maxHeartbeats 2000000 in
theorem oneCmp_any (d i : Nat) (x : Cls) (n : ByteArray) (P : List Cls) (g b : Nat) (w : World) (h : Pm w g b P) (hx : P[i]? = some x) (hd : w.cell? ⟨d, 0, none⟩ = some (.string n)) :
    Calls Tryz.prog 217 #[ptr b i, .pointer (some ⟨d, 0, none⟩)] w fun e w' => e = .returned (.bool (nq x.n n)) ∧ Ch w w' := by
  obtain ⟨_, _, _, _, q, _⟩ := h.at hx
  have hq : (x.n.toList == n.toList) = nq x.n n := toList_nq _ _
  unfold ptr
  clear h hx
  generalize nq x.n n = r at *
  have HD : Hid (∀ w', Ch w w' → w'.cell? ⟨b, i * 7, none⟩ = some (.string x.n) ∧ w'.cell? ⟨d, 0, none⟩ = some (.string n)) := fun w' k => ⟨cell_keep k q, cell_keep k hd⟩
  go_enter Tryz.func217, Tryz.ntmps217
  go_wp2_with fail
  go_region_held3 (fun w' => w'.cell? ⟨b, i * 7, none⟩ = some (.string x.n) ∧ w'.cell? ⟨d, 0, none⟩ = some (.string n)) (first | (with_reducible exact HD.out _ (Ch.refl w).drew) | fail) (first | fail)
  go_wp2_with fail
  go_ret
  exact ⟨rfl, (Ch.refl w).drew⟩

set_option maxHeartbeats 2000000 in
theorem alone_any (c : Cls) (vi vf vm : Value) (P : List Cls) (g b : Nat) (w : World) (h : Pm w g b P) (hc : ClsAt w c vi vf vm) :
    Calls Tryz.prog 154 #[.pointer (some ⟨g, 0, none⟩), .agg #[.string c.n, .string c.s, .bool c.it, .bool c.ab, vi, vf, vm]] w fun e w' => e = .returned (.bool (k0 P c)) ∧ Ch w w' := by
  obtain ⟨ai, ci, rfl, _, _⟩ := hc.1.form
  obtain ⟨af, cf, rfl, _, _⟩ := hc.2.1.form
  obtain ⟨am, cm, rfl, _, _⟩ := hc.2.2.form
  clear hc
  have hb0 : Bo w w.heap.size 41 #[.string c.n, .string c.s, .bool c.it, .bool c.ab, .slice ai c.im.length ci, .slice af c.fs.length cf, .slice am c.me.length cm] _ := Bo.new (Ch.refl w) _ _
  have hn := namesOf_one w.heap.size (fun d => nq d.n c.n) P g b _ (h.keep hb0.ch) (fun w' k i x hx => oneCmp_any w.heap.size i x c.n P g b w' (h.keep (hb0.ch.trans k)) hx ((hb0.call k).c 0 rfl))
  have HB : Hid (Ch w (w.alloc (.cells #[.string c.n, .string c.s, .bool c.it, .bool c.ab, .slice ai c.im.length ci, .slice af c.fs.length cf, .slice am c.me.length cm] 41))) := hb0.ch
  have hk : k0 P c = (((P.filter fun d => nq d.n c.n).map (·.n)).length == 1) := by unfold k0; rw [List.length_map]
  rw [hk]
  have hle : ((P.filter fun d => nq d.n c.n).map (·.n)).length ≤ 1000 := by
    rw [List.length_map]
    exact Nat.le_trans (List.length_filter_le _ _) h.2.1
  clear h hb0 hk
  generalize (P.filter fun d => nq d.n c.n).map (·.n) = l1 at *
  have hi : ((l1.length : Int) == 1) = (l1.length == 1) := by
    rw [Bool.eq_iff_iff, beq_iff_eq, beq_iff_eq]; omega
  go_enter Tryz.func154, Tryz.ntmps154
  go_wp2_with (first
    | (go_at_call 84; (with_reducible refine hn.mono ?_); rintro e w3 ⟨v3, rfl, o3, c3⟩; obtain ⟨a3, d3, rfl⟩ := o3.form)
    | fail)
  go_ret
  exact ⟨rfl, HB.out.trans c3⟩
end Go.Proofs.YthmepecmeambmaaGreat
