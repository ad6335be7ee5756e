/- What has a class above it: Subs. -/
/- Programs that go together: the way up ends at Object; what is above is there. -/
import Derived.Test.YthmepecmeambmaaGreatKLmF
import Derived.Test.YthmepecmeambmaaGreatKLkS
import Derived.Deep.RegionHeld3
import Derived.Test.YthmepecmeambmaaGreatKLlB
import Derived.Test.YthmepecmeambmaaGreatKLmA
import Derived.Test.YthmepecmeambmaaGreatKLsD
namespace Go.Proofs.YthmepecmeambmaaGreat
open Go.RowKit
set_option linter.unusedVariables false

set_option maxHeartbeats 8000000 in
set_option maxRecDepth 100000 in
theorem namesOf_two (d f : Nat) (pd : Cls → Bool) (P : List Cls) (g b : Nat) (w : World) (h : Pm w g b P) (hf : ∀ w', Ch w w' → ∀ i x, P[i]? = some x → Calls Tryz.prog 99 #[ptr b i, .pointer (some ⟨d, 0, none⟩), .pointer (some ⟨f, 0, none⟩)] w' fun e w2 => e = .returned (.bool (pd x)) ∧ Ch w' w2) :
    Calls Tryz.prog 84 #[.pointer (some ⟨g, 0, none⟩), .func (.func 99) #[] #[.pointer (some ⟨d, 0, none⟩), .pointer (some ⟨f, 0, none⟩)]] w fun e w' => ∃ v, e = .returned v ∧ Ow 1 9 RS w.heap.size w' v ((P.filter pd).map (·.n)) ∧ Ch w w' := by
  obtain ⟨cap, B, hg, ho⟩ := h.2.2.2
  have HP : Hid (Pm w g b P) := h
  have hl := h.2.1
  have HC : Hid (∀ w', Ch w w' → w'.cell? ⟨g, 0, none⟩ = some (.slice (some ⟨b, 0, none⟩) P.length cap)) := fun w' k => by simp [World.cell?, kept_at k hg]
  have HF : Hid (∀ w', Ch w w' → ∀ i x, P[i]? = some x → Calls Tryz.prog 99 #[ptr b i, .pointer (some ⟨d, 0, none⟩), .pointer (some ⟨f, 0, none⟩)] w' fun e w2 => e = .returned (.bool (pd x)) ∧ Ch w' w2) := hf
  have q0 := HC.out w (Ch.refl w)
  clear h ho hg hf
  obtain ⟨r, hr⟩ : ∃ r, (P.filter pd).map (·.n) = r := ⟨_, rfl⟩
  rw [hr]
  have HR : Hid ((P.filter pd).map (·.n) = r) := hr
  clear hr
  refine Calls.mono (R := fun e w' => ∃ v, e = .returned v ∧ Hid (Ow 1 9 RS w.heap.size w' v r ∧ Ch w w')) ?_ (fun e w' ⟨v, h1, h2⟩ => ⟨v, h1, h2.out⟩)
  go_enter Tryz.func84, Tryz.ntmps84
  go_wp2_with fail
  go_loopw [5, 15] (fun vl i wr => ∃ k : Nat, k ≤ P.length ∧ i = .int .i64 k ∧ Ow 1 9 RS w.heap.size wr vl (((P.take k).filter pd).map (·.n)) ∧ Ch w wr) (fun _ i _ => P.length - (intOf i).toNat)
  case atStart => exact ⟨0, Nat.zero_le _, rfl, by simpa using Ow.nil, Ch.refl _⟩
  case round =>
    clear q0
    obtain ⟨k, hk, rfl, hO, hcr⟩ := hrel
    have q0 := HC.out wr hcr
    by_cases hlt : k < P.length
    · obtain ⟨x, hx⟩ : ∃ x, P[k]? = some x := ⟨_, List.getElem?_eq_getElem hlt⟩
      have hfk := HF.out wr hcr k x hx
      have HX : Hid (P[k]? = some x) := hx
      have Q1 : Hid (∀ w', Ch w w' → w'.cell? ⟨b, k * 7, none⟩ = some (.string x.n)) := fun w' c => by
        obtain ⟨_, _, _, _, q, _⟩ := (HP.out.keep c).at HX.out
        exact q
      have hll : (((P.take k).filter pd).map (·.n)).length ≤ 100000 := by
        rw [List.length_map]
        have := List.length_filter_le pd (P.take k)
        rw [List.length_take] at this
        omega
      have hst : ((P.take (k + 1)).filter pd).map (·.n) = ((P.take k).filter pd).map (·.n) ++ (if pd x then [x.n] else []) := by
        obtain ⟨h1, h2⟩ := List.getElem?_eq_some_iff.1 hx
        rw [List.take_succ_eq_append_getElem h1, h2, List.filter_append, List.map_append]
        congr 1
        cases hp : pd x <;> simp [hp]
      clear hx
      generalize ((P.take k).filter pd).map (·.n) = l1 at *
      have HS : Hid (((P.take (k + 1)).filter pd).map (·.n) = l1 ++ (if pd x then [x.n] else [])) := hst
      clear hst
      obtain ⟨al, cl, rfl⟩ := hO.form
      unfold ptr at hfk
      have e7 : (⟨b, 0, none⟩ : Addr).add (k * 7) = ⟨b, k * 7, none⟩ := by unfold Addr.add; split <;> simp_all
      obtain ⟨bq, hbq⟩ : ∃ q, pd x = q := ⟨_, rfl⟩
      rw [hbq] at hfk HS
      clear hbq
      cases bq with
      | true =>
        go_wp2_with (first
          | (go_at_call 99; (with_reducible refine hfk.mono ?_); rintro e w3 ⟨rfl, c3⟩; have q3 := Q1.out w3 (hcr.trans c3))
          | (at_builtin; refine (((hO.keepS c3)).keepS ((Ch.refl w3).alloc _)).push infS9 rfl (by omega) Tryz.underlying32 rfl (.tmp 27) (.tmp 32) rfl rfl (.string x.n) x.n (fun _ => rfl) (fun _ _ _ _ x => x) rfl w3.heap.size 1 rfl (heap_alloc_new _ _) hll (by have := hcr.size; have := c3.size; simp; omega) ?_; intro v4 w4 o4 g4 r4; have c4 : Ch w w4 := ((hcr.trans c3).alloc _).grown g4 r4)
          | fail)
        go_roundw
        case rel => exact ⟨k + 1, by omega, by go_num, by rw [HS.out]; simpa using o4, c4⟩
        case measure => simp [intOf]; omega
      | false =>
        go_wp2_with (first
          | (go_at_call 99; (with_reducible refine hfk.mono ?_); rintro e w3 ⟨rfl, c3⟩)
          | fail)
        go_roundw
        case rel => exact ⟨k + 1, by omega, by go_num, by rw [HS.out]; simpa using hO.keepS c3, hcr.trans c3⟩
        case measure => simp [intOf]; omega
    · obtain rfl : k = P.length := by omega
      rw [List.take_length, HR.out] at hO
      have HO : Hid (Ow 1 9 RS w.heap.size wr u5 r) := hO
      clear hO
      go_wp2_with fail
      go_ret
      exact ⟨_, rfl, HO.out, hcr⟩

/-- Has the class of that Name n above it? -/
def upB (P : List Cls) (m n : ByteArray) : Bool := hasN (walkN P m).1 n || hasN (ifs P m) n
/-- What has n above it. -/
def subsE (P : List Cls) (n : ByteArray) : List ByteArray := (P.filter fun x => upB P x.n n).map (·.n)
set_option maxHeartbeats 16000000 in
set_option maxRecDepth 100000 in
theorem subC_any (i : Nat) (x : Cls) (n : ByteArray) (tp tn : Nat) (P : List Cls) (g b : Nat) (w : World) (h : Pm w g b P) (hI : imIn P) (hx : P[i]? = some x) (hp : w.cell? ⟨tp, 0, none⟩ = some (.pointer (some ⟨g, 0, none⟩))) (hn : w.cell? ⟨tn, 0, none⟩ = some (.string n)) :
    Calls Tryz.prog 99 #[ptr b i, .pointer (some ⟨tp, 0, none⟩), .pointer (some ⟨tn, 0, none⟩)] w fun e w' => e = .returned (.bool (upB P x.n n)) ∧ Ch w w' := by
  have HS : Hid (∀ w', Ch w w' → w'.cell? ⟨tp, 0, none⟩ = some (.pointer (some ⟨g, 0, none⟩)) ∧ w'.cell? ⟨tn, 0, none⟩ = some (.string n) ∧ w'.cell? ⟨b, i * 7, none⟩ = some (.string x.n)) := fun w' k => by
    obtain ⟨_, _, _, _, q, _⟩ := (h.keep k).at hx
    exact ⟨cell_keep k hp, cell_keep k hn, q⟩
  have HSU : Hid (∀ w', Ch w w' → Calls Tryz.prog 33 #[.pointer (some ⟨g, 0, none⟩), .string x.n] w' fun e w2 => ∃ v, e = .returned v ∧ Ow 1 9 RS w'.heap.size w2 v (walkN P x.n).1 ∧ Ch w' w2) := fun w' k => supers_any x.n P g b w' (h.keep k)
  have HIF : Hid (∀ w', Ch w w' → Calls Tryz.prog 97 #[.pointer (some ⟨g, 0, none⟩), .string x.n] w' fun e w2 => ∃ v, e = .returned v ∧ Ow 1 9 RS w'.heap.size w2 v (ifs P x.n) ∧ inP P (ifs P x.n) ∧ (ifs P x.n).Nodup ∧ Ch w' w2) := fun w' k => interfaces_any x.n P g b w' (h.keep k) hI
  have HC1 : Hid (∀ w' v, Sl 1 RS w' v (walkN P x.n).1 → Calls Tryz.prog 100 #[v, .string n] w' fun e w2 => e = .returned (.bool (hasN (walkN P x.n).1 n)) ∧ w2 = w') := fun w' v hv => containsS_any n _ v w' hv
  have HC2 : Hid (∀ w' v, Sl 1 RS w' v (ifs P x.n) → Calls Tryz.prog 100 #[v, .string n] w' fun e w2 => e = .returned (.bool (hasN (ifs P x.n) n)) ∧ w2 = w') := fun w' v hv => containsS_any n _ v w' hv
  unfold upB ptr
  clear h hI hx hp hn
  generalize hasN (walkN P x.n).1 n = t at *
  generalize hasN (ifs P x.n) n = u at *
  obtain ⟨d1, d2, d3⟩ := HS.out _ (Ch.refl w).drew
  cases t with
  | true =>
    go_enter Tryz.func99, Tryz.ntmps99
    go_wp2_with fail
    refine wp_region_held_drew (S := fun w' => w'.cell? ⟨tp, 0, none⟩ = some (.pointer (some ⟨g, 0, none⟩)) ∧ w'.cell? ⟨tn, 0, none⟩ = some (.string n) ∧ w'.cell? ⟨b, i * 7, none⟩ = some (.string x.n)) (by kernel_rfl) (by exact ⟨d1, d2, d3⟩) (fun hHeld => ?_)
    refine wpAnyH_take (i := 0) (oi := ({ dst := some 5, op := Go.Op.load 25 (Go.Operand.tmp 1), type := 25, pos := "link.go:59", after := #[], guard := none } : Oper)) (v := ?_) rfl (by kernel_rfl) (by kernel_rfl) (by kernel_rfl) (fun _ _ _ h => h) (Or.inl ⟨by rfl, ?_⟩) (by assumption) ?_
    rotate_left
    focus (intro w' hSw; (try dsimp only at hSw); go_split_ands; go_simp; try with_reducible rfl)
    (try simp only [Act.put, List.setIfInBounds_toArray, List.set_cons_zero, List.set_cons_succ])
    refine wpAnyH_take (i := 1) (oi := ({ dst := some 6, op := Go.Op.move (Go.Operand.tmp 0), type := 117, pos := "link.go:59", after := #[], guard := none } : Oper)) (v := ?_) rfl (by kernel_rfl) (by kernel_rfl) (by kernel_rfl) (fun _ _ _ h => h) (Or.inl ⟨by rfl, ?_⟩) (by assumption) ?_
    rotate_left
    focus (intro w' hSw; (try dsimp only at hSw); go_split_ands; go_simp; try with_reducible rfl)
    (try simp only [Act.put, List.setIfInBounds_toArray, List.set_cons_zero, List.set_cons_succ])
    refine wpAnyH_take (i := 2) (oi := ({ dst := some 7, op := Go.Op.nilCheck (Go.Operand.tmp 6), type := 0, pos := "link.go:59", after := #[{ on := 1, ground := Go.Ground.data }], guard := none } : Oper)) (v := ?_) rfl (by kernel_rfl) (by kernel_rfl) (by kernel_rfl) (fun _ _ _ h => h) (Or.inl ⟨by rfl, ?_⟩) (by assumption) ?_
    rotate_left
    focus (intro w' hSw; (try dsimp only at hSw); go_split_ands; go_simp; try with_reducible rfl)
    (try simp only [Act.put, List.setIfInBounds_toArray, List.set_cons_zero, List.set_cons_succ])
    refine wpAnyH_take (i := 3) (oi := ({ dst := some 8, op := Go.Op.fieldAddr 41 (Go.Operand.tmp 7) 0, type := 0, pos := "link.go:59", after := #[{ on := 2, ground := Go.Ground.data }], guard := none } : Oper)) (v := ?_) rfl (by kernel_rfl) (by kernel_rfl) (by kernel_rfl) (fun _ _ _ h => h) (Or.inl ⟨by rfl, ?_⟩) (by assumption) ?_
    rotate_left
    focus (intro w' hSw; (try dsimp only at hSw); go_split_ands; go_simp; try with_reducible rfl)
    (try simp only [Act.put, List.setIfInBounds_toArray, List.set_cons_zero, List.set_cons_succ])
    refine wpAnyH_take (i := 4) (oi := ({ dst := some 9, op := Go.Op.load 9 (Go.Operand.tmp 8), type := 9, pos := "link.go:59", after := #[{ on := 3, ground := Go.Ground.data }], guard := none } : Oper)) (v := ?_) rfl (by kernel_rfl) (by kernel_rfl) (by kernel_rfl) (fun _ _ _ h => h) (Or.inl ⟨by rfl, ?_⟩) (by assumption) ?_
    rotate_left
    focus (intro w' hSw; (try dsimp only at hSw); go_split_ands; go_simp; try with_reducible rfl)
    (try simp only [Act.put, List.setIfInBounds_toArray, List.set_cons_zero, List.set_cons_succ])
    refine wpAnyH_take (i := 6) (oi := ({ dst := some 11, op := Go.Op.load 9 (Go.Operand.tmp 2), type := 9, pos := "link.go:59", after := #[], guard := none } : Oper)) (v := ?_) rfl (by kernel_rfl) (by kernel_rfl) (by kernel_rfl) (fun _ _ _ h => h) (Or.inl ⟨by rfl, ?_⟩) (by assumption) ?_
    rotate_left
    focus (intro w' hSw; (try dsimp only at hSw); go_split_ands; go_simp; try with_reducible rfl)
    (try simp only [Act.put, List.setIfInBounds_toArray, List.set_cons_zero, List.set_cons_succ])
    refine wpAnyH_ready (rs := [5]) (by kernel_rfl) (by simp) ?_
    refine AllReadyH.cons (o := ({ dst := some 10, op := Go.Op.call { callee := Go.Callee.value (Go.Operand.func 33), args := #[Go.Operand.tmp 5, Go.Operand.tmp 9], argTypes := #[25, 9] }, type := 32, pos := "link.go:59", after := #[{ on := 0, ground := Go.Ground.data }, { on := 4, ground := Go.Ground.data }], guard := none } : Oper)) rfl (fun K hK => ?_) AllReadyH.nil
    go_simp
    go_at_call 33; (with_reducible refine (HSU.out _ (Ch.refl w).drew).mono ?_); rintro e w3 ⟨v3, rfl, o3, c3⟩; have k3 := (Ch.refl w).drew.trans c3; have s3 := HS.out w3 k3; have hcc := HC1.out w3 v3 o3.sl; obtain ⟨a3, d3, rfl⟩ := o3.form
    refine hK.out _ _ ?_ (fun hHeld => ?_)
    exact s3
    clear hK K
    (try simp only [Act.put, List.setIfInBounds_toArray, List.set_cons_zero, List.set_cons_succ])
    refine wpAnyH_ready (rs := [7]) (by kernel_rfl) (by simp) ?_
    refine AllReadyH.cons (o := ({ dst := some 12, op := Go.Op.call { callee := Go.Callee.value (Go.Operand.func 100), args := #[Go.Operand.tmp 10, Go.Operand.tmp 11], argTypes := #[32, 9] }, type := 4, pos := "link.go:59", after := #[{ on := 5, ground := Go.Ground.data }, { on := 6, ground := Go.Ground.data }, { on := 5, ground := Go.Ground.chain }], guard := none } : Oper)) rfl (fun K hK => ?_) AllReadyH.nil
    go_simp
    go_at_call 100; (with_reducible refine hcc.mono ?_); clear hcc; rintro e w' ⟨rfl, hw⟩; have hw := hw.symm; subst hw
    refine hK.out _ _ ?_ (fun hHeld => ?_)
    exact s3
    clear hK K
    (try simp only [Act.put, List.setIfInBounds_toArray, List.set_cons_zero, List.set_cons_succ])
    refine wpAnyH_take (i := 8) (oi := ({ dst := some 13, op := Go.Op.move (Go.Operand.tmp 12), type := 4, pos := "link.go:59", after := #[{ on := 7, ground := Go.Ground.data }, { on := 7, ground := Go.Ground.chain }], guard := none } : Oper)) (v := ?_) rfl (by kernel_rfl) (by kernel_rfl) (by kernel_rfl) (fun _ _ _ h => h) (Or.inl ⟨by rfl, ?_⟩) (by assumption) ?_
    rotate_left
    focus (intro w' hSw; (try dsimp only at hSw); go_split_ands; go_simp; try with_reducible rfl)
    (try simp only [Act.put, List.setIfInBounds_toArray, List.set_cons_zero, List.set_cons_succ])
    refine wpAnyH_take (i := 9) (oi := ({ dst := some 14, op := Go.Op.load 25 (Go.Operand.tmp 1), type := 25, pos := "link.go:59", after := #[{ on := 8, ground := Go.Ground.guard }], guard := some (8, false) } : Oper)) (v := undef) rfl (by kernel_rfl) (by kernel_rfl) (by kernel_rfl) (fun _ _ _ h => h) (Or.inr ⟨by rfl, rfl⟩) (by assumption) ?_
    (try simp only [Act.put, List.setIfInBounds_toArray, List.set_cons_zero, List.set_cons_succ])
    refine wpAnyH_take (i := 10) (oi := ({ dst := some 15, op := Go.Op.move (Go.Operand.tmp 0), type := 117, pos := "link.go:59", after := #[{ on := 8, ground := Go.Ground.guard }], guard := some (8, false) } : Oper)) (v := undef) rfl (by kernel_rfl) (by kernel_rfl) (by kernel_rfl) (fun _ _ _ h => h) (Or.inr ⟨by rfl, rfl⟩) (by assumption) ?_
    (try simp only [Act.put, List.setIfInBounds_toArray, List.set_cons_zero, List.set_cons_succ])
    refine wpAnyH_take (i := 11) (oi := ({ dst := some 16, op := Go.Op.nilCheck (Go.Operand.tmp 15), type := 0, pos := "link.go:59", after := #[{ on := 10, ground := Go.Ground.data }, { on := 8, ground := Go.Ground.guard }], guard := some (8, false) } : Oper)) (v := undef) rfl (by kernel_rfl) (by kernel_rfl) (by kernel_rfl) (fun _ _ _ h => h) (Or.inr ⟨by rfl, rfl⟩) (by assumption) ?_
    (try simp only [Act.put, List.setIfInBounds_toArray, List.set_cons_zero, List.set_cons_succ])
    refine wpAnyH_take (i := 12) (oi := ({ dst := some 17, op := Go.Op.fieldAddr 41 (Go.Operand.tmp 16) 0, type := 0, pos := "link.go:59", after := #[{ on := 11, ground := Go.Ground.data }, { on := 8, ground := Go.Ground.guard }], guard := some (8, false) } : Oper)) (v := undef) rfl (by kernel_rfl) (by kernel_rfl) (by kernel_rfl) (fun _ _ _ h => h) (Or.inr ⟨by rfl, rfl⟩) (by assumption) ?_
    (try simp only [Act.put, List.setIfInBounds_toArray, List.set_cons_zero, List.set_cons_succ])
    refine wpAnyH_take (i := 13) (oi := ({ dst := some 18, op := Go.Op.load 9 (Go.Operand.tmp 17), type := 9, pos := "link.go:59", after := #[{ on := 12, ground := Go.Ground.data }, { on := 8, ground := Go.Ground.guard }], guard := some (8, false) } : Oper)) (v := undef) rfl (by kernel_rfl) (by kernel_rfl) (by kernel_rfl) (fun _ _ _ h => h) (Or.inr ⟨by rfl, rfl⟩) (by assumption) ?_
    (try simp only [Act.put, List.setIfInBounds_toArray, List.set_cons_zero, List.set_cons_succ])
    refine wpAnyH_take (i := 14) (oi := ({ dst := some 19, op := Go.Op.call { callee := Go.Callee.value (Go.Operand.func 97), args := #[Go.Operand.tmp 14, Go.Operand.tmp 18], argTypes := #[25, 9] }, type := 32, pos := "link.go:59", after := #[{ on := 9, ground := Go.Ground.data }, { on := 13, ground := Go.Ground.data }, { on := 8, ground := Go.Ground.chain }, { on := 8, ground := Go.Ground.guard }], guard := some (8, false) } : Oper)) (v := undef) rfl (by kernel_rfl) (by kernel_rfl) (by kernel_rfl) (fun _ _ _ h => h) (Or.inr ⟨by rfl, rfl⟩) (by assumption) ?_
    (try simp only [Act.put, List.setIfInBounds_toArray, List.set_cons_zero, List.set_cons_succ])
    refine wpAnyH_take (i := 15) (oi := ({ dst := some 20, op := Go.Op.load 9 (Go.Operand.tmp 2), type := 9, pos := "link.go:59", after := #[{ on := 8, ground := Go.Ground.guard }], guard := some (8, false) } : Oper)) (v := undef) rfl (by kernel_rfl) (by kernel_rfl) (by kernel_rfl) (fun _ _ _ h => h) (Or.inr ⟨by rfl, rfl⟩) (by assumption) ?_
    (try simp only [Act.put, List.setIfInBounds_toArray, List.set_cons_zero, List.set_cons_succ])
    refine wpAnyH_take (i := 16) (oi := ({ dst := some 21, op := Go.Op.call { callee := Go.Callee.value (Go.Operand.func 100), args := #[Go.Operand.tmp 19, Go.Operand.tmp 20], argTypes := #[32, 9] }, type := 4, pos := "link.go:59", after := #[{ on := 14, ground := Go.Ground.data }, { on := 15, ground := Go.Ground.data }, { on := 14, ground := Go.Ground.chain }, { on := 8, ground := Go.Ground.guard }], guard := some (8, false) } : Oper)) (v := undef) rfl (by kernel_rfl) (by kernel_rfl) (by kernel_rfl) (fun _ _ _ h => h) (Or.inr ⟨by rfl, rfl⟩) (by assumption) ?_
    (try simp only [Act.put, List.setIfInBounds_toArray, List.set_cons_zero, List.set_cons_succ])
    refine wpAnyH_take (i := 17) (oi := ({ dst := some 22, op := Go.Op.pick (Go.Operand.tmp 13) (Go.Operand.const (Go.Value.bool true)) (Go.Operand.tmp 21), type := 4, pos := "link.go:59", after := #[{ on := 8, ground := Go.Ground.data }, { on := 16, ground := Go.Ground.data }], guard := none } : Oper)) (v := ?_) rfl (by kernel_rfl) (by kernel_rfl) (by kernel_rfl) (fun _ _ _ h => h) (Or.inl ⟨by rfl, ?_⟩) (by assumption) ?_
    rotate_left
    focus (intro w' hSw; (try dsimp only at hSw); go_split_ands; go_simp; try with_reducible rfl)
    (try simp only [Act.put, List.setIfInBounds_toArray, List.set_cons_zero, List.set_cons_succ])
    refine wpAnyH_take (i := 18) (oi := ({ dst := some 4, op := Go.Op.assign (Go.Operand.tmp 22), type := 4, pos := "link.go:59", after := #[{ on := 17, ground := Go.Ground.data }, { on := 16, ground := Go.Ground.chain }, { on := 0, ground := Go.Ground.phase }, { on := 1, ground := Go.Ground.phase }, { on := 2, ground := Go.Ground.phase }, { on := 3, ground := Go.Ground.phase }, { on := 4, ground := Go.Ground.phase }, { on := 5, ground := Go.Ground.phase }, { on := 6, ground := Go.Ground.phase }, { on := 7, ground := Go.Ground.phase }, { on := 8, ground := Go.Ground.phase }, { on := 9, ground := Go.Ground.phase }, { on := 10, ground := Go.Ground.phase }, { on := 11, ground := Go.Ground.phase }, { on := 12, ground := Go.Ground.phase }, { on := 13, ground := Go.Ground.phase }, { on := 14, ground := Go.Ground.phase }, { on := 15, ground := Go.Ground.phase }, { on := 16, ground := Go.Ground.phase }, { on := 17, ground := Go.Ground.phase }], guard := none } : Oper)) (v := ?_) rfl (by kernel_rfl) (by kernel_rfl) (by kernel_rfl) (fun _ _ _ h => h) (Or.inl ⟨by rfl, ?_⟩) (by assumption) ?_
    rotate_left
    focus (intro w' hSw; (try dsimp only at hSw); go_split_ands; go_simp; try with_reducible rfl)
    (try simp only [Act.put, List.setIfInBounds_toArray, List.set_cons_zero, List.set_cons_succ])
    refine wpAnyH_done (by kernel_rfl) ?_ _
    go_wp2_with fail
    go_ret
    exact ⟨rfl, k3⟩
  | false =>
    go_enter Tryz.func99, Tryz.ntmps99
    go_wp2_with fail
    refine wp_region_held_drew (S := fun w' => w'.cell? ⟨tp, 0, none⟩ = some (.pointer (some ⟨g, 0, none⟩)) ∧ w'.cell? ⟨tn, 0, none⟩ = some (.string n) ∧ w'.cell? ⟨b, i * 7, none⟩ = some (.string x.n)) (by kernel_rfl) (by exact ⟨d1, d2, d3⟩) (fun hHeld => ?_)
    refine wpAnyH_take (i := 0) (oi := ({ dst := some 5, op := Go.Op.load 25 (Go.Operand.tmp 1), type := 25, pos := "link.go:59", after := #[], guard := none } : Oper)) (v := ?_) rfl (by kernel_rfl) (by kernel_rfl) (by kernel_rfl) (fun _ _ _ h => h) (Or.inl ⟨by rfl, ?_⟩) (by assumption) ?_
    rotate_left
    focus (intro w' hSw; (try dsimp only at hSw); go_split_ands; go_simp; try with_reducible rfl)
    (try simp only [Act.put, List.setIfInBounds_toArray, List.set_cons_zero, List.set_cons_succ])
    refine wpAnyH_take (i := 1) (oi := ({ dst := some 6, op := Go.Op.move (Go.Operand.tmp 0), type := 117, pos := "link.go:59", after := #[], guard := none } : Oper)) (v := ?_) rfl (by kernel_rfl) (by kernel_rfl) (by kernel_rfl) (fun _ _ _ h => h) (Or.inl ⟨by rfl, ?_⟩) (by assumption) ?_
    rotate_left
    focus (intro w' hSw; (try dsimp only at hSw); go_split_ands; go_simp; try with_reducible rfl)
    (try simp only [Act.put, List.setIfInBounds_toArray, List.set_cons_zero, List.set_cons_succ])
    refine wpAnyH_take (i := 2) (oi := ({ dst := some 7, op := Go.Op.nilCheck (Go.Operand.tmp 6), type := 0, pos := "link.go:59", after := #[{ on := 1, ground := Go.Ground.data }], guard := none } : Oper)) (v := ?_) rfl (by kernel_rfl) (by kernel_rfl) (by kernel_rfl) (fun _ _ _ h => h) (Or.inl ⟨by rfl, ?_⟩) (by assumption) ?_
    rotate_left
    focus (intro w' hSw; (try dsimp only at hSw); go_split_ands; go_simp; try with_reducible rfl)
    (try simp only [Act.put, List.setIfInBounds_toArray, List.set_cons_zero, List.set_cons_succ])
    refine wpAnyH_take (i := 3) (oi := ({ dst := some 8, op := Go.Op.fieldAddr 41 (Go.Operand.tmp 7) 0, type := 0, pos := "link.go:59", after := #[{ on := 2, ground := Go.Ground.data }], guard := none } : Oper)) (v := ?_) rfl (by kernel_rfl) (by kernel_rfl) (by kernel_rfl) (fun _ _ _ h => h) (Or.inl ⟨by rfl, ?_⟩) (by assumption) ?_
    rotate_left
    focus (intro w' hSw; (try dsimp only at hSw); go_split_ands; go_simp; try with_reducible rfl)
    (try simp only [Act.put, List.setIfInBounds_toArray, List.set_cons_zero, List.set_cons_succ])
    refine wpAnyH_take (i := 4) (oi := ({ dst := some 9, op := Go.Op.load 9 (Go.Operand.tmp 8), type := 9, pos := "link.go:59", after := #[{ on := 3, ground := Go.Ground.data }], guard := none } : Oper)) (v := ?_) rfl (by kernel_rfl) (by kernel_rfl) (by kernel_rfl) (fun _ _ _ h => h) (Or.inl ⟨by rfl, ?_⟩) (by assumption) ?_
    rotate_left
    focus (intro w' hSw; (try dsimp only at hSw); go_split_ands; go_simp; try with_reducible rfl)
    (try simp only [Act.put, List.setIfInBounds_toArray, List.set_cons_zero, List.set_cons_succ])
    refine wpAnyH_take (i := 6) (oi := ({ dst := some 11, op := Go.Op.load 9 (Go.Operand.tmp 2), type := 9, pos := "link.go:59", after := #[], guard := none } : Oper)) (v := ?_) rfl (by kernel_rfl) (by kernel_rfl) (by kernel_rfl) (fun _ _ _ h => h) (Or.inl ⟨by rfl, ?_⟩) (by assumption) ?_
    rotate_left
    focus (intro w' hSw; (try dsimp only at hSw); go_split_ands; go_simp; try with_reducible rfl)
    (try simp only [Act.put, List.setIfInBounds_toArray, List.set_cons_zero, List.set_cons_succ])
    refine wpAnyH_ready (rs := [5]) (by kernel_rfl) (by simp) ?_
    refine AllReadyH.cons (o := ({ dst := some 10, op := Go.Op.call { callee := Go.Callee.value (Go.Operand.func 33), args := #[Go.Operand.tmp 5, Go.Operand.tmp 9], argTypes := #[25, 9] }, type := 32, pos := "link.go:59", after := #[{ on := 0, ground := Go.Ground.data }, { on := 4, ground := Go.Ground.data }], guard := none } : Oper)) rfl (fun K hK => ?_) AllReadyH.nil
    go_simp
    go_at_call 33; (with_reducible refine (HSU.out _ (Ch.refl w).drew).mono ?_); rintro e w3 ⟨v3, rfl, o3, c3⟩; have k3 := (Ch.refl w).drew.trans c3; have s3 := HS.out w3 k3; have hcc := HC1.out w3 v3 o3.sl; obtain ⟨a3, d3, rfl⟩ := o3.form
    refine hK.out _ _ ?_ (fun hHeld => ?_)
    exact s3
    clear hK K
    (try simp only [Act.put, List.setIfInBounds_toArray, List.set_cons_zero, List.set_cons_succ])
    refine wpAnyH_ready (rs := [7]) (by kernel_rfl) (by simp) ?_
    refine AllReadyH.cons (o := ({ dst := some 12, op := Go.Op.call { callee := Go.Callee.value (Go.Operand.func 100), args := #[Go.Operand.tmp 10, Go.Operand.tmp 11], argTypes := #[32, 9] }, type := 4, pos := "link.go:59", after := #[{ on := 5, ground := Go.Ground.data }, { on := 6, ground := Go.Ground.data }, { on := 5, ground := Go.Ground.chain }], guard := none } : Oper)) rfl (fun K hK => ?_) AllReadyH.nil
    go_simp
    go_at_call 100; (with_reducible refine hcc.mono ?_); clear hcc; rintro e w' ⟨rfl, hw⟩; have hw := hw.symm; subst hw
    refine hK.out _ _ ?_ (fun hHeld => ?_)
    exact s3
    clear hK K
    (try simp only [Act.put, List.setIfInBounds_toArray, List.set_cons_zero, List.set_cons_succ])
    refine wpAnyH_take (i := 8) (oi := ({ dst := some 13, op := Go.Op.move (Go.Operand.tmp 12), type := 4, pos := "link.go:59", after := #[{ on := 7, ground := Go.Ground.data }, { on := 7, ground := Go.Ground.chain }], guard := none } : Oper)) (v := ?_) rfl (by kernel_rfl) (by kernel_rfl) (by kernel_rfl) (fun _ _ _ h => h) (Or.inl ⟨by rfl, ?_⟩) (by assumption) ?_
    rotate_left
    focus (intro w' hSw; (try dsimp only at hSw); go_split_ands; go_simp; try with_reducible rfl)
    (try simp only [Act.put, List.setIfInBounds_toArray, List.set_cons_zero, List.set_cons_succ])
    refine wpAnyH_take (i := 9) (oi := ({ dst := some 14, op := Go.Op.load 25 (Go.Operand.tmp 1), type := 25, pos := "link.go:59", after := #[{ on := 8, ground := Go.Ground.guard }], guard := some (8, false) } : Oper)) (v := ?_) rfl (by kernel_rfl) (by kernel_rfl) (by kernel_rfl) (fun _ _ _ h => h) (Or.inl ⟨by rfl, ?_⟩) (by assumption) ?_
    rotate_left
    focus (intro w' hSw; (try dsimp only at hSw); go_split_ands; go_simp; try with_reducible rfl)
    (try simp only [Act.put, List.setIfInBounds_toArray, List.set_cons_zero, List.set_cons_succ])
    refine wpAnyH_take (i := 10) (oi := ({ dst := some 15, op := Go.Op.move (Go.Operand.tmp 0), type := 117, pos := "link.go:59", after := #[{ on := 8, ground := Go.Ground.guard }], guard := some (8, false) } : Oper)) (v := ?_) rfl (by kernel_rfl) (by kernel_rfl) (by kernel_rfl) (fun _ _ _ h => h) (Or.inl ⟨by rfl, ?_⟩) (by assumption) ?_
    rotate_left
    focus (intro w' hSw; (try dsimp only at hSw); go_split_ands; go_simp; try with_reducible rfl)
    (try simp only [Act.put, List.setIfInBounds_toArray, List.set_cons_zero, List.set_cons_succ])
    refine wpAnyH_take (i := 11) (oi := ({ dst := some 16, op := Go.Op.nilCheck (Go.Operand.tmp 15), type := 0, pos := "link.go:59", after := #[{ on := 10, ground := Go.Ground.data }, { on := 8, ground := Go.Ground.guard }], guard := some (8, false) } : Oper)) (v := ?_) rfl (by kernel_rfl) (by kernel_rfl) (by kernel_rfl) (fun _ _ _ h => h) (Or.inl ⟨by rfl, ?_⟩) (by assumption) ?_
    rotate_left
    focus (intro w' hSw; (try dsimp only at hSw); go_split_ands; go_simp; try with_reducible rfl)
    (try simp only [Act.put, List.setIfInBounds_toArray, List.set_cons_zero, List.set_cons_succ])
    refine wpAnyH_take (i := 12) (oi := ({ dst := some 17, op := Go.Op.fieldAddr 41 (Go.Operand.tmp 16) 0, type := 0, pos := "link.go:59", after := #[{ on := 11, ground := Go.Ground.data }, { on := 8, ground := Go.Ground.guard }], guard := some (8, false) } : Oper)) (v := ?_) rfl (by kernel_rfl) (by kernel_rfl) (by kernel_rfl) (fun _ _ _ h => h) (Or.inl ⟨by rfl, ?_⟩) (by assumption) ?_
    rotate_left
    focus (intro w' hSw; (try dsimp only at hSw); go_split_ands; go_simp; try with_reducible rfl)
    (try simp only [Act.put, List.setIfInBounds_toArray, List.set_cons_zero, List.set_cons_succ])
    refine wpAnyH_take (i := 13) (oi := ({ dst := some 18, op := Go.Op.load 9 (Go.Operand.tmp 17), type := 9, pos := "link.go:59", after := #[{ on := 12, ground := Go.Ground.data }, { on := 8, ground := Go.Ground.guard }], guard := some (8, false) } : Oper)) (v := ?_) rfl (by kernel_rfl) (by kernel_rfl) (by kernel_rfl) (fun _ _ _ h => h) (Or.inl ⟨by rfl, ?_⟩) (by assumption) ?_
    rotate_left
    focus (intro w' hSw; (try dsimp only at hSw); go_split_ands; go_simp; try with_reducible rfl)
    (try simp only [Act.put, List.setIfInBounds_toArray, List.set_cons_zero, List.set_cons_succ])
    refine wpAnyH_take (i := 15) (oi := ({ dst := some 20, op := Go.Op.load 9 (Go.Operand.tmp 2), type := 9, pos := "link.go:59", after := #[{ on := 8, ground := Go.Ground.guard }], guard := some (8, false) } : Oper)) (v := ?_) rfl (by kernel_rfl) (by kernel_rfl) (by kernel_rfl) (fun _ _ _ h => h) (Or.inl ⟨by rfl, ?_⟩) (by assumption) ?_
    rotate_left
    focus (intro w' hSw; (try dsimp only at hSw); go_split_ands; go_simp; try with_reducible rfl)
    (try simp only [Act.put, List.setIfInBounds_toArray, List.set_cons_zero, List.set_cons_succ])
    refine wpAnyH_ready (rs := [14]) (by kernel_rfl) (by simp) ?_
    refine AllReadyH.cons (o := ({ dst := some 19, op := Go.Op.call { callee := Go.Callee.value (Go.Operand.func 97), args := #[Go.Operand.tmp 14, Go.Operand.tmp 18], argTypes := #[25, 9] }, type := 32, pos := "link.go:59", after := #[{ on := 9, ground := Go.Ground.data }, { on := 13, ground := Go.Ground.data }, { on := 8, ground := Go.Ground.chain }, { on := 8, ground := Go.Ground.guard }], guard := some (8, false) } : Oper)) rfl (fun K hK => ?_) AllReadyH.nil
    go_simp
    go_at_call 97; (with_reducible refine (HIF.out _ k3).mono ?_); rintro e w6 ⟨v6, rfl, o6, i6, n6, c6⟩; have k6 := k3.trans c6; have s6 := HS.out w6 k6; have hcd := HC2.out w6 v6 o6.sl; obtain ⟨a6, d6, rfl⟩ := o6.form
    refine hK.out _ _ ?_ (fun hHeld => ?_)
    exact s6
    clear hK K
    (try simp only [Act.put, List.setIfInBounds_toArray, List.set_cons_zero, List.set_cons_succ])
    refine wpAnyH_ready (rs := [16]) (by kernel_rfl) (by simp) ?_
    refine AllReadyH.cons (o := ({ dst := some 21, op := Go.Op.call { callee := Go.Callee.value (Go.Operand.func 100), args := #[Go.Operand.tmp 19, Go.Operand.tmp 20], argTypes := #[32, 9] }, type := 4, pos := "link.go:59", after := #[{ on := 14, ground := Go.Ground.data }, { on := 15, ground := Go.Ground.data }, { on := 14, ground := Go.Ground.chain }, { on := 8, ground := Go.Ground.guard }], guard := some (8, false) } : Oper)) rfl (fun K hK => ?_) AllReadyH.nil
    go_simp
    go_at_call 100; (with_reducible refine hcd.mono ?_); clear hcd; rintro e w' ⟨rfl, hw⟩; have hw := hw.symm; subst hw
    refine hK.out _ _ ?_ (fun hHeld => ?_)
    exact s6
    clear hK K
    (try simp only [Act.put, List.setIfInBounds_toArray, List.set_cons_zero, List.set_cons_succ])
    refine wpAnyH_take (i := 17) (oi := ({ dst := some 22, op := Go.Op.pick (Go.Operand.tmp 13) (Go.Operand.const (Go.Value.bool true)) (Go.Operand.tmp 21), type := 4, pos := "link.go:59", after := #[{ on := 8, ground := Go.Ground.data }, { on := 16, ground := Go.Ground.data }], guard := none } : Oper)) (v := ?_) rfl (by kernel_rfl) (by kernel_rfl) (by kernel_rfl) (fun _ _ _ h => h) (Or.inl ⟨by rfl, ?_⟩) (by assumption) ?_
    rotate_left
    focus (intro w' hSw; (try dsimp only at hSw); go_split_ands; go_simp; try with_reducible rfl)
    (try simp only [Act.put, List.setIfInBounds_toArray, List.set_cons_zero, List.set_cons_succ])
    refine wpAnyH_take (i := 18) (oi := ({ dst := some 4, op := Go.Op.assign (Go.Operand.tmp 22), type := 4, pos := "link.go:59", after := #[{ on := 17, ground := Go.Ground.data }, { on := 16, ground := Go.Ground.chain }, { on := 0, ground := Go.Ground.phase }, { on := 1, ground := Go.Ground.phase }, { on := 2, ground := Go.Ground.phase }, { on := 3, ground := Go.Ground.phase }, { on := 4, ground := Go.Ground.phase }, { on := 5, ground := Go.Ground.phase }, { on := 6, ground := Go.Ground.phase }, { on := 7, ground := Go.Ground.phase }, { on := 8, ground := Go.Ground.phase }, { on := 9, ground := Go.Ground.phase }, { on := 10, ground := Go.Ground.phase }, { on := 11, ground := Go.Ground.phase }, { on := 12, ground := Go.Ground.phase }, { on := 13, ground := Go.Ground.phase }, { on := 14, ground := Go.Ground.phase }, { on := 15, ground := Go.Ground.phase }, { on := 16, ground := Go.Ground.phase }, { on := 17, ground := Go.Ground.phase }], guard := none } : Oper)) (v := ?_) rfl (by kernel_rfl) (by kernel_rfl) (by kernel_rfl) (fun _ _ _ h => h) (Or.inl ⟨by rfl, ?_⟩) (by assumption) ?_
    rotate_left
    focus (intro w' hSw; (try dsimp only at hSw); go_split_ands; go_simp; try with_reducible rfl)
    (try simp only [Act.put, List.setIfInBounds_toArray, List.set_cons_zero, List.set_cons_succ])
    refine wpAnyH_done (by kernel_rfl) ?_ _
    go_wp2_with fail
    go_ret
    exact ⟨rfl, k6⟩
theorem subs_any (n : ByteArray) (P : List Cls) (g b : Nat) (w : World) (h : Pm w g b P) (hI : imIn P) :
    Calls Tryz.prog 35 #[.pointer (some ⟨g, 0, none⟩), .string n] w fun e w' => ∃ v, e = .returned v ∧ Ow 1 9 RS w.heap.size w' v (subsE P n) ∧ Ch w w' := by
  have B1 := Bo.new (Ch.refl w) #[.pointer (some ⟨g, 0, none⟩)] 25
  have B2 := Bo.new B1.ch #[.string n] 9
  have B1 := B1.call ((Ch.refl _).alloc (.cells #[.string n] 9))
  have e1 : (w.alloc (.cells #[.pointer (some ⟨g, 0, none⟩)] 25)).heap.size = w.heap.size + 1 := by simp
  rw [e1] at B2
  clear e1
  have hm := namesOf_two w.heap.size (w.heap.size + 1) (fun x => upB P x.n n) P g b _ (h.keep B2.ch) (fun w' k i x hx => subC_any i x n _ _ P g b w' (h.keep (B2.ch.trans k)) hI hx ((B1.call k).c 0 rfl) ((B2.call k).c 0 rfl))
  have q0 := B1.c 0 rfl
  unfold subsE
  clear h hI B1
  go_enter Tryz.func35, Tryz.ntmps35
  go_wp2_with (first
    | (go_at_call 84; (with_reducible refine hm.mono ?_); clear hm; rintro e w2 ⟨v2, rfl, o2, c2⟩)
    | fail)
  go_ret
  exact ⟨_, rfl, o2.base B2.ch.size, B2.ch.trans c2⟩

set_option maxHeartbeats 2000000 in
theorem inS_any (xs : List ByteArray) (s : ByteArray) (v : Value) (w : World) (hx : Sl 1 RS w v xs) :
    Calls Tryz.prog 110 #[v, .string s] w fun e w' => e = .returned (.int .i64 (idI (fun x => nq x s) xs)) ∧ w' = w := by
  obtain ⟨ax, cx, rfl, hx1, hx2⟩ := hx.form
  obtain ⟨r, hr⟩ : ∃ r, idI (fun x => nq x s) xs = r := ⟨_, rfl⟩
  rw [hr]
  go_enter Tryz.func110, Tryz.ntmps110
  go_wp2
  go_loop [5] (fun i => ∃ k : Nat, k ≤ xs.length ∧ i = .int .i64 k ∧ idJ (fun x => nq x s) k (xs.drop k) = r) (fun i => xs.length - (intOf i).toNat)
  case atStart => exact ⟨0, Nat.zero_le _, rfl, hr⟩
  case round =>
    obtain ⟨k, hk, rfl, hd⟩ := hrel
    by_cases hlt : k < xs.length
    · obtain ⟨x, hxk⟩ : ∃ a, xs[k]? = some a := ⟨_, List.getElem?_eq_getElem hlt⟩
      obtain ⟨b, off, hao, d0⟩ := hx.atS hxk
      rw [idJ_step _ hxk] at hd
      have HD : Hid ((if nq x s then (k : Int) else idJ (fun x => nq x s) (k + 1) (xs.drop (k + 1))) = r) := hd
      clear hd hxk hr
      subst hao
      obtain ⟨q, hq⟩ : ∃ q, (x.toList == s.toList) = q := ⟨_, rfl⟩
      have HQ : Hid (nq x s = q) := (toList_nq x s).symm.trans hq
      cases q
      · go_wp2
        go_round
        case rel => exact ⟨k + 1, by omega, by go_num, by have e := HD.out; rw [HQ.out] at e; simpa using e⟩
        case measure => simp [intOf]; omega
      · go_wp2
        go_ret
        have e := HD.out
        rw [HQ.out, if_pos rfl] at e
        exact ⟨congrArg (fun b => Ending.returned (.int .i64 b)) e, rfl⟩
    · obtain rfl : k = xs.length := by omega
      rw [List.drop_length] at hd
      subst hd
      clear hr
      go_wp2
      go_ret
      exact ⟨rfl, rfl⟩
theorem has_any (l : List ByteArray) (n : ByteArray) (v : Value) (w : World) (hv : Sl 1 RS w v l) :
    Calls Tryz.prog 39 #[v, .string n] w fun e w' => e = .returned (.bool (hasN l n)) ∧ w' = w := by
  have hi := inS_any l n v w hv
  have e : hasN l n = l.any fun x => nq x n := rfl
  rw [e, ← idI_any]
  obtain ⟨ao, c, rfl, _, _⟩ := hv.form
  clear hv e
  generalize idI (fun x => nq x n) l = r at *
  go_enter Tryz.func39, Tryz.ntmps39
  go_wp2_with (first
    | (go_at_call 110; (with_reducible refine hi.mono ?_); clear hi; rintro e w3 ⟨rfl, hw⟩; have hw := hw.symm; subst hw)
    | fail)
  go_ret
  exact ⟨rfl, rfl⟩
end Go.Proofs.YthmepecmeambmaaGreat
namespace Go.Proofs.YthmepecmeambmaaGreat
open Go.RowKit
set_option linter.unusedVariables false

/-- What holds of a program. -/
structure Gd (P : List Cls) : Prop where
  nd : (nms P).Nodup
  giv : ∀ c ∈ given, lk P c.n = some c
  emp : lk P nNone = none
  each : ∀ c ∈ P, c ∈ given ∨ ∀ r, r < 8 → keeps P c r = true
  im : imIn P
theorem name_no : isName [] = false := by decide +kernel
theorem chk_name {c : Cls} (h : chkE c = 0) : c.n ≠ nNone := fun e => by
  unfold chkE orL at h
  have h0 : hdE c = 6 := by
    unfold hdE
    have : bl c.n = [] := by rw [e]; rfl
    rw [this, name_no]
    rfl
  rw [h0] at h
  simp at h
theorem prog_gd {l : List Cls} (hT : okCs l) (hk : (l.find? fun c => chkE c != 0) = none) (hb : brkR (prog l) l [0, 1, 2, 3, 4, 5, 6, 7] = none) : Gd (prog l) := by
  have hall : ∀ r, r < 8 → brk (prog l) l r = none := fun r hr => by
    unfold brkR at hb
    rw [List.findSome?_eq_none_iff] at hb
    exact hb r (by match r, hr with
      | 0, _ => simp
      | 1, _ => simp
      | 2, _ => simp
      | 3, _ => simp
      | 4, _ => simp
      | 5, _ => simp
      | 6, _ => simp
      | 7, _ => simp)
  have hnd := nodup_of (prog_perm l) (hall 0 (by omega))
  refine ⟨hnd, fun c hc => lk_of hnd ((prog_perm l).mem_iff.2 (List.mem_append_left _ hc)), ?_, fun c hc => ?_, imIn_of (prog_perm l) (hall 2 (by omega)) hT⟩
  · refine lk_none.2 fun hm => ?_
    obtain ⟨c, hc, hcn⟩ := List.mem_map.1 hm
    rcases List.mem_append.1 ((prog_perm l).mem_iff.1 hc) with h | h
    · have h2 : (given.all fun c => !nq c.n nNone) = true := by decide +kernel
      have := List.all_eq_true.1 h2 c h
      rw [nq_iff.2 hcn] at this
      cases this
    · rw [List.find?_eq_none] at hk
      have := hk c h
      exact chk_name (by simpa using this) hcn
  · rcases List.mem_append.1 ((prog_perm l).mem_iff.1 hc) with h | h
    · exact Or.inl h
    · exact Or.inr fun r hr => brk_none.1 (hall r hr) c h
/-- What link answers: none, and not 0; or the program, which holds. -/
theorem link_two (l : List Cls) (hT : okCs l) : (∃ e n, link l = (none, e, n) ∧ e ≠ 0) ∨ (link l = (some (prog l), 0, nNone) ∧ Gd (prog l)) := by
  unfold link
  by_cases h1 : 30 < l.length
  · rw [if_pos h1]; exact Or.inl ⟨_, _, rfl, by decide⟩
  · rw [if_neg h1]
    cases h2 : (l.find? fun c => chkE c != 0) with
    | some c =>
      refine Or.inl ⟨_, _, rfl, ?_⟩
      have := List.find?_some h2
      simpa using this
    | none =>
      cases h3 : brkR (prog l) l [0, 1, 2, 3, 4, 5, 6, 7] with
      | some c => exact Or.inl ⟨_, _, rfl, by decide⟩
      | none => exact Or.inr ⟨rfl, prog_gd hT h2 h3⟩

/-- How far a given class is from Object. -/
def rk (n : ByteArray) : Nat := if nq n nObject then 0 else if nq n nThrow || (nq n nTask || nq n nSys) then 1 else 2
theorem given_up {c : Cls} (hc : c ∈ given) : (c.s = nNone ∧ c.n = nObject) ∨ ∃ d ∈ given, d.n = c.s ∧ rk d.n < rk c.n := by
  have h : (given.all fun c => (nq c.s nNone && nq c.n nObject) || given.any fun d => nq d.n c.s && decide (rk d.n < rk c.n)) = true := by decide +kernel
  have := List.all_eq_true.1 h c hc
  rw [Bool.or_eq_true] at this
  rcases this with h | h
  · rw [Bool.and_eq_true] at h
    exact Or.inl ⟨nq_iff.1 h.1, nq_iff.1 h.2⟩
  · obtain ⟨d, hd, h⟩ := List.any_eq_true.1 h
    rw [Bool.and_eq_true] at h
    exact Or.inr ⟨d, hd, nq_iff.1 h.1, by simpa using h.2⟩
theorem given_if {c : Cls} (hc : c ∈ given) (h : c.it = true) : c.ab = true := by
  have h2 : (given.all fun c => !c.it || c.ab) = true := by decide +kernel
  have := List.all_eq_true.1 h2 c hc
  rw [h] at this
  simpa using this

/-- From a, by way of these, to b. -/
def pth (L : ByteArray → Option Cls) : ByteArray → List ByteArray → ByteArray → Prop
  | a, [], b => a = b
  | a, x :: r, b => x = a ∧ ∃ c, L a = some c ∧ pth L c.s r b
theorem pth_snoc {L : ByteArray → Option Cls} {n : ByteArray} {c : Cls} (h : L n = some c) : ∀ {way : List ByteArray} {a : ByteArray}, pth L a way n → pth L a (way ++ [n]) c.s
  | [], a, h1 => by
    have h1 : a = n := h1
    subst h1
    exact ⟨rfl, c, h, rfl⟩
  | x :: r, a, ⟨e, d, h1, h2⟩ => ⟨e, d, h1, pth_snoc h h2⟩
theorem pth_from {L : ByteArray → Option Cls} {n b : ByteArray} {q : List ByteArray} : ∀ {p : List ByteArray} {a : ByteArray}, pth L a (p ++ n :: q) b → pth L n (n :: q) b
  | [], a, ⟨e, d, h1, h2⟩ => by subst e; exact ⟨rfl, d, h1, h2⟩
  | x :: r, a, ⟨e, d, h1, h2⟩ => pth_from (p := r) h2
theorem pth_mem {L : ByteArray → Option Cls} {b : ByteArray} : ∀ {way : List ByteArray} {a : ByteArray}, pth L a way b → ∀ y ∈ way, ∃ c, L y = some c
  | [], a, h, y, hy => by cases hy
  | x :: r, a, ⟨e, d, h1, h2⟩, y, hy => by
    rcases List.mem_cons.1 hy with rfl | hy
    · subst e; exact ⟨d, h1⟩
    · exact pth_mem h2 y hy
theorem pth_last {L : ByteArray → Option Cls} {b : ByteArray} : ∀ {way : List ByteArray} {a : ByteArray}, pth L a way b → way ≠ [] → ∃ z c, way.getLast? = some z ∧ L z = some c ∧ c.s = b
  | [], a, h, hn => absurd rfl hn
  | [x], a, ⟨e, d, h1, h2⟩, hn => by subst e; exact ⟨x, d, rfl, h1, h2⟩
  | x :: y :: r, a, ⟨e, d, h1, h2⟩, hn => by
    obtain ⟨z, c, h3, h4⟩ := pth_last (way := y :: r) h2 (by simp)
    exact ⟨z, c, by rw [List.getLast?_cons_cons]; exact h3, h4⟩
theorem wk_spec {L : ByteArray → Option Cls} : ∀ (f : Nat) (n : ByteArray) (way : List ByteArray) (a : ByteArray), pth L a way n → way.Nodup →
    (∃ e, (wk L f n way).2 = none ∧ pth L a (wk L f n way).1 e ∧ (wk L f n way).1.Nodup ∧ (L e = none ∨ (wk L f n way).1.length = way.length + f)) ∨ ∃ m q, (wk L f n way).2 = some m ∧ pth L m (m :: q) m ∧ (m :: q).Nodup
  | 0, n, way, a, h, hn => Or.inl ⟨n, rfl, h, hn, Or.inr rfl⟩
  | f + 1, n, way, a, h, hn => by
    cases hL : L n with
    | none => rw [wk_no hL]; exact Or.inl ⟨n, rfl, h, hn, Or.inl hL⟩
    | some c =>
      cases hh : hasN way n with
      | true =>
        rw [wk_ring hL hh]
        obtain ⟨p, q, e⟩ := List.append_of_mem (hasN_iff.1 hh)
        subst e
        exact Or.inr ⟨n, q, rfl, pth_from h, (List.nodup_append.1 hn).2.1⟩
      | false =>
        rw [wk_on hL hh]
        have hn2 : (way ++ [n]).Nodup := List.nodup_append.2 ⟨hn, by simp, fun y hy z hz e => by rw [List.mem_singleton] at hz; subst e; subst hz; exact hasN_no.1 hh hy⟩
        rcases wk_spec f c.s (way ++ [n]) a (pth_snoc hL h) hn2 with ⟨e, h1, h2, h3, h4⟩ | h
        · refine Or.inl ⟨e, h1, h2, h3, h4.imp id fun h4 => ?_⟩
          rw [h4]
          simp
          omega
        · exact Or.inr h
/-- Who lies on a ring is met again from there. -/
theorem ring_self {L : ByteArray → Option Cls} {m : ByteArray} {q : List ByteArray} (hq : (m :: q).Nodup) {c0 : Cls} (hm : L m = some c0) : ∀ (rest : List ByteArray) (f : Nat) (cur : ByteArray) (way : List ByteArray),
    pth L cur rest m → way ++ rest = m :: q → rest.length < f → (rest = [] → way ≠ []) → (wk L f cur way).2 = some m
  | [], 0, _, _, _, _, hf, _ => by simp at hf
  | [], f + 1, cur, way, h, e, hf, hw => by
    have h : cur = m := h
    subst h
    rw [List.append_nil] at e
    subst e
    rw [wk_ring hm (hasN_iff.2 (by simp))]
  | x :: r, 0, _, _, _, _, hf, _ => by simp at hf
  | x :: r, f + 1, cur, way, ⟨e1, c, h1, h2⟩, e, hf, hw => by
    subst e1
    have hn : hasN way x = false := hasN_no.2 fun hy => by
      rw [← e] at hq
      exact (List.nodup_append.1 hq).2.2 x hy x (by simp) rfl
    rw [wk_on h1 hn]
    exact ring_self hq hm r f c.s (way ++ [x]) h2 (by rw [← e]; simp) (by simp at hf; omega) (by simp)

theorem pth_given {P : List Cls} (g : Gd P) {b : ByteArray} : ∀ (r : List ByteArray) (c : Cls), c ∈ given → ∀ x, pth (lk P) c.n (x :: r) b → b = nNone ∨ rk b < rk c.n
  | r, c, hc, x, ⟨e, d, h1, h2⟩ => by
    rw [g.giv c hc] at h1
    cases h1
    rcases given_up hc with ⟨h, _⟩ | ⟨d, hd, h3, h4⟩
    · rw [h] at h2
      cases r with
      | nil => exact Or.inl (Eq.symm h2)
      | cons y r =>
        obtain ⟨_, d, h5, _⟩ := h2
        rw [g.emp] at h5
        cases h5
    · cases r with
      | nil =>
        have h2 : c.s = b := h2
        rw [← h2, ← h3]
        exact Or.inr h4
      | cons y r =>
        rw [← h3] at h2
        rcases pth_given g r d hd y h2 with h | h
        · exact Or.inl h
        · exact Or.inr (by omega)
theorem nms_lk {P : List Cls} {m : ByteArray} {c : Cls} (h : lk P m = some c) : m ∈ nms P := by
  obtain ⟨h1, h2⟩ := lk_some h
  rw [← h2]
  exact List.mem_map_of_mem h1
theorem way_le {P : List Cls} {way : List ByteArray} {a b : ByteArray} (h : pth (lk P) a way b) (hn : way.Nodup) : way.length ≤ P.length := by
  have := nodup_le hn fun y hy => by
    obtain ⟨c, hc⟩ := pth_mem h y hy
    exact nms_lk hc
  simpa [nms] using this
theorem walk_none {P : List Cls} (g : Gd P) (n : ByteArray) : ∃ e, (walkN P n).2 = none ∧ pth (lk P) n (walkN P n).1 e ∧ (walkN P n).1.Nodup ∧ lk P e = none := by
  unfold walkN
  rcases wk_spec (L := lk P) (P.length + 1) n [] n rfl List.nodup_nil with ⟨e, h1, h2, h3, h4⟩ | ⟨m, q, h1, h2, h3⟩
  · refine ⟨e, h1, h2, h3, h4.elim id fun h4 => ?_⟩
    have := way_le h2 h3
    rw [h4] at this
    simp at this
    omega
  · exfalso
    obtain ⟨_, c, hc, _⟩ := id h2
    have hlen := way_le h2 h3
    have hr : (walkN P m).2 = some m := ring_self h3 hc (m :: q) (P.length + 1) m [] h2 rfl (by omega) (by simp)
    obtain ⟨hcP, hcn⟩ := lk_some hc
    rcases g.each c hcP with hg | hk
    · rw [← hcn] at h2
      rcases pth_given g q c hg _ h2 with h | h
      · rw [hcn] at h
        rw [h, g.emp] at hc
        cases hc
      · omega
    · have h3 : k3 P c = true := hk 3 (by omega)
      rw [k3_eq, hcn, hr] at h3
      unfold notN at h3
      dsimp only at h3
      rw [nq_self] at h3
      simp at h3
theorem walk_up {P : List Cls} (g : Gd P) {x : Cls} (hx : x ∈ P) : ∃ q, (walkN P x.n).1 = x.n :: q ∧ (walkN P x.n).1.getLast? = some nObject := by
  obtain ⟨e, h1, h2, h3, h4⟩ := walk_none g x.n
  have hl : lk P x.n = some x := lk_of g.nd hx
  generalize (walkN P x.n).1 = way at *
  have hne : way ≠ [] := fun e0 => by
    subst e0
    have h2 : x.n = e := h2
    rw [← h2, hl] at h4
    cases h4
  obtain ⟨z, c, h5, h6, h7⟩ := pth_last h2 hne
  subst h7
  obtain ⟨hcP, hcn⟩ := lk_some h6
  have hz : z = nObject := by
    have hO : ∀ c ∈ given, lk P c.n ≠ none := fun c hc e => by rw [g.giv c hc] at e; cases e
    rcases g.each c hcP with hg | hk
    · rcases given_up hg with ⟨_, h⟩ | ⟨d, hd, h8, _⟩
      · rw [← hcn]; exact h
      · rw [← h8] at h4
        exact absurd h4 (hO d hd)
    · exfalso
      have h8 : k1 P c = true := hk 1 (by omega)
      unfold k1 at h8
      split at h8
      · rw [nq_iff.1 h8] at h4
        exact hO (initC nObject nNone) (by unfold given; simp) h4
      · rw [h4] at h8
        cases h8
  subst hz
  cases way with
  | nil => exact absurd rfl hne
  | cons y q =>
    obtain ⟨e1, _⟩ := h2
    subst e1
    exact ⟨q, rfl, h5⟩

/-- What is among a class's interfaces is one. -/
theorem im_if {P : List Cls} (g : Gd P) (n : ByteArray) : ∀ s ∈ imOf (lk P) n, isIf P s = true := fun s hs => by
  unfold imOf at hs
  cases h : lk P n with
  | none => rw [h] at hs; cases hs
  | some c =>
    rw [h] at hs
    dsimp only at hs
    obtain ⟨hcP, _⟩ := lk_some h
    rcases g.each c hcP with hg | hk
    · rw [given_im c hg] at hs; cases hs
    · have h2 : k2 P c = true := hk 2 (by omega)
      unfold k2 at h2
      rw [Bool.and_eq_true] at h2
      exact List.all_eq_true.1 h2.1 s hs
theorem addW_if {P : List Cls} (g : Gd P) : ∀ (k l : List ByteArray), (∀ s ∈ l, isIf P s = true) → ∀ s ∈ addW (lk P) l k, isIf P s = true
  | [], l, h => h
  | n :: r, l, h => addW_if g r _ fun s hs => (addI_mem.1 hs).elim (h s) (im_if g n s)
theorem ifl_if {P : List Cls} (g : Gd P) : ∀ (f k : Nat) (l : List ByteArray), (∀ s ∈ l, isIf P s = true) → ∀ s ∈ ifl (lk P) f k l, isIf P s = true
  | 0, k, l, h => h
  | f + 1, k, l, h => by
    rw [ifl]
    cases hk : l[k]? with
    | none => exact h
    | some m => exact ifl_if g f (k + 1) _ fun s hs => (addI_mem.1 hs).elim (h s) (im_if g m s)
theorem ifs_if {P : List Cls} (g : Gd P) (n : ByteArray) : ∀ s ∈ ifs P n, isIf P s = true := ifl_if g _ _ _ (addW_if g _ _ (fun s hs => by cases hs))
theorem ifc_mem {P : List Cls} {n s : ByteArray} : s ∈ ifcE P n ↔ s ∈ ifs P n ∨ (s = n ∧ isIf P n = true) := by
  unfold ifcE
  rw [(srtS_perm _).mem_iff, List.mem_append]
  cases isIf P n <;> simp
/-- What is above a class. -/
theorem abv_in {P : List Cls} (g : Gd P) {x : Cls} (hx : x ∈ P) {m : ByteArray} (hm : m ∈ (walkN P x.n).1 ++ ifcE P x.n) : upB P x.n m = true ∧ x.n ∈ subsE P m ∧ (∃ c, lk P m = some c) ∧ (m ∈ ifcE P x.n → isIf P m = true) := by
  obtain ⟨q, hq, _⟩ := walk_up g hx
  obtain ⟨e, _, h2, _, _⟩ := walk_none g x.n
  have hup : upB P x.n m = true := by
    unfold upB
    rw [Bool.or_eq_true, hasN_iff, hasN_iff]
    rcases List.mem_append.1 hm with h | h
    · exact Or.inl h
    · rcases ifc_mem.1 h with h | ⟨rfl, _⟩
      · exact Or.inr h
      · exact Or.inl (by rw [hq]; simp)
  have hif : m ∈ ifcE P x.n → isIf P m = true := fun h => by
    rcases ifc_mem.1 h with h2 | ⟨h1, h2⟩
    · exact ifs_if g x.n m h2
    · rw [h1]; exact h2
  refine ⟨hup, List.mem_map.2 ⟨x, List.mem_filter.2 ⟨hx, hup⟩, rfl⟩, ?_, hif⟩
  rcases List.mem_append.1 hm with h | h
  · exact pth_mem h2 m h
  · have := hif h
    unfold isIf at this
    cases hl : lk P m with
    | none => rw [hl] at this; cases this
    | some c => exact ⟨c, rfl⟩
theorem conc_ab {P : List Cls} (g : Gd P) {x : Cls} (hx : x ∈ P) : (conc P x.n == x.ab) = false := by
  unfold conc
  rw [lk_of g.nd hx]
  dsimp only
  have h : x.it = true → x.ab = true := fun hi => by
    rcases g.each x hx with hg | hk
    · exact given_if hg hi
    · have h5 : k5 x = true := hk 5 (by omega)
      unfold k5 at h5
      rw [hi] at h5
      simp at h5
      exact h5.1
  cases hi : x.it <;> cases ha : x.ab <;> simp_all
end Go.Proofs.YthmepecmeambmaaGreat
