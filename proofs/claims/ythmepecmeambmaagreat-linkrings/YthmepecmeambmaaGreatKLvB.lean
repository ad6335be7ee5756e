/- LinkRings: rings of classes and of interfaces, by evaluation; the law's own function for a name. -/
/- LinkRings, walked. -/
import Derived.Test.YthmepecmeambmaaGreatKLuA
namespace Go.Proofs.YthmepecmeambmaaGreat
open Go.RowKit
set_option linter.unusedVariables false

def ringC : Bool → Nat → Nat → Cls
  | true, m, k => ⟨nameK k, nObject, true, true, [nameK ((k + 1) % m)], [], []⟩
  | false, m, k => ⟨nameK k, nameK ((k + 1) % m), false, false, [], [], []⟩
def ring (f : Bool) (m n : Nat) : List Cls := (List.range n).map (ringC f m)
def lastC (f : Bool) (m : Nat) : Cls := ⟨nameK (m - 1), nObject, f, f, [], [], []⟩
def ringO (f : Bool) (m : Nat) : List Cls := ring f m (m - 1) ++ [lastC f m]
theorem ring_len (f : Bool) (m n : Nat) : (ring f m n).length = n := by simp [ring]
theorem ring_succ (f : Bool) (m n : Nat) : ring f m (n + 1) = ring f m n ++ [ringC f m n] := by simp [ring, List.range_succ]
theorem ringO_len (f : Bool) {m : Nat} (h : 1 ≤ m) : (ringO f m).length = m := by simp [ringO, ring_len]; omega
def ringB (f : Bool) (m : Nat) : Bool :=
  (!(link (ring f m m)).1.isSome && (link (ring f m m)).2.1 == 8 && !(link (ring f m m)).2.2.toList.isEmpty) &&
  ((link (ringO f m)).1.isSome && (prog (ringO f m)).all (fun c => decide (c.im.length ≤ 1) && c.im.all fun s => (ixN (prog (ringO f m)) s).isSome)) &&
  ((ring f m m).all (fun c => decide (clsT c ≤ 12000)) && (ringO f m).all fun c => decide (clsT c ≤ 12000))
def ringL (m : Nat) : Bool := (ifs (prog (ringO true m)) (nameK 0) ++ if isIf (prog (ringO true m)) (nameK 0) then [nameK 0] else []).length == m && (walkN (prog (ringO false m)) (nameK 0)).1.length == m + 1
theorem ring_t : ((List.range 20).all fun m => ringB true (m + 1)) = true := by decide +kernel
theorem ring_f : ((List.range 20).all fun m => ringB false (m + 1)) = true := by decide +kernel
theorem ring_l : ((List.range 20).all fun m => ringL (m + 1)) = true := by decide +kernel
theorem nmK_any (k : Nat) (w : World) (hk : k ≤ 40) : Calls Tryz.prog 43 #[.int .i64 (k : Int)] w fun e w' => e = .returned (.string (nameK k)) ∧ Ch w w' := by
  have HD := decimal_any k w hk
  unfold nameK
  have hss : (strOfNums (decN k)).size ≤ 2 := by
    rw [str_size]; unfold decN; split <;> simp
  obtain ⟨s, hs⟩ : ∃ s, strOfNums (decN k) = s := ⟨_, rfl⟩
  rw [hs] at HD hss ⊢
  clear hs
  go_enter Tryz.func43, Tryz.ntmps43
  go_wp2_with (first
    | (go_at_call 44; (with_reducible refine HD.mono ?_); clear HD; rintro e w3 ⟨rfl, c3⟩)
    | fail)
  go_ret
  exact ⟨rfl, c3⟩
theorem ringB_all (f : Bool) {m : Nat} (h1 : 1 ≤ m) (h : m ≤ 20) : ringB f m = true := by
  obtain ⟨k, rfl⟩ : ∃ k, m = k + 1 := ⟨m - 1, by omega⟩
  cases f
  · exact List.all_eq_true.1 ring_f k (List.mem_range.2 (by omega))
  · exact List.all_eq_true.1 ring_t k (List.mem_range.2 (by omega))
theorem ring_no (f : Bool) {m : Nat} (h1 : 1 ≤ m) (h : m ≤ 20) : ∃ why, link (ring f m m) = (none, 8, why) ∧ why.toList.isEmpty = false := by
  have hb := ringB_all f h1 h
  unfold ringB at hb
  obtain ⟨hb, _⟩ := Bool.and_eq_true_iff.1 hb
  obtain ⟨hb, _⟩ := Bool.and_eq_true_iff.1 hb
  obtain ⟨hb, e3⟩ := Bool.and_eq_true_iff.1 hb
  obtain ⟨e1, e2⟩ := Bool.and_eq_true_iff.1 hb
  refine ⟨(link (ring f m m)).2.2, link_no (by simpa using e1) ?_, by simpa using e3⟩
  have e2 : (link (ring f m m)).2.1 = 8 := by simpa using e2
  exact Prod.ext e2 rfl
theorem ring_yes (f : Bool) {m : Nat} (h1 : 1 ≤ m) (h : m ≤ 20) : link (ringO f m) = (some (prog (ringO f m)), 0, nNone) ∧ imIn (prog (ringO f m)) := by
  have hb := ringB_all f h1 h
  unfold ringB at hb
  obtain ⟨hb, _⟩ := Bool.and_eq_true_iff.1 hb
  obtain ⟨_, hb⟩ := Bool.and_eq_true_iff.1 hb
  obtain ⟨e1, e2⟩ := Bool.and_eq_true_iff.1 hb
  refine ⟨link_ok e1, fun c hc => ?_⟩
  obtain ⟨e3, e4⟩ := Bool.and_eq_true_iff.1 (List.all_eq_true.1 e2 c hc)
  have e3 : c.im.length ≤ 1 := by simpa using e3
  exact ⟨by omega, fun s hs => Option.isSome_iff_exists.1 (List.all_eq_true.1 e4 s hs)⟩
theorem ring_ok (f : Bool) {m : Nat} (h1 : 1 ≤ m) (h : m ≤ 20) : okCs (ring f m m) ∧ okCs (ringO f m) := by
  have hb := ringB_all f h1 h
  unfold ringB at hb
  obtain ⟨_, hb⟩ := Bool.and_eq_true_iff.1 hb
  obtain ⟨e1, e2⟩ := Bool.and_eq_true_iff.1 hb
  exact ⟨fun c hc => by simpa using List.all_eq_true.1 e1 c hc, fun c hc => by simpa using List.all_eq_true.1 e2 c hc⟩
theorem ring_lens {m : Nat} (h1 : 1 ≤ m) (h : m ≤ 20) : (ifcE (prog (ringO true m)) (nameK 0)).length = m ∧ (walkN (prog (ringO false m)) (nameK 0)).1.length = m + 1 := by
  obtain ⟨k, rfl⟩ : ∃ k, m = k + 1 := ⟨m - 1, by omega⟩
  have hb : ringL (k + 1) = true := List.all_eq_true.1 ring_l k (List.mem_range.2 (by omega))
  unfold ringL at hb
  obtain ⟨e1, e2⟩ := Bool.and_eq_true_iff.1 hb
  exact ⟨by unfold ifcE; rw [(srtS_perm _).length_eq]; simpa using e1, by simpa using e2⟩
end Go.Proofs.YthmepecmeambmaaGreat
namespace Go.Proofs.YthmepecmeambmaaGreat
open Go.RowKit
set_option linter.unusedVariables false

theorem Ow.one_s (w : World) (s : ByteArray) : Ow 1 9 RS w.heap.size (w.alloc (.cells #[.string s] 9)) (.slice (some ⟨w.heap.size, 0, none⟩) 1 1) [s] := by
  have := World.ownsRow_lit (base := w.heap.size) (e := 9) (size := 1) w #[.string s] 1 (Nat.le_refl _) (by decide) rfl
  refine ⟨fun _ => [.string s], fun _ => rfl, by simpa using this, fun i a h => ?_⟩
  have hi0 : i = 0 := by
    have := (List.getElem?_eq_some_iff.1 h).1
    simpa using this
  subst hi0
  cases h
  rfl

theorem RCo.toRC {B : Nat} {w : World} {cs : List Value} {c : Cls} (h : RCo B w cs c) : RC w cs c := by
  obtain ⟨vi, vf, vm, e, ho⟩ := h
  exact ⟨vi, vf, vm, e, ho.at⟩
/-- The last class of a row of one's own, laid anew. -/
theorem Oc.last {B : Nat} {w : World} {g n c k : Nat} {xs : List Cls} {m' : Cls} (h : Oc B w (.slice (some ⟨g, 0, none⟩) n c) xs) (hk : xs.length = k + 1) {cs : List Value} (hl : cs.length = 7) (hm : RCo B w cs m') :
    Sl 7 RC (w.setCells g (k * 7) cs) (.slice (some ⟨g, 0, none⟩) n c) (xs.take k ++ [m']) ∧ Tg g w (w.setCells g (k * 7) cs) := by
  obtain ⟨m, hmk⟩ : ∃ m, xs[k]? = some m := ⟨_, List.getElem?_eq_getElem (by omega)⟩
  obtain ⟨ao, cap, hv, hc1, hc2, _⟩ := h.rc
  obtain ⟨e1, e2, e3⟩ := Value.slice.inj hv
  obtain ⟨g1, _, eg, _, _, _, _, _, _, cur, hg, hsz⟩ := Ow.at h hmk
  have eg : g = g1 := by simpa using eg
  subst eg
  obtain ⟨t, cur', c1, c2, c3, c4⟩ := setCells_row cs (k * 7) w cur hg
  refine ⟨⟨some ⟨g, 0, none⟩, c, by rw [List.length_append, List.length_take, e2, hk, List.length_singleton, Nat.min_eq_left (by omega)], by rw [List.length_append, List.length_take, List.length_singleton, Nat.min_eq_left (by omega)]; omega, by omega, fun _ => ⟨g, 0, rfl, fun i a hi => ?_⟩⟩, t⟩
  have hlen : i < k + 1 := by
    have := (List.getElem?_eq_some_iff.1 hi).1
    rw [List.length_append, List.length_take, List.length_singleton] at this
    omega
  by_cases hik : i < k
  · have hx : xs[i]? = some a := by
      rw [List.getElem?_append_left (by rw [List.length_take]; omega), List.getElem?_take_of_lt hik] at hi
      exact hi
    obtain ⟨g2, ci, e, _, hci, hR, hcell, _⟩ := Ow.at h hx
    have e : g = g2 := by simpa using e
    subst e
    refine ⟨ci, ?_, fun j u hj => ?_⟩
    · obtain ⟨vi, vf, vm, e, ho⟩ := hR
      exact ⟨vi, vf, vm, e, (ho.tg t hg).at⟩
    · have hj7 : j < 7 := by
        have := (List.getElem?_eq_some_iff.1 hj).1
        omega
      have q := hcell j u hj
      simp only [World.cell?, hg] at q
      simp only [World.cell?, c1, Nat.zero_add]
      rw [c3 (i * 7 + j) (Or.inl (by omega))]
      simpa using q
  · obtain rfl : i = k := by omega
    have e : a = m' := by
      rw [List.getElem?_append_right (by rw [List.length_take]; omega)] at hi
      simpa [List.length_take, hk] using hi.symm
    subst e
    refine ⟨cs, ?_, fun j u hj => ?_⟩
    · obtain ⟨vi, vf, vm, e, ho⟩ := hm
      exact ⟨vi, vf, vm, e, (ho.tg t hg).at⟩
    · have hj7 : j < 7 := by
        have := (List.getElem?_eq_some_iff.1 hj).1
        omega
      simp only [World.cell?, c1, Nat.zero_add]
      rw [c4 j u hj (by omega)]
      rfl

theorem ring_take (f : Bool) {k : Nat} (h : 1 ≤ k) : (ring f k k).take (k - 1) = ring f k (k - 1) := by
  unfold ring
  rw [← List.map_take, List.take_range, Nat.min_eq_left (by omega)]

set_option maxHeartbeats 16000000 in
set_option maxRecDepth 100000 in
theorem rings_walk (n : Int) (f : Bool) (w : World) : Calls Tryz.prog 8 #[.int .i64 n, .bool f] w fun e w' => e = .returned (.bool true) ∧ Ch w w' := by
  by_cases hn : n < 1 ∨ 20 < n
  · go_enter Tryz.func8, Tryz.ntmps8
    go_wp2_with (first
      | (go_at_call 23; (with_reducible refine (awake6 _).mono ?_); rintro e w2 ⟨rfl, c2⟩)
      | fail)
    all_goals first | omega | skip
    all_goals
      go_ret
      exact ⟨rfl, c2⟩
  · obtain ⟨m, rfl⟩ : ∃ m : Nat, n = (m : Int) := ⟨n.toNat, by omega⟩
    have hm : m ≤ 20 := by omega
    have hm1 : 1 ≤ m := by omega
    have hmI : (m : Int) ≤ 20 := by omega
    have hm1I : 1 ≤ (m : Int) := by omega
    clear hn
    go_enter Tryz.func8, Tryz.ntmps8
    go_wp2_with fail
    go_loopw [6, 7] (fun v i wr => ∃ k : Nat, k ≤ m ∧ i = .int .i64 k ∧ Oc w.heap.size wr v (ring f m k) ∧ Ch w wr) (fun _ i _ => m - (intOf i).toNat)
    case atStart => exact ⟨0, Nat.zero_le _, rfl, Ow.nil, Ch.refl _⟩
    case round =>
      obtain ⟨k, hk, rfl, hO, hcr⟩ := hrel
      by_cases hlt : k < m
      · obtain ⟨ao, cc, rfl⟩ := Ow.form hO
        rw [ring_len]
        have hsz := hcr.size
        have HO : Hid (Oc w.heap.size wr (.slice ao k cc) (ring f m k)) := (show Oc w.heap.size wr (.slice ao k cc) (ring f m k) by rw [ring_len] at hO; exact hO)
        have HC : Hid (Ch w wr) := hcr
        have hmod : (k + 1) % m ≤ 40 := Nat.le_trans (Nat.le_of_lt (Nat.mod_lt _ (by omega))) (by omega)
        have HN1 : Hid (∀ w', Calls Tryz.prog 43 #[.int .i64 (k : Int)] w' fun e w2 => e = .returned (.string (nameK k)) ∧ Ch w' w2) := fun w' => nmK_any k w' (by omega)
        have HN2 : Hid (∀ w', Calls Tryz.prog 43 #[.int .i64 (((k : Int) + 1) % (m : Int))] w' fun e w2 => e = .returned (.string (nameK ((k + 1) % m))) ∧ Ch w' w2) := fun w' => by
          rw [show ((k : Int) + 1) % (m : Int) = (((k + 1) % m : Nat) : Int) from by simp]
          exact nmK_any _ w' hmod
        clear hO hcr
        have z1 := nameK_size k
        have z2 := nameK_size ((k + 1) % m)
        cases f
        · have HR : Hid (ringC false m k = ⟨nameK k, nameK ((k + 1) % m), false, false, [], [], []⟩) := rfl
          go_wp2_with (first
            | (go_at_call 43; (with_reducible refine (HN1.out _).mono ?_); rintro e w3 ⟨rfl, c3⟩)
            | (go_at_call 43; (with_reducible refine (HN2.out _).mono ?_); rintro e w4 ⟨rfl, c4⟩; have B2 := (Bo.new c3 #[.string (nameK k), .string nObject, .bool false, .bool false, .slice none 0 0, .slice none 0 0, .slice none 0 0] 41).call c4; have p1 := B2.c 1 rfl; have f1 := B2.fz 1; have B3 := B2.set 1 (.string (nameK ((k + 1) % m))); have q0 := B3.c 0 rfl; have q1 := B3.c 1 rfl; have q2 := B3.c 2 rfl; have q3 := B3.c 3 rfl; have q4 := B3.c 4 rfl; have q5 := B3.c 5 rfl; have q6 := B3.c 6 rfl; have HB3 : Hid _ := B3.ch; clear B2 B3)
            | (at_builtin; refine ((HO.out.keep HB3.out).keep ((Ch.refl _).alloc _)).append (NL := [ringC false m k]) rfl (.tmp 47) (.tmp 49) rfl rfl (fun _ => [.string (nameK k), .string (nameK ((k + 1) % m)), .bool false, .bool false, .slice none 0 0, .slice none 0 0, .slice none 0 0]) (fun i c' hi => ?_) (fun _ => rfl) _ 1 1 rfl rfl (alloc_at _ _ _ (by simp)) (by rw [ring_len]; omega) (Nat.le_trans hsz ((HB3.out.alloc _).size)) (Nat.le_refl _) ((HC.out.trans HB3.out).alloc _) ?_; (match i, hi with | 0, hi => cases hi; exact ⟨_, _, _, rfl, OwC.empty⟩); intro v6 w6 o6 c6 b6)
            | fail)
          exact ⟨⟨k + 1, by omega, by go_num, by rw [ring_succ]; exact o6, c6⟩, by simp [intOf]; omega⟩
        · have HR : Hid (ringC true m k = ⟨nameK k, nObject, true, true, [nameK ((k + 1) % m)], [], []⟩) := rfl
          go_wp2_with (first
            | (go_at_call 43; (with_reducible refine (HN1.out _).mono ?_); rintro e w3 ⟨rfl, c3⟩)
            | (go_at_call 43; (with_reducible refine (HN2.out _).mono ?_); rintro e w4 ⟨rfl, c4⟩; have B2 := ((Bo.new c3 #[.string (nameK k), .string nObject, .bool true, .bool true, .slice none 0 0, .slice none 0 0, .slice none 0 0] 41).call c4).call ((Ch.refl w4).alloc (.cells #[.string (nameK ((k + 1) % m))] 9)); have p1 := B2.c 4 rfl; have f1 := B2.fz 4; have B3 := B2.set 4 (.slice (some ⟨w4.heap.size, 0, none⟩) 1 1); have q0 := B3.c 0 rfl; have q1 := B3.c 1 rfl; have q2 := B3.c 2 rfl; have q3 := B3.c 3 rfl; have q4 := B3.c 4 rfl; have q5 := B3.c 5 rfl; have q6 := B3.c 6 rfl; have HB3 : Hid _ := B3.ch; have HO3 : Hid (Ow 1 9 RS w.heap.size ((w4.alloc (.cells #[.string (nameK ((k + 1) % m))] 9)).setCell ⟨w3.heap.size, 4, none⟩ (.slice (some ⟨w4.heap.size, 0, none⟩) 1 1)) (.slice (some ⟨w4.heap.size, 0, none⟩) 1 1) [nameK ((k + 1) % m)]) := ((Ow.one_s w4 (nameK ((k + 1) % m))).farS (g := w3.heap.size) 4 (.slice (some ⟨w4.heap.size, 0, none⟩) 1 1) B2.b (by decide)).base (((HC.out.trans c3).alloc _).trans c4).size; clear B2 B3)
            | (at_builtin; refine ((HO.out.keep HB3.out).keep ((Ch.refl _).alloc _)).append (NL := [ringC true m k]) rfl (.tmp 47) (.tmp 49) rfl rfl (fun _ => [.string (nameK k), .string nObject, .bool true, .bool true, .slice (some ⟨w4.heap.size, 0, none⟩) 1 1, .slice none 0 0, .slice none 0 0]) (fun i c' hi => ?_) (fun _ => rfl) _ 1 1 rfl rfl (alloc_at _ _ _ (by simp)) (by rw [ring_len]; omega) (Nat.le_trans hsz ((HB3.out.alloc _).size)) (Nat.le_refl _) ((HC.out.trans HB3.out).alloc _) ?_; (match i, hi with | 0, hi => cases hi; exact ⟨_, _, _, rfl, Ow.keepS HO3.out ((Ch.refl _).alloc _), Ow.nil, Ow.nil⟩); intro v6 w6 o6 c6 b6)
            | fail)
          exact ⟨⟨k + 1, by omega, by go_num, by rw [ring_succ]; exact o6, c6⟩, by simp [intOf]; omega⟩
      · obtain rfl : k = m := by omega
        obtain ⟨why, hlk, hwhy⟩ := ring_no f hm1 hm
        obtain ⟨hok1, hok2⟩ := ring_ok f hm1 hm
        have hcl := classes_any (ring f k k) _ wr hO.rc hok1
        rw [hlk] at hcl
        have hO0 := hO
        obtain ⟨ao, cc, rfl⟩ := Ow.form hO
        have hge : (ring f k k)[k - 1]? = some (ringC f k (k - 1)) := by unfold ring; rw [List.getElem?_map, List.getElem?_range (by omega)]; rfl
        obtain ⟨g0, cs, rfl, hg0, _, ⟨vi, vf, vm, rfl, ow⟩, hcell, hfz, hlt0, cur, hcur, hcs⟩ := Ow.at hO0 hge
        have hl1 : (ringC f k (k - 1)).n = nameK (k - 1) := by cases f <;> rfl
        have hl2 : (ringC f k (k - 1)).it = f := by cases f <;> rfl
        have hl3 : (ringC f k (k - 1)).ab = f := by cases f <;> rfl
        have hl4 : (ringC f k (k - 1)).fs = [] := by cases f <;> rfl
        have hl5 : (ringC f k (k - 1)).me = [] := by cases f <;> rfl
        rw [hl1, hl2, hl3] at hcell
        have owf := ow.f
        have owm := ow.m
        rw [hl4] at owf
        rw [hl5] at owm
        obtain ⟨a1, d1, rfl⟩ := Ow.form ow.i
        obtain ⟨a2, d2, rfl⟩ := Ow.form owf
        obtain ⟨a3, d3, rfl⟩ := Ow.form owm
        generalize (ringC f k (k - 1)).s = s0 at *
        generalize (ringC f k (k - 1)).im.length = n1 at *
        rw [ring_len] at hcl ⊢
        have HO : Hid (Oc w.heap.size wr (.slice (some ⟨g0, 0, none⟩) k cc) (ring f k k)) := (show Oc w.heap.size wr (.slice (some ⟨g0, 0, none⟩) k cc) (ring f k k) by rw [ring_len] at hO; exact hO)
        have HC : Hid (Ch w wr) := hcr
        have HQ : Hid (∀ w', Ch wr w' → w'.cell? ⟨g0, (k - 1) * 7, none⟩ = some (.string (nameK (k - 1))) ∧ w'.cell? ⟨g0, (k - 1) * 7 + 1, none⟩ = some (.string s0) ∧ w'.cell? ⟨g0, (k - 1) * 7 + 2, none⟩ = some (.bool f) ∧ w'.cell? ⟨g0, (k - 1) * 7 + 3, none⟩ = some (.bool f) ∧ w'.cell? ⟨g0, (k - 1) * 7 + 4, none⟩ = some (.slice a1 n1 d1) ∧ w'.cell? ⟨g0, (k - 1) * 7 + 5, none⟩ = some (.slice a2 0 d2) ∧ w'.cell? ⟨g0, (k - 1) * 7 + 6, none⟩ = some (.slice a3 0 d3)) :=
          fun w' c => ⟨cell_keep c (hcell 0 _ rfl), cell_keep c (hcell 1 _ rfl), cell_keep c (hcell 2 _ rfl), cell_keep c (hcell 3 _ rfl), cell_keep c (hcell 4 _ rfl), cell_keep c (hcell 5 _ rfl), cell_keep c (hcell 6 _ rfl)⟩
        have HOW : Hid (Ow 3 103 RF w.heap.size wr (.slice a2 0 d2) [] ∧ Ow 8 66 (RMo w.heap.size) w.heap.size wr (.slice a3 0 d3) []) := ⟨owf, owm⟩
        have HCUR : Hid (∃ cur, wr.heap[g0]? = some (.cells cur 41) ∧ k * 7 ≤ cur.size) := ⟨cur, hcur, by rw [ring_len] at hcs; exact hcs⟩
        clear hO hO0 hcr hcell hcur hcs ow owf owm hge hl1 hl2 hl3 hl4 hl5 hfz
        have HL := ring_lens hm1 hm
        obtain ⟨hy1, hy2⟩ := ring_yes f hm1 hm
        have HY : Hid (imIn (prog (ringO f k))) := hy2
        have HN0 : Hid (∀ w', Calls Tryz.prog 43 #[.int .i64 0] w' fun e w2 => e = .returned (.string (nameK 0)) ∧ Ch w' w2) := fun w' => by simpa using nmK_any 0 w' (by decide)
        have H2 : Hid (∀ w3, Ch wr w3 → Calls Tryz.prog 24 #[.slice (some ⟨g0, 0, none⟩) k cc] ((w3.alloc (.cells #[.string (nameK (k - 1)), .string ⟨#[79, 98, 106, 101, 99, 116]⟩, .bool f, .bool f, .slice none 0 0, .slice a2 0 d2, .slice a3 0 d3] 41)).setCells g0 ((k - 1) * 7) [.string (nameK (k - 1)), .string ⟨#[79, 98, 106, 101, 99, 116]⟩, .bool f, .bool f, .slice none 0 0, .slice a2 0 d2, .slice a3 0 d3]) fun e w' => ∃ g b, e = .returned (.tuple #[.pointer (some ⟨g, 0, none⟩), .int .i64 0, .string ⟨#[]⟩]) ∧ Pm w' g b (prog (ringO f k)) ∧ Ch w w') := fun w3 c3 => by
          have cW : Ch wr (w3.alloc (.cells #[.string (nameK (k - 1)), .string ⟨#[79, 98, 106, 101, 99, 116]⟩, .bool f, .bool f, .slice none 0 0, .slice a2 0 d2, .slice a3 0 d3] 41)) := c3.alloc _
          obtain ⟨hs, tg⟩ := Oc.last (HO.out.keep cW) (k := k - 1) (by rw [ring_len]; omega) (cs := [.string (nameK (k - 1)), .string ⟨#[79, 98, 106, 101, 99, 116]⟩, .bool f, .bool f, .slice none 0 0, .slice a2 0 d2, .slice a3 0 d3]) rfl (m' := lastC f k) ⟨_, _, _, rfl, Ow.nil, Ow.keepF HOW.out.1 cW, Ow.keep HOW.out.2 (fun _ _ x => x.keep cW) cW⟩
          rw [ring_take f hm1] at hs
          have h2 := classes_any (ringO f k) _ _ hs hok2
          rw [hy1] at h2
          refine h2.mono ?_
          rintro e w' ⟨v, rfl, ⟨g, b, rfl, hP⟩, c⟩
          exact ⟨g, b, rfl, hP, (tg.ch (HC.out.trans cW) hg0).trans c⟩
        have HZ : Hid (∀ w', Ch wr w' → ∀ o, w'.frozen? ⟨g0, o, none⟩ = false) := fun w' c o => by
          obtain ⟨cur, hcur, _⟩ := HCUR.out
          simp [World.frozen?, kept_at c hcur]
        clear hy1 hy2 hok1 hok2 hlk
        simp only [World.setCells, Nat.add_assoc, Nat.reduceAdd] at H2
        go_wp2_with (first
          | (go_at_call 24; (with_reducible refine hcl.mono ?_); clear hcl; rintro e w3 ⟨v3, rfl, rfl, c3⟩; obtain ⟨q0, q1, q2, q3, q4, q5, q6⟩ := HQ.out w3 c3; obtain ⟨y0, y1, y2, y3, y4, y5, y6⟩ := HQ.out (w3.alloc (.cells #[.string (nameK (k - 1)), .string ⟨#[79, 98, 106, 101, 99, 116]⟩, .bool f, .bool f, .slice none 0 0, .slice a2 0 d2, .slice a3 0 d3] 41)) (c3.alloc _); have hz := HZ.out (w3.alloc (.cells #[.string (nameK (k - 1)), .string ⟨#[79, 98, 106, 101, 99, 116]⟩, .bool f, .bool f, .slice none 0 0, .slice a2 0 d2, .slice a3 0 d3] 41)) (c3.alloc _); have z0 := hz ((k - 1) * 7); have z1 := hz ((k - 1) * 7 + 1); have z2 := hz ((k - 1) * 7 + 2); have z3 := hz ((k - 1) * 7 + 3); have z4 := hz ((k - 1) * 7 + 4); have z5 := hz ((k - 1) * 7 + 5); have z6 := hz ((k - 1) * 7 + 6); clear hz; have h2 := H2.out w3 c3)
          | (go_at_call 24; (with_reducible refine h2.mono ?_); clear h2; rintro e w4 ⟨g, b, rfl, hP, c4⟩)
          | (go_at_call 43; (with_reducible refine (HN0.out _).mono ?_); rintro e w5 ⟨rfl, c5⟩)
          | (go_at_call 34; (with_reducible refine (interfaces_told _ _ g b _ (hP.keep (by assumption)) HY.out).mono ?_); rintro e w6 ⟨v6, rfl, o6, c6⟩; obtain ⟨a6, d6, rfl⟩ := Ow.form o6)
          | (go_at_call 33; (with_reducible refine (supers_any _ _ g b _ (hP.keep (by assumption))).mono ?_); rintro e w6 ⟨v6, rfl, o6, c6⟩; obtain ⟨a6, d6, rfl⟩ := Ow.form o6)
          | (go_at_call 23; (with_reducible refine (awake6 _).mono ?_); rintro e w7 ⟨rfl, c7⟩)
          | fail)
        all_goals
          go_ret
          exact ⟨rfl, c4.trans (by repeat (first | exact Ch.refl _ | refine Ch.drew ?_ | refine Ch.alloc ?_ _ | refine Ch.trans ?_ (by assumption)))⟩
end Go.Proofs.YthmepecmeambmaaGreat
