/- SubtypeTree: a row of classes, each above the next, and what is asked of it, by evaluation. -/
/- SubtypeTree, walked. -/
import Derived.Test.YthmepecmeambmaaGreatKLsF
import Derived.Test.YthmepecmeambmaaGreatKLmC
namespace Go.Proofs.YthmepecmeambmaaGreat
open Go.RowKit
set_option linter.unusedVariables false

def nmT (i : Nat) : ByteArray := (⟨#[75]⟩ : ByteArray) ++ (⟨#[(97 + i).toUInt8]⟩ : ByteArray)
def supT : Nat → ByteArray
  | 0 => nObject
  | i + 1 => nmT i
def cT (i : Nat) : Cls := ⟨nmT i, supT i, false, false, [], [], []⟩
def tree (n : Nat) : List Cls := (List.range n).map cT
def tyT : Nat → Nat → ByteArray
  | 0, i => (⟨#[76]⟩ : ByteArray) ++ nmT i ++ (⟨#[59]⟩ : ByteArray)
  | d + 1, i => (⟨#[91]⟩ : ByteArray) ++ tyT d i
theorem tree_len (n : Nat) : (tree n).length = n := by simp [tree]
theorem tree_succ (n : Nat) : tree (n + 1) = tree n ++ [cT n] := by simp [tree, List.range_succ]
theorem nmT_size (i : Nat) : (nmT i).size = 2 := by unfold nmT; rw [ByteArray.size_append]; rfl
theorem tyT_size (d i : Nat) : (tyT d i).size = d + 4 := by
  induction d with
  | zero => unfold tyT; rw [ByteArray.size_append, ByteArray.size_append, nmT_size]; rfl
  | succ d ih => unfold tyT; rw [ByteArray.size_append, ih]; have e : (⟨#[91]⟩ : ByteArray).size = 1 := rfl; omega
def oneT (P : List Cls) (a b d : Nat) : Bool :=
  (typeB P (tyT d a) (tyT d b) == decide (b ≤ a)) && (typeB P (tyT d b) (tyT d a) == decide (a ≤ b)) && nq (mergeB P (tyT d a) (tyT d b)) (tyT d (min a b))
def twoT (P : List Cls) (a b : Nat) : Bool := nq (comB P (nmT a) (nmT b)) (nmT (min a b)) && subC P (nmT a) nObject
def chkT (P : List Cls) (n : Nat) : Bool :=
  (P.all fun c => c.im.isEmpty && decide (c.n.size ≤ 90000)) &&
  (List.range n).all fun a => (List.range n).all fun b => twoT P a b && (List.range 4).all fun d => oneT P a b d
theorem tree_link : ((List.range 16).all fun n => (link (tree n)).1.isSome) = true := by decide +kernel
theorem tree_chk : ((List.range 16).all fun n => chkT (prog (tree n)) n) = true := by decide +kernel
theorem nmT_at : ((List.range 15).all fun n => (nmT n).toList == [75, (97 + n).toUInt8]) = true := by decide +kernel
end Go.Proofs.YthmepecmeambmaaGreat
namespace Go.Proofs.YthmepecmeambmaaGreat
open Go.RowKit
set_option linter.unusedVariables false

def rnd (k n : Int) : Int := k % n
theorem tmod_emod (k n : Int) : k % n = (k.tmod n) % n := by
  have h := Int.tmod_add_mul_tdiv k n
  have e : k % n = (k.tmod n + n * k.tdiv n) % n := by rw [h]
  rw [e, Int.add_mul_emod_self_left]
theorem rnd_lo (k n : Int) (hn : 0 < n) (h : k.tmod n < 0) : k.tmod n + n = rnd k n := by
  have h3 := Int.lt_tmod_of_pos k hn
  rw [rnd, tmod_emod, ← Int.add_emod_right, Int.emod_eq_of_lt (by omega) (by omega)]
theorem rnd_hi (k n : Int) (hn : 0 < n) (h : 0 ≤ k.tmod n) : k.tmod n = rnd k n := by
  have h3 := Int.tmod_lt_of_pos k hn
  rw [rnd, tmod_emod, Int.emod_eq_of_lt (by omega) (by omega)]
theorem round_any (k n : Int) (w : World) (hn : 0 < n) (hn2 : n ≤ 140737488355329) :
    Calls Tryz.prog 38 #[.int .i64 k, .int .i64 n] w fun e w' => e = .returned (.int .i64 (rnd k n)) ∧ w' = w := by
  have hn0 : (n == 0) = false := by simp; omega
  have h1 := Int.tmod_lt_of_pos k hn
  have h3 := Int.lt_tmod_of_pos k hn
  go_enter Tryz.func38, Tryz.ntmps38
  go_wp2
  · go_ret
    exact ⟨congrArg (fun x => Ending.returned (.int .i64 x)) (rnd_lo k n hn ‹_›), rfl⟩
  · go_ret
    exact ⟨congrArg (fun x => Ending.returned (.int .i64 x)) (rnd_hi k n hn ‹_›), rfl⟩
/-- The same, as a place. -/
def pl (k : Int) (n : Nat) : Nat := (rnd k n).toNat
theorem pl_lt (k : Int) (n : Nat) (hn : 0 < n) : pl k n < n := by
  have h1 := Int.emod_nonneg k (b := (n : Int)) (by omega)
  have h2 := Int.emod_lt_of_pos k (b := (n : Int)) (by omega)
  unfold pl rnd
  omega
theorem pl_any (k : Int) (n : Nat) (w : World) (hn : 0 < n) (hn2 : n ≤ 100) :
    Calls Tryz.prog 38 #[.int .i64 k, .int .i64 (n : Int)] w fun e w' => e = .returned (.int .i64 ((pl k n : Nat) : Int)) ∧ w' = w := by
  have h := round_any k n w (by omega) (by omega)
  have e : rnd k n = ((pl k n : Nat) : Int) := by
    have h1 := Int.emod_nonneg k (b := (n : Int)) (by omega)
    unfold pl rnd
    omega
  rw [e] at h
  exact h

theorem nmT_all : ((List.range 15).all fun n => nq (nmT n) ((⟨#[75]⟩ : ByteArray) ++ strOfNums [97 + (n : Int)])) = true := by decide +kernel
theorem nmT_str {k : Nat} (h : k < 15) : nmT k = (⟨#[75]⟩ : ByteArray) ++ strOfNums [97 + (k : Int)] := nq_iff.1 (List.all_eq_true.1 nmT_all k (List.mem_range.2 h))
theorem supT_size (i : Nat) : (supT i).size ≤ 6 := by
  cases i with
  | zero => exact Nat.le_of_eq rfl
  | succ i => have := nmT_size i; have e : supT (i + 1) = nmT i := rfl; rw [e]; omega
theorem alloc_size (w : World) (o : Obj) : (w.alloc o).heap.size = w.heap.size + 1 := by simp
theorem alloc_new2 (w : World) (o o2 : Obj) : ((w.alloc o).alloc o2).heap[w.heap.size + 1]? = some o2 := by
  have := heap_alloc_new (w.alloc o) o2
  rwa [alloc_size] at this
theorem tree_get {n i : Nat} (h : i < n) : (tree n)[i]? = some (cT i) := by simp [tree, h]
theorem tree_ok (n : Nat) : okCs (tree n) := fun c hc => by
  obtain ⟨i, _, rfl⟩ := List.mem_map.1 hc
  have h1 := nmT_size i
  have h2 := supT_size i
  unfold cT clsT
  simp
  omega
theorem tree_yes {n : Nat} (h : n ≤ 15) : link (tree n) = (some (prog (tree n)), 0, nNone) :=
  link_ok (List.all_eq_true.1 tree_link n (List.mem_range.2 (by omega)))
theorem tree_im {n : Nat} (h : n ≤ 15) : imIn (prog (tree n)) := fun c hc => by
  have h0 := List.all_eq_true.1 tree_chk n (List.mem_range.2 (by omega))
  unfold chkT at h0
  have h := List.all_eq_true.1 (Bool.and_eq_true_iff.1 h0).1 c hc
  have e : c.im = [] := by simpa using (Bool.and_eq_true_iff.1 h).1
  rw [e]
  exact ⟨by simp, fun s hs => by cases hs⟩
theorem tree_sz {n : Nat} (h : n ≤ 15) : ∀ s ∈ nms (prog (tree n)), s.size ≤ 90000 := fun s hs => by
  obtain ⟨c, hc, rfl⟩ := List.mem_map.1 hs
  have h0 := List.all_eq_true.1 tree_chk n (List.mem_range.2 (by omega))
  unfold chkT at h0
  have h := List.all_eq_true.1 (Bool.and_eq_true_iff.1 h0).1 c hc
  simpa using (Bool.and_eq_true_iff.1 h).2
theorem tree_ab {n a b : Nat} (h : n ≤ 15) (ha : a < n) (hb : b < n) : comB (prog (tree n)) (nmT a) (nmT b) = nmT (min a b) ∧ subC (prog (tree n)) (nmT a) nObject = true ∧
    ∀ d, d < 4 → typeB (prog (tree n)) (tyT d a) (tyT d b) = decide (b ≤ a) ∧ typeB (prog (tree n)) (tyT d b) (tyT d a) = decide (a ≤ b) ∧ mergeB (prog (tree n)) (tyT d a) (tyT d b) = tyT d (min a b) := by
  have h0 := List.all_eq_true.1 tree_chk n (List.mem_range.2 (by omega))
  unfold chkT at h0
  have h1 := List.all_eq_true.1 (List.all_eq_true.1 (Bool.and_eq_true_iff.1 h0).2 a (List.mem_range.2 ha)) b (List.mem_range.2 hb)
  obtain ⟨h2, h3⟩ := Bool.and_eq_true_iff.1 h1
  unfold twoT at h2
  obtain ⟨h4, h5⟩ := Bool.and_eq_true_iff.1 h2
  refine ⟨nq_iff.1 h4, h5, fun d hd => ?_⟩
  have h6 := List.all_eq_true.1 h3 d (List.mem_range.2 hd)
  unfold oneT at h6
  obtain ⟨h7, h8⟩ := Bool.and_eq_true_iff.1 h6
  obtain ⟨h9, h10⟩ := Bool.and_eq_true_iff.1 h7
  exact ⟨by simpa using h9, by simpa using h10, nq_iff.1 h8⟩

set_option maxHeartbeats 8000000 in
set_option maxRecDepth 100000 in
theorem tree_walk (n a b dims : Int) (w : World) : Calls Tryz.prog 16 #[.int .i64 n, .int .i64 a, .int .i64 b, .int .i64 dims] w fun e w' => e = .returned (.bool true) ∧ Ch w w' := by
  by_cases hn : n < 1 ∨ 15 < n ∨ dims < 0 ∨ 3 < dims
  · go_enter Tryz.func16, Tryz.ntmps16
    go_wp2_with (first
      | (go_at_call 46; (with_reducible refine (awake7 _).mono ?_); rintro e w2 ⟨rfl, c2⟩)
      | fail)
    all_goals first | omega | skip
    all_goals
      go_ret
      exact ⟨rfl, c2⟩
  · obtain ⟨m, rfl⟩ : ∃ m : Nat, n = (m : Int) := ⟨n.toNat, by omega⟩
    obtain ⟨d, rfl⟩ : ∃ d : Nat, dims = (d : Int) := ⟨dims.toNat, by omega⟩
    have hm : m ≤ 15 := by omega
    have hm1 : 1 ≤ m := by omega
    have hd : d ≤ 3 := by omega
    have hmI : (m : Int) ≤ 15 := by omega
    have hm1I : 1 ≤ (m : Int) := by omega
    have hdI : (d : Int) ≤ 3 := by omega
    clear hn
    go_enter Tryz.func16, Tryz.ntmps16
    go_wp2_with fail
    go_loopw [9, 10, 11] (fun s v i wr => ∃ k : Nat, k ≤ m ∧ i = .int .i64 k ∧ s = .string (supT k) ∧ Oc w.heap.size wr v (tree k) ∧ Ch w wr) (fun _ _ i _ => m - (intOf i).toNat)
    case atStart => exact ⟨0, Nat.zero_le _, rfl, rfl, Ow.nil, Ch.refl _⟩
    case round =>
      obtain ⟨k, hk, rfl, rfl, hO, hcr⟩ := hrel
      by_cases hlt : k < m
      · obtain ⟨ao, cc, rfl⟩ := Ow.form hO
        rw [tree_len]
        have hsz := hcr.size
        have HO : Hid (Oc w.heap.size wr (.slice ao k cc) (tree k)) := (show Oc w.heap.size wr (.slice ao k cc) (tree k) by rw [tree_len] at hO; exact hO)
        have HC : Hid (Ch w wr) := hcr
        have hs := (Bs.one wr (97 + (k : Int))).str Nat.zero_lt_one
        have hss : (strOfNums [97 + (k : Int)]).size = 1 := str_size _
        obtain ⟨s, hse⟩ : ∃ s, strOfNums [97 + (k : Int)] = s := ⟨_, rfl⟩
        rw [hse] at hs hss
        obtain ⟨u, hu⟩ : ∃ u, supT k = u := ⟨_, rfl⟩
        rw [hu]
        have HS : Hid (cT k = ⟨(⟨#[75]⟩ : ByteArray) ++ s, u, false, false, [], [], []⟩) := (show cT k = _ by unfold cT; rw [hu, nmT_str (by omega : k < 15), hse])
        have HSU : Hid (Value.string ((⟨#[75]⟩ : ByteArray) ++ s) = Value.string (supT (k + 1))) := (show Value.string ((⟨#[75]⟩ : ByteArray) ++ s) = Value.string (nmT k) by rw [nmT_str (by omega : k < 15), hse])
        have hus : u.size ≤ 6 := hu ▸ supT_size k
        clear hO hcr hse hu
        go_wp2_with (first
          | (at_builtin; refine ((HO.out.keep ((Ch.refl wr).alloc _)).keep ((Ch.refl _).alloc _)).append (NL := [cT k]) rfl (.tmp 46) (.tmp 50) rfl rfl (fun _ => [.string ((⟨#[75]⟩ : ByteArray) ++ s), .string u, .bool false, .bool false, .slice none 0 0, .slice none 0 0, .slice none 0 0]) (fun i c' hi => ?_) (fun _ => rfl) (wr.heap.size + 1) 1 1 rfl rfl (alloc_new2 _ _ _) (by rw [tree_len]; omega) (by rw [alloc_size, alloc_size]; omega) (Nat.le_refl _) ((HC.out.alloc _).alloc _) ?_; (match i, hi with | 0, hi => cases hi; rw [HS.out]; exact ⟨_, _, _, rfl, OwC.empty⟩); intro v6 w6 o6 c6 b6)
          | fail)
        exact ⟨⟨k + 1, by omega, by go_num, HSU.out, by rw [tree_succ]; exact o6, c6⟩, by simp [intOf]; omega⟩
      · obtain rfl : k = m := by omega
        have hcl := classes_any (tree k) _ wr hO.rc (tree_ok k)
        rw [tree_yes hm] at hcl
        have hO0 := hO
        obtain ⟨ao, cc, rfl⟩ := Ow.form hO
        obtain ⟨g0, _, rfl, _⟩ := Ow.at hO0 (tree_get (i := 0) (by omega : 0 < k))
        have HQ : Hid (∀ w' i, Ch wr w' → i < k → w'.cell? ⟨g0, i * 7, none⟩ = some (.string (nmT i))) := fun w' i c hi => by
          obtain ⟨g1, cs, e, _, _, ⟨_, _, _, ecs, _⟩, hcell, _⟩ := Ow.at (Oc.keep hO0 c) (tree_get hi)
          cases e
          subst ecs
          exact hcell 0 _ rfl
        rw [tree_len] at hcl ⊢
        have HC : Hid (Ch w wr) := hcr
        have hra := fun w0 => pl_any a k w0 (by omega) (by omega)
        have hrb := fun w0 => pl_any b k w0 (by omega) (by omega)
        have ha := pl_lt a k (by omega)
        have hb := pl_lt b k (by omega)
        generalize pl a k = a0 at *
        generalize pl b k = b0 at *
        obtain ⟨e1, e2, e3⟩ := tree_ab hm ha hb
        have hmi : min a0 b0 < k := by omega
        have HTY : Hid (∀ x y r j, j < 4 → typeB (prog (tree k)) (tyT j x) (tyT j y) = r → ∀ g b w', Pm w' g b (prog (tree k)) → Calls Tryz.prog 54 #[.pointer (some ⟨g, 0, none⟩), .string (tyT j x), .string (tyT j y)] w' fun e w2 => e = .returned (.bool r) ∧ Ch w' w2) := fun x y r j hj hr g b w' hp => by
          subst hr
          exact typeS_any _ _ _ g b w' hp (tree_im hm) (by rw [tyT_size]; omega) (by rw [tyT_size]; omega)
        clear hO hO0 hcr
        go_wp2_with (first
          | (go_at_call 24; (with_reducible refine hcl.mono ?_); clear hcl; rintro e w3 ⟨v3, rfl, ⟨g, bq, rfl, hP⟩, c3⟩; have q1 := HQ.out w3 a0 c3 ha; have q2 := HQ.out w3 b0 c3 hb; have q3 := HQ.out w3 (min a0 b0) c3 hmi)
          | (go_at_call 38; (first | (with_reducible refine (hra _).mono ?_) | (with_reducible refine (hrb _).mono ?_)); rintro e w4 ⟨rfl, hw⟩; have hw := hw.symm; subst hw)
          | fail)
        have HQ3 : Hid (∀ w', Ch w3 w' → w'.cell? ⟨g0, a0 * 7, none⟩ = some (.string (nmT a0)) ∧ w'.cell? ⟨g0, b0 * 7, none⟩ = some (.string (nmT b0)) ∧ w'.cell? ⟨g0, (min (a0 : Int) (b0 : Int)).toNat * 7, none⟩ = some (.string (nmT (min a0 b0)))) := fun w' c => ⟨HQ.out w' a0 (c3.trans c) ha, HQ.out w' b0 (c3.trans c) hb, by rw [show (min (a0 : Int) (b0 : Int)).toNat = min a0 b0 from by omega]; exact HQ.out w' _ (c3.trans c) hmi⟩
        have z1 := nmT_size a0
        have z2 := nmT_size b0
        have z3 := nmT_size (min a0 b0)
        have y1 : 0 ≤ min (a0 : Int) (b0 : Int) := by omega
        have y2 : min (a0 : Int) (b0 : Int) < (k : Int) := by omega
        clear q3
        go_region_held (fun w' => w'.cell? ⟨g0, a0 * 7, none⟩ = some (.string (nmT a0)) ∧ w'.cell? ⟨g0, b0 * 7, none⟩ = some (.string (nmT b0)) ∧ w'.cell? ⟨g0, (min (a0 : Int) (b0 : Int)).toNat * 7, none⟩ = some (.string (nmT (min a0 b0)))) (exact HQ3.out _ (Ch.refl w3).drew) (first | fail)
        have HZ : Hid (∀ j x, (tyT j x).size = j + 4) := tyT_size
        go_wp2_with fail
        go_loopw [16, 17, 18, 19] (fun x y z i wr2 => ∃ j : Nat, j ≤ d ∧ i = .int .i64 j ∧ x = .string (tyT j a0) ∧ y = .string (tyT j b0) ∧ z = .string (tyT j (min a0 b0)) ∧ Ch w3 wr2) (fun _ _ _ i _ => d - (intOf i).toNat)
        case atStart => exact ⟨0, Nat.zero_le _, rfl, rfl, rfl, rfl, (Ch.refl w3).drew⟩
        case round =>
          obtain ⟨j, hj, rfl, rfl, rfl, rfl, c4⟩ := hrel
          by_cases hlt2 : j < d
          · have z4 := HZ.out j a0
            have z5 := HZ.out j b0
            have z6 := HZ.out j (min a0 b0)
            go_wp2_with fail
            exact ⟨⟨j + 1, by omega, by go_num, rfl, rfl, rfl, by repeat (first | exact Ch.refl _ | refine Ch.drew ?_ | refine Ch.alloc ?_ _ | refine Ch.trans ?_ (by assumption))⟩, by simp [intOf]; omega⟩
          · obtain rfl : j = d := by omega
            have HC4 : Hid (Ch w3 wr) := c4
            obtain ⟨r1, r2, r3⟩ := e3 j (by omega)
            have T1 : Hid (∀ w', Ch wr w' → Calls Tryz.prog 54 #[.pointer (some ⟨g, 0, none⟩), .string (tyT j a0), .string (tyT j b0)] w' fun e w2 => e = .returned (.bool (decide ((b0 : Int) ≤ (a0 : Int)))) ∧ Ch w' w2) := fun w' c => HTY.out a0 b0 _ j (by omega) (r1.trans (by simp)) g bq w' (hP.keep (c4.trans c))
            have T2 : Hid (∀ w', Ch wr w' → Calls Tryz.prog 54 #[.pointer (some ⟨g, 0, none⟩), .string (tyT j b0), .string (tyT j a0)] w' fun e w2 => e = .returned (.bool (decide ((a0 : Int) ≤ (b0 : Int)))) ∧ Ch w' w2) := fun w' c => HTY.out b0 a0 _ j (by omega) (r2.trans (by simp)) g bq w' (hP.keep (c4.trans c))
            have T3 : Hid (∀ w', Ch wr w' → Calls Tryz.prog 56 #[.pointer (some ⟨g, 0, none⟩), .string (tyT j a0), .string (tyT j b0)] w' fun e w2 => e = .returned (.string (tyT j (min a0 b0))) ∧ Ch w' w2) := fun w' c => by
              have := merge_any (tyT j a0) (tyT j b0) _ g bq w' (hP.keep (c4.trans c)) (tree_sz hm) (by rw [tyT_size]; omega) (by rw [tyT_size]; omega)
              rwa [r3] at this
            have T4 : Hid (∀ w', Ch wr w' → Calls Tryz.prog 50 #[.pointer (some ⟨g, 0, none⟩), .string (nmT a0), .string (nmT b0)] w' fun e w2 => e = .returned (.string (nmT (min a0 b0))) ∧ Ch w' w2) := fun w' c => by
              have := common_any (nmT a0) (nmT b0) _ g bq w' (hP.keep (c4.trans c)) (fun s hs => Nat.le_trans (tree_sz hm s hs) (by decide))
              rwa [e1] at this
            have T5 : Hid (∀ w', Ch wr w' → Calls Tryz.prog 48 #[.pointer (some ⟨g, 0, none⟩), .string (nmT a0), .string nObject] w' fun e w2 => e = .returned (.bool true) ∧ Ch w' w2) := fun w' c => by
              have := sub_any (nmT a0) nObject _ g bq w' (hP.keep (c4.trans c)) (tree_im hm)
              rwa [e2] at this
            have HC5 : Hid (Ch w w3) := (HC.out.trans c3)
            have z4 := HZ.out j a0
            have z5 := HZ.out j b0
            have z6 := HZ.out j (min a0 b0)
            clear r1 r2 r3 e1 e2 e3 hP c4 c3
            go_wp2_with fail
            go_region_held (fun w' => w'.cell? ⟨g0, a0 * 7, none⟩ = some (.string (nmT a0)) ∧ w'.cell? ⟨g0, b0 * 7, none⟩ = some (.string (nmT b0)) ∧ w'.cell? ⟨g0, (min (a0 : Int) (b0 : Int)).toNat * 7, none⟩ = some (.string (nmT (min a0 b0)))) ((refine HQ3.out _ ?_; refine Ch.trans HC4.out ?_; repeat (first | exact Ch.refl _ | refine Ch.drew ?_ | refine Ch.alloc ?_ _ | refine Ch.trans ?_ (by assumption)))) (first
              | (go_at_call 54; (first | (with_reducible refine (T1.out _ (by repeat (first | exact Ch.refl _ | refine Ch.drew ?_ | refine Ch.alloc ?_ _ | refine Ch.trans ?_ (by assumption)))).mono ?_) | (with_reducible refine (T2.out _ (by repeat (first | exact Ch.refl _ | refine Ch.drew ?_ | refine Ch.alloc ?_ _ | refine Ch.trans ?_ (by assumption)))).mono ?_)); rintro e w5 ⟨rfl, c5⟩)
              | (go_at_call 56; (with_reducible refine (T3.out _ (by repeat (first | exact Ch.refl _ | refine Ch.drew ?_ | refine Ch.alloc ?_ _ | refine Ch.trans ?_ (by assumption)))).mono ?_); rintro e w5 ⟨rfl, c5⟩)
              | (go_at_call 50; (with_reducible refine (T4.out _ (by repeat (first | exact Ch.refl _ | refine Ch.drew ?_ | refine Ch.alloc ?_ _ | refine Ch.trans ?_ (by assumption)))).mono ?_); rintro e w5 ⟨rfl, c5⟩)
              | (go_at_call 48; (with_reducible refine (T5.out _ (by repeat (first | exact Ch.refl _ | refine Ch.drew ?_ | refine Ch.alloc ?_ _ | refine Ch.trans ?_ (by assumption)))).mono ?_); rintro e w5 ⟨rfl, c5⟩)
              | (go_at_call 46; (with_reducible refine (awake7 _).mono ?_); rintro e w5 ⟨rfl, c5⟩)
              | fail)
            all_goals
              go_wp2_with fail
              go_ret
              exact ⟨rfl, Ch.trans HC5.out (Ch.trans HC4.out (by repeat (first | exact Ch.refl _ | refine Ch.drew ?_ | refine Ch.alloc ?_ _ | refine Ch.trans ?_ (by assumption))))⟩
end Go.Proofs.YthmepecmeambmaaGreat
