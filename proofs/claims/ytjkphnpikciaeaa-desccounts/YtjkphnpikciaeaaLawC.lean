/- The walk of the law DescCounts. -/
import Derived.Test.YtjkphnpikciaeaaCountS
import Derived.Laws.OwnMore
namespace Go.Proofs.Ytjkphnpikciaeaa
open Go.RowKit
set_option linter.unusedVariables false

/-- The places of the first so many. -/
def jl (z : Nat → Int) : Nat → List Nat
  | 0 => []
  | k + 1 => jl z k ++ [pl (z k) 5]
theorem jl_len (z : Nat → Int) (k : Nat) : (jl z k).length = k := by
  induction k with
  | zero => rfl
  | succ k ih => simp [jl, ih]
theorem fl_len (js : List Nat) : (fl js).length ≤ 8 * js.length := by
  induction js with
  | nil => simp [fl]
  | cons j js ih => rw [fl_cons]; have := (T_len j).2; simp; omega

/-- The five texts as they were laid. -/
def ofCells : Array Value := #[.string ⟨#[73]⟩, .string ⟨#[67]⟩, .string ⟨#[76, 65, 59]⟩, .string ⟨#[91, 73]⟩, .string ⟨#[91, 91, 76, 66, 99, 95, 49, 59]⟩]
theorem of_cell {w w' : World} (c : Ch (w.alloc (.cells ofCells 9)) w') (j : Nat) (hj : j < 5) : w'.cell? ⟨w.heap.size, j, none⟩ = some (.string (ms (T j))) := by
  have h1 : w'.heap[w.heap.size]? = some (.cells ofCells 9) := by
    rw [c.block w.heap.size (by simp)]
    exact heap_alloc_new w _
  simp only [World.cell?, h1]
  match j, hj with
  | 0, _ => rfl
  | 1, _ => rfl
  | 2, _ => rfl
  | 3, _ => rfl
  | 4, _ => rfl

set_option maxHeartbeats 8000000 in
theorem counts_main (a0 : Option Addr) (len cap : Nat) (z : Nat → Int) (res : Int) (w : World) (hl : len ≤ 12)
    (hc : ∀ k, k < len → ∃ g off, a0 = some ⟨g, off, none⟩ ∧ w.cell? ⟨g, off + k, none⟩ = some (.int .i64 (z k))) :
    Calls Try.prog 7 #[.slice a0 len cap, .int .i64 res] w fun e w' => e = .returned (.bool true) ∧ Ch w w' := by
  have t0 : decide ((12 : Int) < (len : Int)) = false := by simp; omega
  have hCW : Ch w (w.alloc (.cells ofCells 9)) := (Ch.refl w).alloc _
  have HC : Hid (∀ k, k < len → ∃ g off, a0 = some ⟨g, off, none⟩ ∧ w.cell? ⟨g, off + k, none⟩ = some (.int .i64 (z k))) := hc
  clear hc
  go_enter Try.func7, Try.ntmps7
  go_wp2_with fail
  go_loopw [6, 7, 8] (fun sv wv i wr => ∃ (k : Nat) (S : ByteArray), k ≤ len ∧ sv = .string S ∧ i = .int .i64 k ∧ wr.ownsRow (w.alloc (.cells ofCells 9)).heap.size 9 1 wv ((jl z k).map T).length (((jl z k).map T).map strV) ∧ Ch (w.alloc (.cells ofCells 9)) wr ∧ Hid (bl S = 40 :: fl (jl z k))) (fun _ _ i _ => len - (intOf i).toNat)
  case atStart => exact ⟨0, ⟨#[40]⟩, by omega, rfl, rfl, World.ownsRow_nil _ _ _ _, Ch.refl _, rfl⟩
  case round =>
    obtain ⟨k, S, hk, rfl, rfl, ho, hcr, hS⟩ := hrel
    have hSs : S.size ≤ 200 := by
      rw [← bl_len, hS.out]
      have := fl_len (jl z k)
      rw [jl_len] at this
      simp
      omega
    by_cases hlt : k < len
    · obtain ⟨g, off, rfl, hcell⟩ := HC.out k hlt
      have hd0 : wr.cell? ⟨g, off + k, none⟩ = some (.int .i64 (z k)) := by
        have h1 := World.block_lt_of_cell? _ _ hcell
        rw [World.cell?_of_block (w := w) ((hCW.trans hcr).block g h1)]
        exact hcell
      have hj := pl_lt (z k) 5 (by omega)
      have hrd := fun w0 => pl_any (z k) 5 w0 (by omega) (by omega)
      have hof := of_cell hcr (pl (z k) 5) hj
      have hTl := (T_len (pl (z k) 5)).2
      have hms := ms_size (T (pl (z k) 5))
      have hS2 : Hid (bl (S ++ ms (T (pl (z k) 5))) = 40 :: fl (jl z (k + 1))) := by
        show _ = _
        rw [bl_append, hS.out, bl_ms, jl, fl_snoc]
        rfl
      have hlen := jl_len z k
      have hW : (jl z (k + 1)).map T = (jl z k).map T ++ [bl (ms (T (pl (z k) 5)))] := by rw [jl, List.map_append]; rfl
      have HW : Hid ((jl z (k + 1)).map T = (jl z k).map T ++ [bl (ms (T (pl (z k) 5)))]) := hW
      have hjl : ((jl z k).map T).length = k := by rw [List.length_map, hlen]
      have HJ : Hid (((jl z k).map T).length = k) := hjl
      have hj' : ((pl (z k) 5 : Nat) : Int) < 5 := by omega
      have hlk : ((jl z k).map T).length ≤ 1000 := by omega
      have hkw : (k : Int) < (((jl z k).map T).length : Int) + 1 := by omega
      have htj : (ms (T (pl (z k) 5))).size ≤ 8 := by omega
      have hov : ¬ (9223372036854775807 < S.size + (ms (T (pl (z k) 5))).size) := by omega
      clear hcell hW hjl hlen hTl hms
      generalize pl (z k) 5 = j at *
      generalize ms (T j) = tj at *
      generalize (jl z k).map T = ws at *
      have ad : (⟨w.heap.size, 0, none⟩ : Addr).add j = ⟨w.heap.size, j, none⟩ := by unfold Addr.add; split <;> simp_all
      go_wp2_with (first
        | (go_at_call 34; refine (hrd _).mono ?_; rintro e x1 ⟨rfl, hx⟩; have hx := hx.symm; subst hx; clear hx)
        | (at_builtin; refine wpList_append_text rfl (.tmp 30) (.tmp 41) rfl (w.alloc (.cells ofCells 9)).heap.size _ ws tj rfl (ownsRow_keep ho ((Ch.refl _).alloc _)) ⟨wr.heap.size, 0, none⟩ _ rfl (cell_new _ _ _) hlk (hcr.alloc _).size ?_; intro v6 w6 ho6 hg6; obtain ⟨g6, c6, rfl, hcell6⟩ := own_cells ho6 (by simp); have d6 := hcell6 k (bl tj) (by rw [← HJ.out]; simp); rw [ms_bl] at d6))
      go_roundw
      case rel =>
        refine ⟨k + 1, S ++ tj, by omega, rfl, rfl, ?_, (hcr.alloc _).grown hg6 (fun q hq => (ho.lt q hq).1), hS2⟩
        rw [HW.out]
        simpa using ho6
      case measure => simp [intOf]; omega
    · obtain rfl : k = len := by omega
      have hi := pl_lt res 6 (by omega)
      have hrd := fun w0 => pl_any res 6 w0 (by omega) (by omega)
      generalize pl res 6 = i at *
      have hi' : ((i : Nat) : Int) < 6 := by omega
      have hR : ([[86]] ++ [T 0, T 1, T 2, T 3, T 4])[i]? = some (R i) := by
        match i, hi with
        | 0, _ => rfl
        | 1, _ => rfl
        | 2, _ => rfl
        | 3, _ => rfl
        | 4, _ => rfl
        | 5, _ => rfl
      have hoV := World.ownsRow_lit (base := wr.heap.size) (e := 9) (size := 1) wr #[.string ⟨#[86]⟩] 1 (Nat.le_refl _) (by unfold maxLen; omega) rfl
      have hoV' : (wr.alloc (.cells #[.string ⟨#[86]⟩] 9)).ownsRow wr.heap.size 9 1 (.slice (some ⟨wr.heap.size, 0, none⟩) 1 1) ([[86]] : List (List UInt8)).length (([[86]] : List (List UInt8)).map strV) := hoV
      have hcs : ∀ j p, ([T 0, T 1, T 2, T 3, T 4] : List (List UInt8))[j]? = some p → (wr.alloc (.cells #[.string ⟨#[86]⟩] 9)).cell? ((⟨w.heap.size, 0, none⟩ : Addr).add j) = some (strV p) := fun j p hp => by
        have ad : (⟨w.heap.size, 0, none⟩ : Addr).add j = ⟨w.heap.size, j, none⟩ := by unfold Addr.add; split <;> simp_all
        have hj : j < 5 := by
          obtain ⟨hl, _⟩ := List.getElem?_eq_some_iff.1 hp
          simpa using hl
        rw [ad, of_cell (hcr.alloc _) j hj]
        match j, hj with
        | 0, _ => cases hp; rfl
        | 1, _ => cases hp; rfl
        | 2, _ => cases hp; rfl
        | 3, _ => cases hp; rfl
        | 4, _ => cases hp; rfl
      have m1 : bl ((S ++ ⟨#[41]⟩) ++ ms (R i)) = 40 :: fl (jl z k) ++ 41 :: R i := by rw [bl_append, bl_append, hS.out, bl_ms]; simp [bl]
      have m2 : bl (S ++ ms (R i)) = 40 :: fl (jl z k) ++ R i := by rw [bl_append, hS.out, bl_ms]
      have m3 : bl (((S ++ ⟨#[41]⟩) ++ ms (R i)) ++ ⟨#[73]⟩) = 40 :: fl (jl z k) ++ 41 :: (R i ++ [73]) := by rw [bl_append, m1]; simp [bl]
      have hRs : (ms (R i)).size ≤ 8 := by rw [ms_size]; exact R_len i
      have e1 : (S ++ ⟨#[41]⟩).size = S.size + 1 := by rw [ByteArray.size_append]; rfl
      have e2 : ((S ++ ⟨#[41]⟩) ++ ms (R i)).size = S.size + 1 + (ms (R i)).size := by rw [ByteArray.size_append, e1]
      have e3 : (((S ++ ⟨#[41]⟩) ++ ms (R i)) ++ ⟨#[73]⟩).size = S.size + 1 + (ms (R i)).size + 1 := by rw [ByteArray.size_append, e2]; rfl
      have s1 : ((S ++ ⟨#[41]⟩) ++ ms (R i)).size ≤ 1000 := by omega
      have s2 : (S ++ ms (R i)).size ≤ 1000 := by rw [ByteArray.size_append]; omega
      have s3 : (((S ++ ⟨#[41]⟩) ++ ms (R i)) ++ ⟨#[73]⟩).size ≤ 1000 := by omega
      have n2 := meth_open (jl z k) i
      rw [← m2] at n2
      have n3 := meth_behind (jl z k) i
      rw [← m3] at n3
      have c2 := fun w0 => method_no n2 s2 w0
      have c3 := fun w0 => method_no n3 s3 w0
      have hjl : (jl z k).length = k := jl_len z k
      have HI : Hid (([[86]] ++ [T 0, T 1, T 2, T 3, T 4])[i]? = some (R i)) := hR
      have hWl : ((jl z k).map T).length = k := by rw [List.length_map, hjl]
      clear hlt m2 m3 n2 n3 s2 s3 e1 e2 e3 hR hoV
      by_cases h8 : k ≤ 8
      · have y1 := meth_yes (jl z k) i (by omega)
        rw [← m1] at y1
        have c1 := fun w0 => method_yes y1 s1 w0
        simp only at c1
        have h8' : decide ((8 : Int) < (k : Int)) = false := by simp; omega
        clear m1 y1 s1
        obtain ⟨r, hr⟩ : ∃ r, ms (R i) = r := ⟨_, rfl⟩
        rw [hr] at c1 c2 c3 hRs
        have HRR : Hid (ms (R i) = r) := hr
        have hov1 : ¬ (9223372036854775807 < S.size + 1 + r.size) := by omega
        have hov2 : ¬ (9223372036854775807 < S.size + r.size) := by omega
        have hov3 : ¬ (9223372036854775807 < S.size + 1 + r.size + 1) := by omega
        clear hr
        go_wp2_with (first
          | (at_builtin; refine wpList_append_texts rfl (.tmp 49) (.tmp 50) rfl wr.heap.size _ [[86]] [T 0, T 1, T 2, T 3, T 4] rfl hoV' ⟨w.heap.size, 0, none⟩ _ rfl hcs (by decide) (by simp) ?_; intro v6 w6 ho6 hg6; obtain ⟨g6, c6, rfl, hcell6⟩ := own_cells ho6 (by simp); have d6 := hcell6 i (R i) HI.out; rw [HRR.out] at d6; clear hcell6)
          | (go_at_call 34; refine (hrd _).mono ?_; rintro e x1 ⟨rfl, hx⟩; have hx := hx.symm; subst hx; clear hx))
        have hc6 : Ch wr w6 := ((Ch.refl wr).alloc _).grown hg6 (fun q hq => Nat.le_of_eq (Option.some.inj hq))
        have HC6 : Hid (Ch wr w6) := hc6
        clear hg6 ho6 hc6 hoV' hcs d6
        refine (c1 _).mono ?_
        rintro e w7 ⟨v7, rfl, ho7, hc7⟩
        go_wp2_with fail
        refine (c2 _).mono ?_
        rintro e w8 ⟨rfl, hc8⟩
        go_wp2_with fail
        refine (c3 _).mono ?_
        rintro e w9 ⟨rfl, hc9⟩
        have ho9 := ownsRow_keep ho7 (hc8.trans hc9)
        have hc69 := ((HC6.out.trans hc7).trans hc8).trans hc9
        have hoW := ownsRow_keep ho hc69
        have HCC : Hid (Ch w w9) := (hCW.trans hcr).trans hc69
        have hwl : ((jl z k).map T).length ≤ 1000 := by omega
        clear ho7 hc7 hc8 hc9 hc69 HC6 c1 c2 c3
        go_wp2_with (first
          | (go_at_call 27; refine (texts_same _ _ ((jl z k).map T) _ _ _ ho9 hoW hwl).mono ?_; rintro e x1 ⟨rfl, mm, rfl⟩)
          | (go_at_call 8; refine (awake_any _).mono ?_; rintro e w10 ⟨rfl, hc10⟩))
        go_ret
        exact ⟨rfl, (HCC.out.drewN mm).trans hc10⟩
      · have y1 := meth_many (jl z k) i (by omega)
        rw [← m1] at y1
        have c1 := fun w0 => method_no y1 s1 w0
        have h8' : decide ((8 : Int) < (k : Int)) = true := by simp; omega
        clear m1 y1 s1 c2 c3
        obtain ⟨r, hr⟩ : ∃ r, ms (R i) = r := ⟨_, rfl⟩
        rw [hr] at c1 hRs
        have HRR : Hid (ms (R i) = r) := hr
        have hov1 : ¬ (9223372036854775807 < S.size + 1 + r.size) := by omega
        clear hr
        go_wp2_with (first
          | (at_builtin; refine wpList_append_texts rfl (.tmp 49) (.tmp 50) rfl wr.heap.size _ [[86]] [T 0, T 1, T 2, T 3, T 4] rfl hoV' ⟨w.heap.size, 0, none⟩ _ rfl hcs (by decide) (by simp) ?_; intro v6 w6 ho6 hg6; obtain ⟨g6, c6, rfl, hcell6⟩ := own_cells ho6 (by simp); have d6 := hcell6 i (R i) HI.out; rw [HRR.out] at d6; clear hcell6)
          | (go_at_call 34; refine (hrd _).mono ?_; rintro e x1 ⟨rfl, hx⟩; have hx := hx.symm; subst hx; clear hx))
        have hc6 : Ch wr w6 := ((Ch.refl wr).alloc _).grown hg6 (fun q hq => Nat.le_of_eq (Option.some.inj hq))
        have HC6 : Hid (Ch wr w6) := hc6
        clear hg6 ho6 hc6 hoV' hcs d6
        refine (c1 _).mono ?_
        rintro e w7 ⟨rfl, hc7⟩
        go_wp2_with (first
          | (go_at_call 8; refine (awake_any _).mono ?_; rintro e w10 ⟨rfl, hc10⟩))
        go_ret
        exact ⟨rfl, (((hCW.trans hcr).trans HC6.out).trans hc7).trans hc10⟩
end Go.Proofs.Ytjkphnpikciaeaa
