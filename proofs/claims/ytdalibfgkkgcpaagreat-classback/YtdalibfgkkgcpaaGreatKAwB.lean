/- The least class is written; what the document fixes. -/
/- What the document fixes. -/
import Derived.Test.YtdalibfgkkgcpaaGreatKEncB
import Derived.Test.YtdalibfgkkgcpaaGreatKChkF
import Derived.Test.YtdalibfgkkgcpaaGreatKEqB
import Derived.Test.YtdalibfgkkgcpaaGreatKEncE
import Derived.Laws.BytesArg
namespace Go.Proofs.YtdalibfgkkgcpaaGreat
open Go.RowKit
set_option linter.unusedVariables false

def leastV (n s : ByteArray) : Value := .agg #[.string n, .string s, .bool false, .bool false, .slice none 0 0, .slice none 0 0, .slice none 0 0]
def leastC (n s : ByteArray) : Array Value := #[.string n, .string s, .bool false, .bool false, .slice none 0 0, .slice none 0 0, .slice none 0 0]
variable {B r M : Nat} {L : List (List UInt8)} {w0 w : World} {bs : List Int}
theorem leastC_at {w : World} {g : Nat} {n s : ByteArray} {t : TypeId} (h : w.heap[g]? = some (.cells (leastC n s) t)) :
    w.cell? ⟨g, 0, none⟩ = some (.string n) ∧ w.cell? ⟨g, 1, none⟩ = some (.string s) ∧ w.cell? ⟨g, 2, none⟩ = some (.bool false) ∧ w.cell? ⟨g, 3, none⟩ = some (.bool false) ∧ w.cell? ⟨g, 4, none⟩ = some (.slice none 0 0) ∧ w.cell? ⟨g, 5, none⟩ = some (.slice none 0 0) ∧ w.cell? ⟨g, 6, none⟩ = some (.slice none 0 0) := by
  refine ⟨?_, ?_, ?_, ?_, ?_, ?_, ?_⟩ <;> simp [World.cell?, h, leastC]
theorem nilSl {α : Type} (k : Nat) (R : World → List Value → α → Prop) (w : World) : Sl k R w (.slice none 0 0) [] := ⟨none, 0, rfl, Nat.le_refl _, by omega, fun h => by simp at h⟩
/-- The bytes of a class that has nothing but two names. -/
def leastB (L : List (List UInt8)) (n s : ByteArray) : List Int := ([n, s].map bl).flatMap (pB L) ++ (yB false ++ (yB false ++ (be 0 2 ++ (be 0 2 ++ be 0 2))))

set_option maxRecDepth 100000 in
set_option maxHeartbeats 8000000 in
theorem Es.least (h : Es B r M L w0 w bs) (n s : ByteArray) (hn : n.size ≤ 100000) (hs : s.size ≤ 100000) (hl : bs.length ≤ 200000) :
    Calls Tryz.prog 27 #[.pointer (some ⟨r, 0, none⟩), .agg #[.string n, .string s, .bool false, .bool false, .slice none 0 0, .slice none 0 0, .slice none 0 0]] w fun e w' => e = .returned (.tuple #[]) ∧ Es B r M L w0 w' (bs ++ leastB L n s) := by
  have hE1 : Es B r M L w0 ((w.alloc (.cells (leastC n s) 26)).alloc (.cells #[.string n, .string s] 9)) bs := h.chr (((Ch.refl w).alloc _).alloc _)
  have hb1 : ((w.alloc (.cells (leastC n s) 26)).alloc (.cells #[.string n, .string s] 9)).heap[w.heap.size]? = some (.cells (leastC n s) 26) := heap_alloc2_old _ _ _
  have hb2 : ((w.alloc (.cells (leastC n s) 26)).alloc (.cells #[.string n, .string s] 9)).heap[w.heap.size + 1]? = some (.cells #[.string n, .string s] 9) := heap_alloc2_new _ _ _
  have ht := hE1.texts [n, s] (.slice (some ⟨w.heap.size + 1, 0, none⟩) 2 2) (sl_row (xs := [n, s]) hb2 2 rfl (by omega)) (fun b off n' c e _ => by
    obtain ⟨⟨rfl, _⟩, _⟩ : (w.heap.size + 1 = b ∧ 0 = off) ∧ _ := by simpa using e
    exact Or.inr ⟨_, _, _, hb2, by decide⟩) (fun x hx => by simp at hx; rcases hx with rfl | rfl <;> assumption) (by simp; omega)
  have HB : Hid (∀ w', Kp B [5, 63] ((w.alloc (.cells (leastC n s) 26)).alloc (.cells #[.string n, .string s] 9)) w' → _) := fun w' k => leastC_at (k.cells hb1 (by decide))
  clear hb1 hb2 h hE1
  unfold leastC at *
  go_enter Tryz.func27, Tryz.ntmps27
  go_wp2_with fail
  refine ht.mono ?_
  rintro e w2 ⟨rfl, hE2, hk2⟩
  have hl2 := hE2.len
  obtain ⟨b2, hb2⟩ : ∃ l, l = bs ++ ([n, s].map bl).flatMap (pB L) := ⟨_, rfl⟩
  rw [← hb2] at hE2
  have hlb2 : b2.length ≤ 200004 := by rw [hb2]; simp [pB_len]; omega
  obtain ⟨g0, g1, g2, g3, g4, g5, g6⟩ := HB.out w2 hk2
  have hy := hE2.yes false (by omega)
  clear ht
  go_wp2_with fail
  refine hy.mono ?_
  rintro e w3 ⟨rfl, hE3, hk3⟩
  have hk03 := hk2.trans hk3
  have hlb3 : (b2 ++ yB false).length ≤ 200005 := by rw [List.length_append]; simp [yB, be_len]; omega
  clear g0 g1 g2 g3 g4 g5 g6 hy
  obtain ⟨g0, g1, g2, g3, g4, g5, g6⟩ := HB.out w3 hk03
  have hy := hE3.yes false (by omega)
  go_wp2_with fail
  refine hy.mono ?_
  rintro e w4 ⟨rfl, hE4, hk4⟩
  have hk04 := hk03.trans hk4
  have hlb4 : (b2 ++ yB false ++ yB false).length ≤ 200006 := by rw [List.length_append]; simp [yB, be_len] at hlb3 ⊢; omega
  clear g0 g1 g2 g3 g4 g5 g6 hy hk2 hk3 hk03 hE2 hE3 hlb2 hlb3
  obtain ⟨b4, hb4⟩ : ∃ l, l = b2 ++ yB false ++ yB false := ⟨_, rfl⟩
  rw [← hb4] at hE4 hlb4
  have c44 := (HB.out w4 hk04).2.2.2.2.1
  have hu := (hE4.chr (Ch.refl w4).drew).u2 0 (by omega) (by omega)
  have HT : Hid (∀ w', Ch w4 w' → w'.cell? ⟨w.heap.size, 4, none⟩ = some (.slice none 0 0)) := fun w' hw => cell_keep hw c44
  go_wp2_with fail
  go_region_held (fun w' => w'.cell? ⟨w.heap.size, 4, none⟩ = some (.slice none 0 0)) (first | assumption | (refine HT.out _ ?_; repeat (first | exact Ch.refl _ | refine Ch.drew ?_ | refine Ch.alloc ?_ _ | refine Ch.trans ?_ (by assumption)))) (first
    | (go_at_call 25; (with_reducible refine hu.mono ?_); rintro e w5 ⟨rfl, hE5, hk5⟩; have hk05 := (hk04.chr (Ch.refl w4).drew).trans hk5; have c45 := (HB.out w5 hk05).2.2.2.2.1))
  have hlb5 : (b4 ++ be 0 2).length ≤ 200008 := by rw [List.length_append, be_len]; omega
  clear hu HT
  obtain ⟨b5, hb5⟩ : ∃ l, l = b4 ++ be 0 2 := ⟨_, rfl⟩
  rw [← hb5] at hE5 hlb5
  have ht := hE5.texts [] (.slice none 0 0) (nilSl _ _ _) (fun b off n' c e _ => by cases e) (fun x hx => by simp at hx) (by simp; omega)
  go_wp2_with fail
  refine ht.mono ?_
  rintro e w6 ⟨rfl, hE6, hk6⟩
  have hk06 := hk05.trans hk6
  rw [show b5 ++ (([] : List ByteArray).map bl).flatMap (pB L) = b5 by simp] at hE6
  have hlb6 : b5.length ≤ 200008 := hlb5
  clear ht c44 c45
  have c56 := (HB.out w6 hk06).2.2.2.2.2.1
  have hu := (hE6.chr (Ch.refl w6).drew).u2 0 (by omega) (by omega)
  have HT : Hid (∀ w', Ch w6 w' → w'.cell? ⟨w.heap.size, 5, none⟩ = some (.slice none 0 0)) := fun w' hw => cell_keep hw c56
  go_wp2_with fail
  go_region_held (fun w' => w'.cell? ⟨w.heap.size, 5, none⟩ = some (.slice none 0 0)) (first | assumption | (refine HT.out _ ?_; repeat (first | exact Ch.refl _ | refine Ch.drew ?_ | refine Ch.alloc ?_ _ | refine Ch.trans ?_ (by assumption)))) (first
    | (go_at_call 25; (with_reducible refine hu.mono ?_); rintro e w7 ⟨rfl, hE7, hk7⟩; have hk07 := (hk06.chr (Ch.refl w6).drew).trans hk7; have c57 := (HB.out w7 hk07).2.2.2.2.2.1))
  have hlb7 : (b5 ++ be 0 2).length ≤ 200010 := by rw [List.length_append, be_len]; omega
  clear hu HT
  obtain ⟨b7, hb7⟩ : ∃ l, l = b5 ++ be 0 2 := ⟨_, rfl⟩
  rw [← hb7] at hE7 hlb7
  go_wp2
  go_loopw [44] (fun i wr => i = .int .i64 0 ∧ wr = w7) (fun _ _ => 0)
  case atStart => exact ⟨rfl, rfl⟩
  case round =>
    obtain ⟨rfl, hwr⟩ := hrel
    subst hwr
    have c67 := (HB.out wr hk07).2.2.2.2.2.2
    have hu := (hE7.chr (Ch.refl wr).drew).u2 0 (by omega) (by omega)
    have HT : Hid (∀ w', Ch wr w' → w'.cell? ⟨w.heap.size, 6, none⟩ = some (.slice none 0 0)) := fun w' hw => cell_keep hw c67
    go_wp2_with fail
    go_region_held (fun w' => w'.cell? ⟨w.heap.size, 6, none⟩ = some (.slice none 0 0)) (first | assumption | (refine HT.out _ ?_; repeat (first | exact Ch.refl _ | refine Ch.drew ?_ | refine Ch.alloc ?_ _ | refine Ch.trans ?_ (by assumption)))) (first
      | (go_at_call 25; (with_reducible refine hu.mono ?_); rintro e w8 ⟨rfl, hE8, hk8⟩; have hk08 := (hk07.chr (Ch.refl wr).drew).trans hk8; have c68 := (HB.out w8 hk08).2.2.2.2.2.2))
    go_wp2
    go_loopw [70] (fun i wr => i = .int .i64 0 ∧ wr = w8) (fun _ _ => 0)
    case atStart => exact ⟨rfl, rfl⟩
    case round =>
      obtain ⟨rfl, hwr⟩ := hrel
      subst hwr
      go_wp2
      go_end0
      rw [hb7, hb5, hb4, hb2] at hE8
      simp only [List.append_assoc] at hE8
      exact ⟨rfl, hE8⟩

def leastK (n s : ByteArray) : Cls := ⟨n, s, false, false, [], [], []⟩
theorem least_at (n s : ByteArray) (w : World) : ClsAt w (leastK n s) (.slice none 0 0) (.slice none 0 0) (.slice none 0 0) := ⟨nilSl _ _ _, nilSl _ _ _, nilSl _ _ _⟩
theorem least_fine (n s : ByteArray) (hn : n.size ≤ 100) (hs : s.size ≤ 100) : Fine (leastK n s) :=
  ⟨by show n.size ≤ _; omega, by show s.size ≤ _; omega, fun s hs => (by cases hs), fun s hs => (by cases hs), fun s hs => (by cases hs), by simp [clsX, leastK]⟩
def nA : ByteArray := ⟨#[65]⟩
def nO : ByteArray := ⟨#[79, 98, 106, 101, 99, 116]⟩
def nE : ByteArray := ⟨#[]⟩
theorem least_ok : chkE (leastK nA nO) = 0 := by decide +kernel
theorem least_no : chkE (leastK nE nE) = 6 := by decide +kernel
theorem least_pool : poolL (leastK nA nO) = [[65], [79, 98, 106, 101, 99, 116]] := by decide +kernel
end Go.Proofs.YtdalibfgkkgcpaaGreat
namespace Go.Proofs.YtdalibfgkkgcpaaGreat
open Go.RowKit
set_option linter.unusedVariables false

theorem row_string {w : World} {sv : Value} {bs : List Int} (h : Row w sv bs) : (convert 29 9 sv).run Tryz.prog w = .ok (.string (strOfNums bs)) w := by
  rcases h with ⟨rfl, rfl⟩ | ⟨a, cap, rfl, hc⟩
  · exact run_convert_bytes_nil w 29 5 Tryz.underlying29 Tryz.underlying5 0 0 9 Tryz.underlying9
  · have hl := run_loadCells_list (P := Tryz.prog) w a (bs.map (Value.int .u8)) hc
    rw [List.length_map] at hl
    rw [run_convert_bytes_string w 29 9 5 _ bs.length cap Tryz.underlying29 Tryz.underlying5 Tryz.underlying9, run_bytesToString w _ bs.length cap bs hl, foldl_push_bytes]
    simp [strOfNums, ByteArray.empty, ByteArray.emptyWithCapacity]
    rfl
theorem slice_to {base : Nat} {w : World} {ao : Option Addr} {L cb c : Nat} {xs : List Value} (h : w.ownsRow base 5 1 (.slice ao L cb) L xs) (hc : c ≤ L) (hL : L ≤ 140737488355328) (W : World) :
    (Instr.slice 29 (.slice ao L cb) none (some (.int .i64 (c : Int))) none).run Tryz.prog W = .ok (.slice ao c cb) W := by
  rcases h.2 with ⟨hv, h0⟩ | ⟨g, cap, cur, hv, hb, hh, h1, h2, h3, h4⟩
  · have e : ao = none ∧ L = 0 ∧ cb = 0 := by simpa using hv
    obtain ⟨rfl, rfl, rfl⟩ := e
    obtain rfl : c = 0 := by omega
    have := Tryz.underlying29
    go_simp
  · have e : ao = some ⟨g, 0, none⟩ ∧ cb = cap := by simpa using hv
    obtain ⟨rfl, rfl⟩ := e
    have q1 : (0 : Int) ≤ (c : Int) := by omega
    have q2 : (c : Int) ≤ (cb : Int) := by omega
    unfold maxLen at h2
    have := Tryz.underlying29
    go_simp
/-- The first bytes of a row. -/
theorem row_take {base : Nat} {w : World} {ao : Option Addr} {L cb c : Nat} {bs : List Int} (h : w.ownsRow base 5 1 (.slice ao L cb) bs.length (bs.map (Value.int .u8))) (hc : c ≤ bs.length) (h0 : 0 < bs.length) : Row w (.slice ao c cb) (bs.take c) := by
  rcases row_of_owns h with ⟨_, hn⟩ | ⟨a, cap, hv, hcell⟩
  · rw [hn] at h0; simp at h0
  · obtain ⟨rfl, _, rfl⟩ : ao = some a ∧ L = bs.length ∧ cb = cap := by simpa using hv
    refine Or.inr ⟨a, cb, by rw [List.length_take, Nat.min_eq_left hc], fun j u hj => hcell j u ?_⟩
    rw [List.map_take] at hj
    have hjc : j < c := by
      rcases Nat.lt_or_ge j c with h | h
      · exact h
      · rw [List.getElem?_eq_none (by rw [List.length_take, List.length_map]; omega)] at hj; cases hj
    rwa [List.getElem?_take_of_lt hjc] at hj

theorem encode_no (c : Cls) (vi vf vm : Value) (w : World) (h : ClsAt w c vi vf vm) (hF : Fine c) (x : Int) (hx : chkE c = x) (h0 : x ≠ 0) :
    Calls Tryz.prog 9 #[.agg #[.string c.n, .string c.s, .bool c.it, .bool c.ab, vi, vf, vm]] w fun e w' => e = .returned (.tuple #[.slice none 0 0, .int .i64 x]) ∧ Ch w w' := by
  have hck : ∀ w0, Ch w w0 → _ := fun w0 k => check_cls c vi vf vm w0 (h.keep k) hF
  rw [hx] at hck
  have hcW : Ch w (w.alloc (.cells #[.string c.n, .string c.s, .bool c.it, .bool c.ab, vi, vf, vm] 26)) := (Ch.refl w).alloc _
  obtain ⟨ai, ci, rfl, _, _⟩ := h.1.form
  obtain ⟨af, cf, rfl, _, _⟩ := h.2.1.form
  obtain ⟨am, cm, rfl, _, _⟩ := h.2.2.form
  clear h hF hx
  have t0 : (x == 0) = false := by simpa using h0
  go_enter Tryz.func9, Tryz.ntmps9
  go_wp2_with (first
    | (go_at_call 11; (with_reducible refine (hck _ hcW).mono ?_); rintro e w2 ⟨rfl, hc2⟩))
  go_ret2
  exact ⟨rfl, hcW.trans hc2⟩

theorem least_enc (w : World) : Calls Tryz.prog 9 #[.agg #[.string ⟨#[65]⟩, .string ⟨#[79, 98, 106, 101, 99, 116]⟩, .bool false, .bool false, .slice none 0 0, .slice none 0 0, .slice none 0 0]] w
    fun e w' => ∃ v, e = .returned (.tuple #[v, .int .i64 0]) ∧ w'.ownsRow w.heap.size 5 1 v (headB [[65], [79, 98, 106, 101, 99, 116]] ++ leastB [[65], [79, 98, 106, 101, 99, 116]] nA nO).length ((headB [[65], [79, 98, 106, 101, 99, 116]] ++ leastB [[65], [79, 98, 106, 101, 99, 116]] nA nO).map (Value.int .u8)) ∧ Ch w w' := by
  have h := encode_with (leastK nA nO) (.slice none 0 0) (.slice none 0 0) (.slice none 0 0) w (least_at _ _ _) (least_fine _ _ (by decide) (by decide)) least_ok (by rw [least_pool]; decide) (by rw [least_pool]; decide) (by rw [least_pool]; decide) (leastB (poolL (leastK nA nO)) nA nO) (by rw [least_pool]; decide)
    (fun B r M w0 w1 bs hE _ _ hl => by
      exact hE.least nA nO (by decide) (by decide) hl)
  rw [least_pool] at h
  exact h
end Go.Proofs.YtdalibfgkkgcpaaGreat
