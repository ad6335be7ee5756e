/- The encoder: texts by their places, yes and no. -/
import Derived.Test.YtdalibfgkkgcpaaGreatEncA
import Derived.Test.YtdalibfgkkgcpaaGreatPoolE
namespace Go.Proofs.YtdalibfgkkgcpaaGreat
open Go.RowKit
set_option linter.unusedVariables false

def pB (L : List (List UInt8)) (s : List UInt8) : List Int := be (plc L s) 2
def yB (b : Bool) : List Int := be (if b then 1 else 0) 1
theorem pB_len (L : List (List UInt8)) (s : List UInt8) : (pB L s).length = 2 := be_len _ _
theorem plc_bd {L : List (List UInt8)} (hL : L.length ≤ 500) (s : List UInt8) : 0 ≤ plc L s ∧ plc L s ≤ 65535 := by
  unfold plc
  split
  · have := List.idxOf_le_length (l := L) (a := s)
    omega
  · omega

/-- How an encoder stands: its bytes, and the map below B. -/
structure Es (B r M : Nat) (L : List (List UInt8)) (w0 w : World) (bs : List Int) : Prop where
  en : ∃ v, En B w r M v bs
  mp : Mp w M L
  mb : M < B
  bw : B ≤ w.heap.size
  kp : Kp B [5, 63] w0 w
  ll : L.length ≤ 500
  len : bs.length ≤ 2000000
variable {B r M : Nat} {L : List (List UInt8)} {w0 w : World} {bs : List Int}
theorem Es.wrote {w' : World} {bs' : List Int} (h : Es B r M L w0 w bs) (k : Wrote B r M bs' w w') (hl : bs'.length ≤ 2000000) : Es B r M L w0 w' bs' := by
  obtain ⟨v, h1, h2⟩ := k
  exact ⟨⟨v, h1⟩, h.mp.keep (h2.block M h.mp.lt (Or.inl h.mb)), h.mb, Nat.le_trans h.bw h2.size, h.kp.trans h2, h.ll, hl⟩
theorem Es.chr {w' : World} (h : Es B r M L w0 w bs) (c : Ch w w') : Es B r M L w0 w' bs := by
  obtain ⟨v, h1⟩ := h.en
  exact ⟨⟨v, h1.keep c⟩, h.mp.keep (c.block M h.mp.lt), h.mb, Nat.le_trans h.bw c.size, h.kp.chr c, h.ll, h.len⟩
/-- Its words, with what has stayed since the call. -/
def Put (B r M : Nat) (L : List (List UInt8)) (w0 : World) (bs : List Int) (w w' : World) : Prop := Es B r M L w0 w' bs ∧ Kp B [5, 63] w w'
theorem Es.u1 (h : Es B r M L w0 w bs) (n : Int) (h0 : 0 ≤ n ∧ n ≤ 255) (hl : bs.length + 1 ≤ 2000000) :
    Calls Tryz.prog 102 #[.pointer (some ⟨r, 0, none⟩), .int .i64 n] w fun e w' => e = .returned (.pointer (some ⟨r, 0, none⟩)) ∧ Put B r M L w0 (bs ++ be n 1) w w' := by
  obtain ⟨v, h1⟩ := h.en
  exact (wu1_ok n h1 h0 (by omega) h.bw).mono fun e w' ⟨a, b⟩ => ⟨a, h.wrote b (by rw [List.length_append, be_len]; omega), by obtain ⟨_, _, k⟩ := b; exact k⟩
theorem Es.u2 (h : Es B r M L w0 w bs) (n : Int) (h0 : 0 ≤ n ∧ n ≤ 65535) (hl : bs.length + 2 ≤ 2000000) :
    Calls Tryz.prog 25 #[.pointer (some ⟨r, 0, none⟩), .int .i64 n] w fun e w' => e = .returned (.pointer (some ⟨r, 0, none⟩)) ∧ Put B r M L w0 (bs ++ be n 2) w w' := by
  obtain ⟨v, h1⟩ := h.en
  exact (wu2_ok n h1 h0 (by omega) h.bw).mono fun e w' ⟨a, b⟩ => ⟨a, h.wrote b (by rw [List.length_append, be_len]; omega), by obtain ⟨_, _, k⟩ := b; exact k⟩
theorem Es.i4 (h : Es B r M L w0 w bs) (n : Int) (h0 : -2147483648 ≤ n ∧ n ≤ 2147483647) (hl : bs.length + 4 ≤ 2000000) :
    Calls Tryz.prog 24 #[.pointer (some ⟨r, 0, none⟩), .int .i64 n] w fun e w' => e = .returned (.pointer (some ⟨r, 0, none⟩)) ∧ Put B r M L w0 (bs ++ be n 4) w w' := by
  obtain ⟨v, h1⟩ := h.en
  exact (wi4_ok n h1 h0 (by omega) h.bw).mono fun e w' ⟨a, b⟩ => ⟨a, h.wrote b (by rw [List.length_append, be_len]; omega), by obtain ⟨_, _, k⟩ := b; exact k⟩
theorem Es.text (h : Es B r M L w0 w bs) (s : ByteArray) (hs : s.size ≤ 65535) (hl : bs.length + (s.size + 2) ≤ 2000000) :
    Calls Tryz.prog 26 #[.pointer (some ⟨r, 0, none⟩), .string s] w fun e w' => e = .returned (.pointer (some ⟨r, 0, none⟩)) ∧ Put B r M L w0 (bs ++ (be s.size 2 ++ sb s)) w w' := by
  obtain ⟨v, h1⟩ := h.en
  exact (wtext_ok s h1 hs (by omega) h.bw).mono fun e w' ⟨a, b⟩ => ⟨a, h.wrote b (by rw [List.length_append, List.length_append, be_len, sb_length]; omega), by obtain ⟨_, _, k⟩ := b; exact k⟩
theorem Es.c2 (h : Es B r M L w0 w bs) : w.cell? ⟨r, 2, none⟩ = some (.map (some M)) := by obtain ⟨v, h1⟩ := h.en; exact h1.c2

theorem Es.yes (h : Es B r M L w0 w bs) (b : Bool) (hl : bs.length + 1 ≤ 2000000) :
    Calls Tryz.prog 64 #[.pointer (some ⟨r, 0, none⟩), .bool b] w fun e w' => e = .returned (.tuple #[]) ∧ Put B r M L w0 (bs ++ yB b) w w' := by
  unfold yB
  cases b
  · have hu := h.u1 0 (by omega) hl
    go_enter Tryz.func64, Tryz.ntmps64
    go_wp2_with (first
      | (go_at_call 102; (with_reducible refine hu.mono ?_); rintro e w2 ⟨rfl, hp⟩))
    go_end0
    exact ⟨rfl, hp⟩
  · have hu := h.u1 1 (by omega) hl
    go_enter Tryz.func64, Tryz.ntmps64
    go_wp2_with (first
      | (go_at_call 102; (with_reducible refine hu.mono ?_); rintro e w2 ⟨rfl, hp⟩))
    refine bodyPost_ret (results_none rfl _ _ _) rfl ?_
    exact ⟨rfl, hp⟩
/-- What an encoder does not turn. -/
def Safe (B : Nat) (w : World) (b : Nat) : Prop := b < B ∨ ∃ cs t fr, w.heap[b]? = some (.cells cs t fr) ∧ t ∉ ([5, 63] : List TypeId)
theorem Safe.keep {w' : World} {b : Nat} (h : Safe B w b) (hb : b < w.heap.size) (k : Kp B [5, 63] w w') : w'.heap[b]? = w.heap[b]? := k.block b hb h

set_option maxRecDepth 100000 in
set_option maxHeartbeats 4000000 in
theorem Es.texts (h : Es B r M L w0 w bs) (xs : List ByteArray) (v : Value) (hv : Sl 1 RS w v xs) (hsafe : ∀ b off n c, v = .slice (some ⟨b, off, none⟩) n c → 0 < xs.length → Safe B w b) (hsz : ∀ s ∈ xs, s.size ≤ 100000) (hl : bs.length + 2 * xs.length ≤ 2000000) :
    Calls Tryz.prog 63 #[.pointer (some ⟨r, 0, none⟩), v] w fun e w' => e = .returned (.tuple #[]) ∧ Put B r M L w0 (bs ++ (xs.map bl).flatMap (pB L)) w w' := by
  obtain ⟨ao, cv, rfl, hv1, hv2⟩ := hv.form
  obtain ⟨goal, hgoal⟩ : ∃ l, bs ++ (xs.map bl).flatMap (pB L) = l := ⟨_, rfl⟩
  rw [hgoal]
  go_enter Tryz.func63, Tryz.ntmps63
  go_wp2
  go_loopw [8] (fun i wr => ∃ (k : Nat) (bs' : List Int), k ≤ xs.length ∧ i = .int .i64 k ∧ Put B r M L w0 bs' w wr ∧ bs' ++ ((xs.map bl).drop k).flatMap (pB L) = goal ∧ bs'.length + 2 * (xs.length - k) ≤ 2000000) (fun i _ => xs.length - (intOf i).toNat)
  case atStart => exact ⟨0, bs, Nat.zero_le _, rfl, ⟨h, Kp.refl _ _ _⟩, by simpa using hgoal, by omega⟩
  case round =>
    clear hgoal
    obtain ⟨k, bs', hk, rfl, ⟨hE, hK⟩, hd, hbl⟩ := hrel
    by_cases hlt : k < xs.length
    · obtain ⟨x, hx⟩ : ∃ a, xs[k]? = some a := ⟨_, List.getElem?_eq_getElem hlt⟩
      have hxs := hsz x (List.mem_of_getElem? hx)
      have hxm : (xs.map bl)[k]? = some (bl x) := by rw [List.getElem?_map, hx]; rfl
      rw [flat_step (pB L) hxm, ← List.append_assoc] at hd
      obtain ⟨b, off, hao, d00⟩ := hv.atS hx
      subst hao
      have hbl0 : b < w.heap.size := World.block_lt_of_cell? _ _ d00
      have d0 : wr.cell? ⟨b, off + k, none⟩ = some (.string x) := by
        rw [World.cell?_of_block (w := w) ((hsafe b off _ _ rfl (by omega)).keep hbl0 hK)]
        exact d00
      have lk : (Instr.lookup 56 (.map (some M)) (.string x) false).run Tryz.prog wr.drew = .ok (.int .i64 (plc L (bl x))) wr.drew := ((Mp.keep (w' := wr.drew) hE.mp rfl).look x hxs).2
      have hu := (hE.chr (Ch.refl wr).drew).u2 (plc L (bl x)) (plc_bd hE.ll _) (by omega)
      have c2 := hE.c2
      have HT : Hid (∀ w', Ch wr w' → w'.cell? ⟨r, 2, none⟩ = some (.map (some M))) := fun w' hw => cell_keep hw c2
      unfold pB at hd
      have HD : Hid ((bs' ++ be (plc L (bl x)) 2) ++ ((xs.map bl).drop (k + 1)).flatMap (fun s => be (plc L s) 2) = goal) := hd
      have HK : Hid (Kp B [5, 63] w wr) := hK
      clear hd hx hxm d00 hE hK h hv hsafe
      generalize plc L (bl x) = pc at *
      go_wp2_with fail
      go_region_held (fun w' => w'.cell? ⟨r, 2, none⟩ = some (.map (some M))) (first | assumption | (refine HT.out _ ?_; repeat (first | exact Ch.refl _ | refine Ch.drew ?_ | refine Ch.alloc ?_ _ | refine Ch.trans ?_ (by assumption)))) (first
        | (go_at_call 25; (with_reducible refine hu.mono ?_); rintro e w3 ⟨rfl, hp3⟩; have c3 := Es.c2 hp3.1))
      all_goals
        go_wp2
        go_roundw
        case rel => exact ⟨k + 1, _, by omega, by go_num, ⟨hp3.1, (HK.out.chr (Ch.refl wr).drew).trans hp3.2⟩, (by unfold pB; exact HD.out), by rw [List.length_append, be_len]; omega⟩
        case measure => simp [intOf]; omega
    · obtain rfl : k = xs.length := by omega
      rw [flat_end (pB L) (by simp), List.append_nil] at hd
      subst hd
      go_wp2
      go_end0
      exact ⟨rfl, hE, hK⟩
end Go.Proofs.YtdalibfgkkgcpaaGreat
