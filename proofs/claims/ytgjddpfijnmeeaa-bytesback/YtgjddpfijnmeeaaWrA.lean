/- The walk of the law BytesWrites: its loop. -/
import Derived.Test.YtgjddpfijnmeeaaItB
import Derived.Maps.AppendAt
import Derived.Lib.Builder
namespace Go.Proofs.Ytgjddpfijnmeeaa
open Go.RowKit
set_option linter.unusedVariables false

/-- The writer and what is wanted, side by side. -/
structure Both (w wr : World) (rw : Nat) (v vw : Value) (good : Bool) (wb : List Int) : Prop where
  t : Wt wr rw v (if good then wb else []) (!good)
  own : wr.ownsRow w.heap.size 5 1 vw wb.length (wb.map (Value.int .u8))
  c : Ch (fun _ => False) w wr
  br : w.heap.size ≤ rw
  bv : ∀ g, v.ownBlock = some g → w.heap.size ≤ g ∧ vw.ownBlock ≠ some g

theorem Both.wne {w wr : World} {rw : Nat} {v vw : Value} {good : Bool} {wb : List Int} (h : Both w wr rw v vw good wb) : vw.ownBlock ≠ some rw := by
  intro e
  rcases h.own.2 with ⟨hv, _⟩ | ⟨g, cap, cur, hv, hg, hh, _⟩
  · rw [hv] at e; cases e
  · rw [hv] at e
    have : g = rw := by simpa [Value.ownBlock] using e
    subst this
    rw [h.t.blk] at hh
    simp at hh

/-- Behind the writing of an item. -/
theorem Both.write {w wr w1 : World} {rw : Nat} {v vw : Value} {good : Bool} {wb : List Int} (h : Both w wr rw v vw good wb) {ok : Bool} {ib : List Int}
    (h1 : Wrote wr w1 rw v (wroteB (!good) ok (if good then wb else []) ib) (wroteF (!good) ok)) :
    ∃ v1, Wt w1 rw v1 (if (good && ok) then wb ++ ib else []) (!(good && ok)) ∧ w1.ownsRow w.heap.size 5 1 vw wb.length (wb.map (Value.int .u8)) ∧ Ch (fun _ => False) w w1 ∧ (∀ g, v1.ownBlock = some g → w.heap.size ≤ g ∧ vw.ownBlock ≠ some g) := by
  obtain ⟨v1, ht, hc, hg⟩ := h1
  refine ⟨v1, ?_, ?_, ?_, ?_⟩
  · cases good <;> cases ok <;> simpa [wroteB, wroteF] using ht
  · refine ownsRow_keep h.own hc (fun g hg' e => ?_)
    rcases e with e | e
    · exact h.wne (by rw [hg', e])
    · exact (h.bv g e).2 hg'
  · refine h.c.chain hc (fun i hi e => ?_)
    rcases e with e | e
    · have := h.br; omega
    · have := (h.bv i e).1; omega
  · intro g hgg
    rcases hg g hgg with e | e
    · exact h.bv g e
    · refine ⟨by have := h.c.size; omega, fun e2 => ?_⟩
      have := (h.own.lt g e2).2
      omega

theorem be_len (n : Int) (k : Nat) : (be n k).length = k := by induction k with
  | zero => rfl
  | succ k ih => simp [be, ih]
theorem itemB_len (k n : Int) (s : ByteArray) : (itemB k n s).length ≤ s.size + 4 := by
  unfold itemB
  split
  · rw [be_len]; omega
  split
  · rw [be_len]; omega
  split
  · rw [be_len]; omega
  split
  · rw [List.length_append, be_len, sb_length]; omega
  · simp

theorem tot_mono (S : Nat → ByteArray) (len : Nat) : ∀ k, k ≤ len → tot S k ≤ tot S len := by
  induction len with
  | zero => intro k hk; obtain rfl : k = 0 := by omega
            exact Nat.le_refl _
  | succ n ih =>
    intro k hk
    by_cases e : k = n + 1
    · subst e; exact Nat.le_refl _
    · have := ih k (by omega)
      simp only [tot]; omega

theorem wpList_append_row {w : World} {ops : Array Oper} {rest : List Oper} {o : Oper} {a : Act} {Q : Exit → Act → World → Prop} (hgd : o.guard = none) (s x : Operand)
    (ho : o.op = .call { callee := .builtin .append, args := #[s, x], argTypes := #[25, 25] }) (base : Nat)
    (v : Value) (bs news : List Int) (hs : a.eval s = v) (hown : w.ownsRow base 5 1 v bs.length (bs.map (Value.int .u8))) (sv : Value) (hx : a.eval x = sv) (hrow : Row w sv news)
    (hbytes : bs.length + news.length ≤ 140737488355328) (hbase : base ≤ w.heap.size)
    (h : ∀ v' w', w'.ownsRow base 5 1 v' (bs ++ news).length ((bs ++ news).map (Value.int .u8)) → w.grownBy w' v.ownBlock → (v'.ownBlock = v.ownBlock ∨ v'.ownBlock = some w.heap.size) → wpList Try.prog ops Q rest (a.put o.dst v') w') :
    wpList Try.prog ops Q (o :: rest) a w := by
  obtain ⟨i0, hi, hz0, hz1, hz2⟩ := info_parts Try.info5
  rcases hrow with ⟨rfl, rfl⟩ | ⟨ad, cap, rfl, hc⟩
  · refine wpList_append_own_none hgd s x 25 ho base 5 i0 1 Try.underlying25 hi v bs.length _ hs hown hx ?_
    exact h v w (by simpa using hown) ⟨rfl, rfl, rfl, Nat.le_refl _, fun _ _ _ => rfl⟩ (Or.inl rfl)
  · refine wpList_append_own_at _ hgd s x 25 ho base 5 i0 (.int .u8 0) 1 1 Try.underlying25 hi hz0 hz1 hz2 rfl (by omega) v bs.length _ hs hown ad news.length cap (news.map (Value.int .u8)) hx (by simp) hc (fun u hu => by simp at hu; obtain ⟨x, _, rfl⟩ := hu; rfl) (by unfold maxLen; omega) (by omega) hbase ?_
    intro v' w' h1 h2 _ h4
    exact h v' w' (by simpa using h1) h2 h4

/-- Behind the appending to what is wanted. -/
theorem Both.wanted {w w3 w4 : World} {rw : Nat} {v1 vw v4 : Value} {good : Bool} {wb ib : List Int} (ht : Wt w3 rw v1 (if good then wb ++ ib else []) (!good)) (hown : w3.ownsRow w.heap.size 5 1 vw wb.length (wb.map (Value.int .u8))) (hc : Ch (fun _ => False) w w3) (hr : w.heap.size ≤ rw)
    (hbv : ∀ g, v1.ownBlock = some g → w.heap.size ≤ g ∧ vw.ownBlock ≠ some g) (hown4 : w4.ownsRow w.heap.size 5 1 v4 (wb ++ ib).length ((wb ++ ib).map (Value.int .u8))) (hgrow : w3.grownBy w4 vw.ownBlock) (hat : v4.ownBlock = vw.ownBlock ∨ v4.ownBlock = some w3.heap.size) :
    Both w w4 rw v1 v4 good (wb ++ ib) := by
  have hne : vw.ownBlock ≠ some rw := by
    intro e
    rcases hown.2 with ⟨hv, _⟩ | ⟨g, cap, cur, hv, hg, hh, _⟩
    · rw [hv] at e; cases e
    · rw [hv] at e
      have : g = rw := by simpa [Value.ownBlock] using e
      subst this
      rw [ht.blk] at hh
      simp at hh
  have hch : Ch (fun k => vw.ownBlock = some k) w3 w4 := (Ch.refl _ _).grown hgrow (fun k hk => Or.inl hk)
  refine ⟨?_, hown4, hc.chain hch (fun i hi e => by have := (hown.lt i e).1; omega), hr, ?_⟩
  · exact ht.keep hch hne (fun g hg e => (hbv g hg).2 e)
  · intro g hg
    refine ⟨(hbv g hg).1, fun e => ?_⟩
    rcases hat with h | h
    · exact (hbv g hg).2 (by rw [← h]; exact e)
    · rw [h] at e
      have e2 : w3.heap.size = g := by simpa using e
      have := ht.ownlt hg
      omega

theorem Items.at {w w' : World} {b off len : Nat} {K N : Nat → Int} {S : Nat → ByteArray} (h : Items w (some ⟨b, off, none⟩) len K N S) (c : Ch (fun _ => False) w w') {i : Nat} (hi : i < len) :
    w'.cell? ⟨b, off + i * 3, none⟩ = some (.int .i64 (K i)) ∧ w'.cell? ⟨b, off + i * 3 + 1, none⟩ = some (.int .i64 (N i)) ∧ w'.cell? ⟨b, off + i * 3 + 2, none⟩ = some (.string (S i)) := by
  obtain ⟨b', off', e, hc⟩ := (h.keep c) (by omega)
  have : b = b' ∧ off = off' := by simpa using e
  obtain ⟨rfl, rfl⟩ := this
  exact hc i hi
theorem Try.info27 : (Try.prog.info? 27).isSome = true := by kernel_rfl
theorem ptr_neq (W : World) (a : Addr) : (binOp .neq 28 (.pointer (some a)) (.pointer (some a))).run Try.prog W = .ok (.bool false) W := by
  obtain ⟨j, hj⟩ := Option.isSome_iff_exists.1 Try.info27
  exact Lib.run_neq_ptr_same (P := Try.prog) W a Try.underlying28 hj

set_option maxRecDepth 100000 in
set_option maxHeartbeats 4000000 in
theorem writes_main (a : Option Addr) (len cap : Nat) (K N : Nat → Int) (S : Nat → ByteArray) (w : World) (h : Items w a len K N S) (hS : ∀ i, i < len → (S i).size ≤ 9223372036854775807) (hlen : len ≤ cap) (hcap : cap ≤ 9223372036854775807) :
    Calls Try.prog 3 #[.slice a len cap] w fun e w' => e = .returned (.bool true) ∧ Ch (fun _ => False) w w' := by
  have hsm := small_any a len cap K N S w h hS hlen hcap
  have hpn := ptr_neq
  go_enter Try.func3, Try.ntmps3
  go_wp2_with fail
  refine hsm.mono ?_
  rintro e w1 ⟨⟨bb, rfl, htot⟩, hc1⟩
  cases bb with
  | false =>
    clear htot
    go_wp2_with (first | (go_at_call 8; refine (awake_any _).mono ?_; rintro e w9 ⟨rfl, h9⟩))
    go_ret
    exact ⟨rfl, hc1.chain h9 (fun _ _ x => x)⟩
  | true =>
    have htot := htot rfl
    go_wp2
    have hb0 : Both w (w1.alloc (.cells #[.slice none 0 0, .bool false] 27)) w1.heap.size (.slice none 0 0) (.slice none 0 0) true [] :=
      ⟨⟨heap_alloc_new _ _, World.ownsRow_nil _ _ _ _, by simp⟩, World.ownsRow_nil _ _ _ _, hc1.alloc _, hc1.size, fun g hg => by cases hg⟩
    go_loopw [5, 6, 7] (fun wv g i wr => ∃ (k : Nat) (v vw : Value) (good : Bool) (wb : List Int), k ≤ len ∧ i = .int .i64 k ∧ wv = vw ∧ g = .bool good ∧ Both w wr w1.heap.size v vw good wb ∧ wb.length ≤ tot S k) (fun _ _ i _ => len - (intOf i).toNat)
    case atStart => exact ⟨0, _, _, true, [], Nat.zero_le _, rfl, rfl, rfl, hb0, Nat.zero_le _⟩
    case round =>
      obtain ⟨k, v, vw, good, wb, hk, rfl, hvw, rfl, hB, hwl⟩ := hrel
      subst hvw
      rename_i u5
      by_cases hlt : k < len
      · obtain ⟨b, off, rfl, hc⟩ := (h.keep hB.c) (by omega)
        obtain ⟨c0, c1, c2⟩ := hc k hlt
        clear hc
        have htk := tot_mono S len (k + 1) (by omega)
        simp only [tot] at htk
        have hbl : (if good then wb else []).length ≤ wb.length := by cases good <;> simp
        have hwr := write_any (K k) (N k) (S k) w1.heap.size v (if good then wb else []) (!good) wr hB.t (by omega)
        have hib := itemB_len (K k) (N k) (S k)
        have hby := fun W => bytesI_any (K k) (N k) (S k) W (by omega)
        have hwn := fun W => write_nil (K k) (N k) (S k) W
        generalize itemB (K k) (N k) (S k) = ib at *
        generalize itemOk (K k) (N k) (S k) = ok at *
        have HT : Hid (wb.length + ib.length ≤ tot S (k + 1)) := by show _ ≤ _; simp only [tot]; omega
        have hbb : wb.length + ib.length ≤ 140737488355328 := by omega
        clear hib htk
        rcases good with _ | _ <;> rcases ok with _ | _
        all_goals
          go_wp2_with fail
          refine hwr.mono ?_
          rintro e w2 ⟨rfl, h2⟩
          obtain ⟨v2, ht2, ho2, hc2, hb2⟩ := hB.write h2
          obtain ⟨d0, d1, d2⟩ := h.at hc2 hlt
          go_wp2_with fail
          refine (hwn _).mono ?_
          rintro e w3 ⟨rfl, hc3⟩
          have hc30 := hc2.chain hc3 (fun _ _ x => x)
          obtain ⟨f0, f1, f2⟩ := h.at hc30 hlt
          go_wp2_with fail
          refine (hby _).mono ?_
          rintro e w4 ⟨v4, rfl, ho4, hc4⟩
          have hc40 := hc30.chain hc4 (fun _ _ x => x)
          have row4 := row_of_owns ho4
          have ht4 := (ht2.keep hc3 (fun x => x) (fun _ _ x => x)).keep hc4 (fun x => x) (fun _ _ x => x)
          have how4 := ownsRow_keep (ownsRow_keep ho2 hc3 (fun _ _ x => x)) hc4 (fun _ _ x => x)
          have hsz := hc40.size
          clear hwr hwn hby h2 ht2 ho2 hc3 hc4 ho4 d0 d1 d2 f0 f1 f2 c0 c1 c2
          go_wp2_with (first | (at_builtin; refine wpList_append_row rfl (.tmp 47) (.tmp 48) rfl w.heap.size _ wb ib rfl how4 v4 rfl row4 hbb hsz ?_; intro v5 w5 ho5 hgrow hat; have hB5 := Both.wanted ht4 how4 hc40 hB.br hb2 ho5 hgrow hat) | (go_at_call 11; refine (bad_any _ _ _ _ _ hB5.t).mono ?_; rintro e w6 ⟨rfl, hw6⟩; have hw6 := hw6.symm; subst hw6))
          go_roundw
          case rel => exact ⟨k + 1, v2, v5, _, wb ++ ib, by omega, by go_num, rfl, rfl, hB5, by rw [List.length_append]; exact HT.out⟩
          case measure => simp [intOf]; omega
      · obtain rfl : k = len := by omega
        rcases good with _ | _
        · have hrow : ∀ W, Ch (fun _ => False) wr W → Row W (.slice none 0 0) [] := fun W _ => Or.inl ⟨rfl, rfl⟩
          have hcs : ∀ W, Ch (fun _ => False) wr W → (convert 25 9 (.slice none 0 0)).run Try.prog W = .ok (.string (strOfNums [])) W := fun W hW => row_string (hrow W hW)
          have hs0 := hcs wr.drew (Ch.refl _ _).drew
          have HCS : Hid (∀ W, Ch (fun _ => False) wr W → (convert 25 9 (.slice none 0 0)).run Try.prog W = .ok (.string (strOfNums [])) W) := hcs
          clear hcs hrow
          have ht : Wt wr.drew w1.heap.size v [] true := (show Wt wr w1.heap.size v [] true from hB.t).drewN 1
          go_wp2_with fail
          go_region_held (fun w' => (convert 25 9 (.slice none 0 0)).run Try.prog w' = .ok (.string (strOfNums [])) w') (assumption) (first
            | (go_at_call_of 12 (Value.pointer (some ⟨w1.heap.size, 0, none⟩)); refine (bytes_any w1.heap.size v [] true _ ht).mono ?_; rintro e w7 ⟨v7, rfl, ho7, hc7⟩; have hcv7 := row_string (row_of_owns (bs := []) ho7); have hc70 := ((Ch.refl (fun _ => False) wr).drew).chain hc7 (fun _ _ x => x); have hs7 := HCS.out w7 hc70)
            | (go_at_call_of 12 (Value.pointer none); refine (bytes_nil _).mono ?_; rintro e w8 ⟨rfl, rfl⟩)
            | (go_at_call 11; refine (bad_nil _).mono ?_; rintro e w8 ⟨rfl, rfl⟩)
            | (go_at_call 8; refine (awake_any _).mono ?_; rintro e w9 ⟨rfl, h9⟩; have hc90 := hc70.chain h9 (fun _ _ x => x); have hs9 := HCS.out w9 hc90))
          all_goals
            go_wp2
            go_ret
            exact ⟨rfl, hB.c.chain hc90 (fun _ _ x => x)⟩
        · have hrow : ∀ W, Ch (fun _ => False) wr W → Row W u5 wb := fun W hW => row_of_owns (ownsRow_keep hB.own hW (fun _ _ x => x))
          have hcs : ∀ W, Ch (fun _ => False) wr W → (convert 25 9 u5).run Try.prog W = .ok (.string (strOfNums wb)) W := fun W hW => row_string (hrow W hW)
          have hs0 := hcs wr.drew (Ch.refl _ _).drew
          have HCS : Hid (∀ W, Ch (fun _ => False) wr W → (convert 25 9 u5).run Try.prog W = .ok (.string (strOfNums wb)) W) := hcs
          clear hcs hrow
          have ht : Wt wr.drew w1.heap.size v wb false := (show Wt wr w1.heap.size v wb false from hB.t).drewN 1
          go_wp2_with fail
          go_region_held (fun w' => (convert 25 9 u5).run Try.prog w' = .ok (.string (strOfNums wb)) w') (assumption) (first
            | (go_at_call_of 12 (Value.pointer (some ⟨w1.heap.size, 0, none⟩)); refine (bytes_any w1.heap.size v wb false _ ht).mono ?_; rintro e w7 ⟨v7, rfl, ho7, hc7⟩; have hcv7 := row_string (row_of_owns (bs := wb) ho7); have hc70 := ((Ch.refl (fun _ => False) wr).drew).chain hc7 (fun _ _ x => x); have hs7 := HCS.out w7 hc70)
            | (go_at_call_of 12 (Value.pointer none); refine (bytes_nil _).mono ?_; rintro e w8 ⟨rfl, rfl⟩)
            | (go_at_call 11; refine (bad_nil _).mono ?_; rintro e w8 ⟨rfl, rfl⟩)
            | (go_at_call 8; refine (awake_any _).mono ?_; rintro e w9 ⟨rfl, h9⟩; have hc90 := hc70.chain h9 (fun _ _ x => x); have hs9 := HCS.out w9 hc90))
          all_goals
            go_wp2
            go_ret
            exact ⟨rfl, hB.c.chain hc90 (fun _ _ x => x)⟩

end Go.Proofs.Ytgjddpfijnmeeaa
