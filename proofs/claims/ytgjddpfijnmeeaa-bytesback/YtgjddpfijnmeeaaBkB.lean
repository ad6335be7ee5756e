/- The walk of the law BytesBack. -/
import Derived.Test.YtgjddpfijnmeeaaBkA
namespace Go.Proofs.Ytgjddpfijnmeeaa
open Go.RowKit
set_option linter.unusedVariables false

/-- All that was written. -/
def E (K N : Nat → Int) (S : Nat → ByteArray) : Nat → List Int
  | 0 => []
  | k + 1 => E K N S k ++ itemB (K k) (N k) (S k)
theorem E_len (K N : Nat → Int) (S : Nat → ByteArray) (k : Nat) : (E K N S k).length ≤ tot S k := by
  induction k with
  | zero => simp [E, tot]
  | succ k ih => have := itemB_len (K k) (N k) (S k); simp only [E, tot, List.length_append]; omega
theorem be_bd (n : Int) (k : Nat) : ∀ x ∈ be n k, 0 ≤ x ∧ x < 256 := by
  induction k with
  | zero => intro x hx; simp [be] at hx
  | succ k ih =>
    intro x hx
    simp only [be, List.mem_cons] at hx
    rcases hx with rfl | hx
    · omega
    · exact ih x hx
theorem itemB_bd (k n : Int) (s : ByteArray) : ∀ x ∈ itemB k n s, 0 ≤ x ∧ x < 256 := by
  unfold itemB
  split
  · exact be_bd _ _
  split
  · exact be_bd _ _
  split
  · exact be_bd _ _
  split
  · intro x hx
    rcases List.mem_append.1 hx with hx | hx
    · exact be_bd _ _ x hx
    · exact sb_bd _ x hx
  · simp
theorem E_bd (K N : Nat → Int) (S : Nat → ByteArray) (k : Nat) : ∀ x ∈ E K N S k, 0 ≤ x ∧ x < 256 := by
  induction k with
  | zero => simp [E]
  | succ k ih =>
    intro x hx
    rcases List.mem_append.1 hx with hx | hx
    · exact ih x hx
    · exact itemB_bd _ _ _ x hx
theorem E_prefix (K N : Nat → Int) (S : Nat → ByteArray) (k : Nat) : ∀ n, k ≤ n → ∃ t, E K N S n = E K N S k ++ t := by
  intro n hn
  induction n with
  | zero => obtain rfl : k = 0 := by omega
            exact ⟨[], by simp⟩
  | succ n ih =>
    by_cases e : k = n + 1
    · subst e; exact ⟨[], by simp⟩
    · obtain ⟨t, ht⟩ := ih (by omega)
      exact ⟨t ++ itemB (K n) (N n) (S n), by rw [E, ht, List.append_assoc]⟩
/-- What stands behind the first k items. -/
theorem E_at (K N : Nat → Int) (S : Nat → ByteArray) (k n : Nat) (h : k < n) : ∃ t, (E K N S n).drop (E K N S k).length = itemB (K k) (N k) (S k) ++ t ∧ (E K N S n).length = (E K N S k).length + (itemB (K k) (N k) (S k)).length + t.length := by
  obtain ⟨t, ht⟩ := E_prefix K N S (k + 1) n (by omega)
  refine ⟨t, ?_, ?_⟩
  · rw [ht, E, List.append_assoc, List.drop_left]
  · rw [ht, E]; simp; omega

/-- How the second reader stands, behind k items, its bytes cut at c. -/
def Cutat (p c as_ : Nat) (fs : Bool) : Prop := (fs = false ∧ as_ = p ∧ p ≤ c) ∨ (fs = true ∧ c < p)

theorem row_take {w : World} {base : Nat} {ao : Option Addr} {L cb c : Nat} {bs : List Int} (hc : c ≤ bs.length) (h : w.ownsRow base 5 1 (.slice ao L cb) L (bs.map (Value.int .u8))) : Row w (.slice ao c cb) (bs.take c) := by
  have hL : bs.length = L := by have := h.1; simpa using this
  rcases row_of_owns (bs := bs) (by rw [hL]; exact h) with ⟨hv, hb⟩ | ⟨x, cap, hv, hcell⟩
  · subst hb
    have e : ao = none ∧ L = 0 ∧ cb = 0 := by simpa using hv
    obtain ⟨rfl, rfl, rfl⟩ := e
    obtain rfl : c = 0 := by simpa using hc
    exact Or.inl ⟨rfl, rfl⟩
  · have e : ao = some x := by injection hv
    subst e
    refine Or.inr ⟨x, cb, by rw [List.length_take, Nat.min_eq_left hc], fun j u hj => hcell j u ?_⟩
    rw [List.map_take] at hj
    rcases Nat.lt_or_ge j c with hlt | hge
    · rwa [List.getElem?_take_of_lt hlt] at hj
    · rw [List.getElem?_eq_none (by rw [List.length_take]; omega)] at hj; cases hj

/-- What the second reader does at an item. -/
theorem reads_cut (K N : Nat → Int) (S : Nat → ByteArray) (m k c as_ : Nat) (fs : Bool) (s : Nat) (vs : Value) (W : World) (hlt : m < k) (h : Rd W s vs ((E K N S k).take c) as_ fs) (hv : valid (K m) (N m) (S m)) (hcut : Cutat (E K N S m).length c as_ fs) (hcL : c ≤ (E K N S k).length) :
    Calls Try.prog 23 #[.pointer (some ⟨s, 0, none⟩), .agg #[.int .i64 (K m), .int .i64 (N m), .string (S m)]] W fun e W' => SomeBool e ∧ ∃ as' fs', Rd W' s vs ((E K N S k).take c) as' fs' ∧ Cutat (E K N S (m + 1)).length c as' fs' ∧ Ch (· = s) W W' := by
  obtain ⟨t, ht1, ht2⟩ := E_at K N S m k hlt
  have hEm : (E K N S (m + 1)).length = (E K N S m).length + (itemB (K m) (N m) (S m)).length := by rw [E, List.length_append]
  have hlc : ((E K N S k).take c).length = c := by rw [List.length_take]; omega
  have hpos := itemB_pos hv
  rcases hcut with ⟨rfl, rfl, hp⟩ | ⟨rfl, hp⟩
  · have hd : ((E K N S k).take c).drop (E K N S m).length = (itemB (K m) (N m) (S m) ++ t).take (c - (E K N S m).length) := by rw [List.drop_take, ht1]
    by_cases hfit : (E K N S m).length + (itemB (K m) (N m) (S m)).length ≤ c
    · have hok := reads_ok (K m) (N m) (S m) s vs _ _ W h hv (by rw [hlc]; exact hfit) (by rw [hd, List.take_take, Nat.min_eq_left (by omega), List.take_left])
      exact hok.mono fun e W' ⟨h1, h2, h3⟩ => ⟨⟨_, h1⟩, _, false, h2, Or.inl ⟨rfl, by rw [hEm], by omega⟩, h3⟩
    · have hno := reads_no (K m) (N m) (S m) s vs _ _ false W h hv (Or.inr ⟨rfl, by rw [hlc]; omega, by rw [hlc, hd, List.take_append_of_le_length (by omega)]⟩)
      exact hno.mono fun e W' ⟨h1, h2, h3⟩ => ⟨h1, _, true, h2, Or.inr ⟨rfl, by omega⟩, h3⟩
  · have hno := reads_no (K m) (N m) (S m) s vs _ _ true W h hv (Or.inl rfl)
    exact hno.mono fun e W' ⟨h1, h2, h3⟩ => ⟨h1, _, true, h2, Or.inr ⟨rfl, by omega⟩, h3⟩

theorem slice_to {base : Nat} {w : World} {ao : Option Addr} {L cb c : Nat} {xs : List Value} (h : w.ownsRow base 5 1 (.slice ao L cb) L xs) (hc : c ≤ L) (hL : L ≤ 140737488355328) (W : World) :
    (Instr.slice 25 (.slice ao L cb) none (some (.int .i64 (c : Int))) none).run Try.prog W = .ok (.slice ao c cb) W := by
  rcases h.2 with ⟨hv, h0⟩ | ⟨g, cap, cur, hv, hb, hh, h1, h2, h3, h4⟩
  · have e : ao = none ∧ L = 0 ∧ cb = 0 := by simpa using hv
    obtain ⟨rfl, rfl, rfl⟩ := e
    obtain rfl : c = 0 := by omega
    have := Try.underlying25
    go_simp
  · have e : ao = some ⟨g, 0, none⟩ ∧ cb = cap := by simpa using hv
    obtain ⟨rfl, rfl⟩ := e
    have q1 : (0 : Int) ≤ (c : Int) := by omega
    have q2 : (c : Int) ≤ (cb : Int) := by omega
    unfold maxLen at h2
    have := Try.underlying25
    go_simp

set_option maxRecDepth 100000 in
set_option maxHeartbeats 4000000 in
theorem back_main (a : Option Addr) (len cap : Nat) (cut : Int) (K N : Nat → Int) (S : Nat → ByteArray) (w : World) (h : Items w a len K N S) (hS : ∀ i, i < len → (S i).size ≤ 9223372036854775807) (hlen : len ≤ cap) (hcap : cap ≤ 9223372036854775807) :
    Calls Try.prog 5 #[.slice a len cap, .int .i64 cut] w fun e w' => e = .returned (.bool true) ∧ Ch (fun _ => False) w w' := by
  have hsm := small_any a len cap K N S w h hS hlen hcap
  go_enter Try.func5, Try.ntmps5
  go_wp2_with fail
  refine hsm.mono ?_
  rintro e w1 ⟨⟨bb, rfl, htot⟩, hc1⟩
  cases bb with
  | false =>
    clear htot
    go_wp2_with (first | (go_at_call 8; refine (awake_any _).mono ?_; rintro e w9 ⟨rfl, h9⟩))
    go_ret
    exact ⟨rfl, hc1.chain h9 (fun _ _ x => x)⟩
  | true =>
    have htot := htot rfl
    go_wp2
    have hb0 : Wt (w1.alloc (.cells #[.slice none 0 0, .bool false] 27)) w1.heap.size (.slice none 0 0) [] false := ⟨heap_alloc_new _ _, World.ownsRow_nil _ _ _ _, by simp⟩
    go_loopw [6] (fun i wr => ∃ (k : Nat) (v : Value), k ≤ len ∧ i = .int .i64 k ∧ Wt wr w1.heap.size v (E K N S k) false ∧ Ch (fun _ => False) w wr ∧ (∀ g, v.ownBlock = some g → w.heap.size ≤ g) ∧ (∀ j, j < k → valid (K j) (N j) (S j))) (fun i _ => len - (intOf i).toNat)
    case atStart => exact ⟨0, _, Nat.zero_le _, rfl, hb0, hc1.alloc _, (fun g hg => by cases hg), fun j hj => by omega⟩
    case round =>
      obtain ⟨k, v, hk, rfl, ht, hcr, hvo, hval⟩ := hrel
      have hs1 := hc1.size
      by_cases hlt : k < len
      · obtain ⟨b, off, rfl, hc⟩ := (h.keep hcr) (by omega)
        obtain ⟨c0, c1, c2⟩ := hc k hlt
        clear hc
        have htk := tot_mono S len (k + 1) (by omega)
        simp only [tot] at htk
        have hel := E_len K N S k
        have hwr := fun (W : World) (hW : Wt W w1.heap.size v (E K N S k) false) => write_any (K k) (N k) (S k) w1.heap.size v (E K N S k) false W hW (by omega)
        have hby := bytesI_any (K k) (N k) (S k) wr (by omega)
        have HE : Hid (E K N S (k + 1) = E K N S k ++ itemB (K k) (N k) (S k)) := rfl
        have HV : Hid (∀ j, j < k → valid (K j) (N j) (S j)) := hval
        clear hval
        by_cases hok : itemOk (K k) (N k) (S k) = true
        · by_cases hk1 : K k < 1
          · rw [hok] at hby
            have t1 : decide (K k < 1) = true := by simp [hk1]
            generalize itemB (K k) (N k) (S k) = ib at *
            go_wp2_with fail
            refine hby.mono ?_
            rintro e w4 ⟨v4, rfl, ho4, hc4⟩
            have hc40 := hcr.chain hc4 (fun _ _ x => x)
            obtain ⟨d0, d1, d2⟩ := h.at hc40 hlt
            go_wp2_with (first | (go_at_call 8; refine (awake_any _).mono ?_; rintro e w9 ⟨rfl, h9⟩))
            go_ret
            exact ⟨rfl, hc40.chain h9 (fun _ _ x => x)⟩
          · by_cases hk4 : 4 < K k
            · rw [hok] at hby
              have t1 : decide (K k < 1) = false := by simp; omega
              have t2 : decide (4 < K k) = true := by simp [hk4]
              generalize itemB (K k) (N k) (S k) = ib at *
              go_wp2_with fail
              refine hby.mono ?_
              rintro e w4 ⟨v4, rfl, ho4, hc4⟩
              have hc40 := hcr.chain hc4 (fun _ _ x => x)
              obtain ⟨d0, d1, d2⟩ := h.at hc40 hlt
              go_wp2_with (first | (go_at_call 8; refine (awake_any _).mono ?_; rintro e w9 ⟨rfl, h9⟩))
              go_ret
              exact ⟨rfl, hc40.chain h9 (fun _ _ x => x)⟩
            · have t1 : decide (K k < 1) = false := by simp; omega
              have t2 : decide (4 < K k) = false := by simp; omega
              have hvk : valid (K k) (N k) (S k) := ⟨⟨by omega, by omega⟩, hok⟩
              rw [hok] at hby
              go_wp2_with fail
              refine hby.mono ?_
              rintro e w4 ⟨v4, rfl, ho4, hc4⟩
              have hc40 := hcr.chain hc4 (fun _ _ x => x)
              have ht4 := ht.keep hc4 (fun x => x) (fun _ _ x => x)
              obtain ⟨d0, d1, d2⟩ := h.at hc40 hlt
              have hwr4 := hwr w4 ht4
              rw [hok] at hwr4
              clear hwr hby ho4
              go_wp2_with fail
              refine hwr4.mono ?_
              rintro e w5 ⟨rfl, v5, ht5, hc5, hg5⟩
              go_wp2
              go_roundw
              case rel =>
                refine ⟨k + 1, v5, by omega, by go_num, ?_, ?_, ?_, ?_⟩
                · rw [HE.out]; exact ht5
                · refine hc40.chain hc5 (fun i hi e => ?_)
                  rcases e with e | e
                  · omega
                  · have := hvo i e; omega
                · intro g hg
                  rcases hg5 g hg with e | e
                  · exact hvo g e
                  · have := hc40.size; omega
                · intro j hj
                  by_cases e : j = k
                  · subst e; exact hvk
                  · exact HV.out j (by omega)
              case measure => simp [intOf]; omega
        · have hok2 : itemOk (K k) (N k) (S k) = false := by simpa using hok
          rw [hok2] at hby
          generalize itemB (K k) (N k) (S k) = ib at *
          go_wp2_with fail
          refine hby.mono ?_
          rintro e w4 ⟨v4, rfl, ho4, hc4⟩
          have hc40 := hcr.chain hc4 (fun _ _ x => x)
          go_wp2_with (first | (go_at_call 8; refine (awake_any _).mono ?_; rintro e w9 ⟨rfl, h9⟩))
          go_ret
          exact ⟨rfl, hc40.chain h9 (fun _ _ x => x)⟩
      · obtain rfl : k = len := by omega
        have hbl := E_len K N S k
        have HV : Hid (∀ j, j < k → valid (K j) (N j) (S j)) := hval
        clear hval
        go_wp2_with fail
        refine (bytes_any _ _ _ _ _ ht).mono ?_
        rintro e w2 ⟨vb, rfl, hob, hc2⟩
        have hc20 := hcr.chain hc2 (fun _ _ x => x)
        go_wp2_with fail
        refine (newReader_any vb (E K N S k) _ (row_of_owns hob) (E_bd K N S k) (by omega)).mono ?_
        rintro e w3 ⟨r, vr, rfl, hr3, hc3, hrb, hrg⟩
        have hc30 := hc20.chain hc3 (fun _ _ x => x)
        have hob3 := ownsRow_keep hob hc3 (fun _ _ x => x)
        have hLL : (E K N S k).length ≤ 2000 := by omega
        obtain ⟨L, hL⟩ : ∃ L, (E K N S k).length = L := ⟨_, rfl⟩
        rw [hL] at hob hob3
        obtain ⟨ao, cb, rfl⟩ := own_form hob
        have hbd := rnd_bd cut ((L : Int) + 1) (by omega)
        obtain ⟨c, hc⟩ := Int.eq_ofNat_of_zero_le hbd.1
        have hcL : c ≤ L := by omega
        have hrn := fun W => round_any cut ((L : Int) + 1) W (by omega) (by omega)
        rw [hc] at hrn
        have hrow2 : ∀ W, W.ownsRow wr.heap.size 5 1 (.slice ao L cb) L ((E K N S k).map (Value.int .u8)) → Row W (.slice ao c cb) ((E K N S k).take c) := fun W hW => row_take (by omega) hW
        have hsl := slice_to hob hcL (by omega)
        have hr3' := hr3
        have HL : Hid ((E K N S k).length = L) := hL
        have HC : Hid (rnd cut ((L : Int) + 1) = (c : Int)) := hc
        clear hc hbd
        rw [hL] at hLL hbl
        clear hL
        go_wp2_with fail
        refine (hrn _).mono ?_
        rintro e w4 ⟨rfl, hw4⟩
        have hw4 := hw4.symm
        subst hw4
        go_wp2_with fail
        refine (newReader_any (.slice ao c cb) ((E K N S k).take c) _ (hrow2 _ hob3) (fun x hx => E_bd K N S k x (List.mem_of_mem_take hx)) (by rw [List.length_take, HL.out]; omega)).mono ?_
        rintro e w5 ⟨s, vs, rfl, hs5, hc5, hsb, hsg⟩
        have hc50 := hc30.chain hc5 (fun _ _ x => x)
        have hr5 := hr3.keep hc5 (fun x => x) (fun _ _ x => x)
        have hlr := hr3.lt
        have hrs : r ≠ s := by omega
        have hrw : w.heap.size ≤ r := by have := hc20.size; omega
        have hsw : w.heap.size ≤ s := by have := hc30.size; omega
        clear hsl hrow2 hr3 hr3' hob hob3
        go_wp2
        go_loopw [12] (fun i wq => ∃ (m as_ : Nat) (fs : Bool), m ≤ k ∧ i = .int .i64 m ∧ Rd wq r vr (E K N S k) (E K N S m).length false ∧ Rd wq s vs ((E K N S k).take c) as_ fs ∧ Cutat (E K N S m).length c as_ fs ∧ Ch (fun _ => False) w wq) (fun i _ => k - (intOf i).toNat)
        case atStart => exact ⟨0, 0, false, Nat.zero_le _, rfl, hr5, hs5, Or.inl ⟨rfl, rfl, Nat.zero_le _⟩, hc50⟩
        case round =>
          obtain ⟨m, as_, fs, hm, rfl, hr, hs, hcut, hcq⟩ := hrel
          by_cases hlt2 : m < k
          · obtain ⟨b, off, rfl, hci⟩ := (h.keep hcq) (by omega)
            obtain ⟨c0, c1, c2⟩ := hci m hlt2
            clear hci
            have hvm := HV.out m hlt2
            obtain ⟨t, ht1, ht2⟩ := E_at K N S m k hlt2
            have hok := reads_ok (K m) (N m) (S m) r vr (E K N S k) (E K N S m).length _ hr hvm (by omega) (by rw [ht1, List.take_left])
            have hEm : (E K N S (m + 1)).length = (E K N S m).length + (itemB (K m) (N m) (S m)).length := by rw [E, List.length_append]
            have hsr := fun (W : World) (hW : Rd W s vs ((E K N S k).take c) as_ fs) => reads_cut K N S m k c as_ fs s vs W hlt2 hW hvm hcut (by rw [HL.out]; exact hcL)
            have HEm : Hid ((E K N S (m + 1)).length = (E K N S m).length + (itemB (K m) (N m) (S m)).length) := hEm
            clear ht1 ht2 hEm t
            go_wp2_with fail
            refine hok.mono ?_
            rintro e w6 ⟨rfl, hr6, hc6⟩
            have hs6 := hs.keep hc6 (fun e => hrs e.symm) (rd_own_ne hs hr)
            have hc60 := hcq.chain hc6 (fun i hi e => by omega)
            obtain ⟨d0, d1, d2⟩ := h.at hc60 hlt2
            have hsr6 := hsr w6 hs6
            clear hsr
            go_wp2_with fail
            refine hsr6.mono ?_
            rintro e w7 ⟨⟨bz, rfl⟩, as7, fs7, hs7, hcut7, hc7⟩
            have hr7 := hr6.keep hc7 hrs (rd_own_ne hr6 hs6)
            have hc70 := hc60.chain hc7 (fun i hi e => by omega)
            go_wp2
            go_roundw
            case rel =>
              refine ⟨m + 1, as7, fs7, by omega, by go_num, ?_, hs7, hcut7, hc70⟩
              rw [HEm.out]; exact hr7
            case measure => simp [intOf]; omega
          · obtain rfl : m = k := by omega
            have hEL : ((E K N S m).length : Int) = (L : Int) := by rw [HL.out]
            rcases hcut with ⟨rfl, rfl, hp⟩ | ⟨rfl, hp⟩
            · have tc : decide ((c : Int) < (L : Int)) = false := by simp; omega
              have tc2 : decide (c < L) = false := by simp; omega
              have tc3 : ¬ c < L := by omega
              go_wp2_with fail
              refine (err_ok r vr _ _ _ hr).mono ?_
              rintro e w8 ⟨rfl, nq, rfl⟩
              go_wp2_with fail
              refine (err_ok s vs _ _ _ (hs.drewN _)).mono ?_
              rintro e w9 ⟨rfl, nq2, rfl⟩
              go_wp2_with fail
              refine (left_any' r vr _ _ false _ (hr.drewN _) 0 (by simp)).mono ?_
              rintro e w10 ⟨rfl, nq3, rfl⟩
              go_wp2_with fail
              refine (at_any r vr _ _ false _ (hr.drewN _)).mono ?_
              rintro e w11 ⟨rfl, hw11⟩
              have hw11 := hw11.symm
              subst hw11
              go_wp2_with fail
              refine (hrn _).mono ?_
              rintro e w12 ⟨rfl, hw12⟩
              have hw12 := hw12.symm
              subst hw12
              go_wp2_with fail
              refine (awake_any _).mono ?_
              rintro e w13 ⟨rfl, h13⟩
              go_wp2
              go_ret
              exact ⟨rfl, (hcq.drewN _).chain h13 (fun _ _ x => x)⟩
            · have tc : decide ((c : Int) < (L : Int)) = true := by simp; omega
              go_wp2_with fail
              refine (err_ok r vr _ _ _ hr).mono ?_
              rintro e w8 ⟨rfl, nq, rfl⟩
              go_wp2_with fail
              refine (err_failed s vs _ _ _ (hs.drewN _)).mono ?_
              rintro e w9 ⟨rfl, nq2, rfl⟩
              go_wp2_with fail
              refine (left_any' r vr _ _ false _ (hr.drewN _) 0 (by simp)).mono ?_
              rintro e w10 ⟨rfl, nq3, rfl⟩
              go_wp2_with fail
              refine (at_any r vr _ _ false _ (hr.drewN _)).mono ?_
              rintro e w11 ⟨rfl, hw11⟩
              have hw11 := hw11.symm
              subst hw11
              go_wp2_with fail
              refine (hrn _).mono ?_
              rintro e w12 ⟨rfl, hw12⟩
              have hw12 := hw12.symm
              subst hw12
              go_wp2_with fail
              refine (awake_any _).mono ?_
              rintro e w13 ⟨rfl, h13⟩
              go_wp2
              go_ret
              exact ⟨rfl, (hcq.drewN _).chain h13 (fun _ _ x => x)⟩

end Go.Proofs.Ytgjddpfijnmeeaa
