/- Whether bytes are those that Encode tells; the reader's start. -/
import Derived.Test.YtdalibfgkkgcpaaGreatKDecH
namespace Go.Proofs.YtdalibfgkkgcpaaGreat
open Go.RowKit
set_option linter.unusedVariables false

theorem alk_step {a b : List Int} {k : Nat} {x : Int} (ha : a[k]? = some x) (hb : b[k]? = some x) : alk (a.drop k) (b.drop k) = alk (a.drop (k + 1)) (b.drop (k + 1)) + 1 := by
  obtain ⟨h1, e1⟩ := List.getElem?_eq_some_iff.1 ha
  obtain ⟨h2, e2⟩ := List.getElem?_eq_some_iff.1 hb
  rw [List.drop_eq_getElem_cons h1, List.drop_eq_getElem_cons h2, e1, e2, alk, if_pos rfl]
theorem alk_diff {a b : List Int} {k : Nat} {x y : Int} (ha : a[k]? = some x) (hb : b[k]? = some y) (h : x ≠ y) : alk (a.drop k) (b.drop k) = 0 := by
  obtain ⟨h1, e1⟩ := List.getElem?_eq_some_iff.1 ha
  obtain ⟨h2, e2⟩ := List.getElem?_eq_some_iff.1 hb
  rw [List.drop_eq_getElem_cons h1, List.drop_eq_getElem_cons h2, e1, e2, alk, if_neg h]
theorem alk_endL {a b : List Int} {k : Nat} (h : a.length ≤ k) : alk (a.drop k) (b.drop k) = 0 := by rw [List.drop_eq_nil_of_le h]; unfold alk; rfl
theorem alk_endR {a b : List Int} {k : Nat} (h : b.length ≤ k) : alk (a.drop k) (b.drop k) = 0 := by
  rw [List.drop_eq_nil_of_le h]
  cases a.drop k <;> rfl
theorem Rb.form {w : World} {v : Value} {bs : List Int} (h : Rb w v bs) : ∃ ao cap, v = .slice ao bs.length cap ∧ bs.length ≤ cap ∧ cap ≤ 9223372036854775807 := by
  rcases h with ⟨rfl, rfl⟩ | ⟨a, cap, hv, h1, h2, hc⟩
  · exact ⟨none, 0, rfl, Nat.le_refl _, by omega⟩
  · exact ⟨_, cap, hv, h1, h2⟩
theorem Rb.at {w : World} {ao : Option Addr} {n cap : Nat} {bs : List Int} (h : Rb w (.slice ao n cap) bs) {k : Nat} {x : Int} (hx : bs[k]? = some x) : ∃ g off, ao = some ⟨g, off, none⟩ ∧ w.cell? ⟨g, off + k, none⟩ = some (.int .u8 x) := by
  rcases h with ⟨_, rfl⟩ | ⟨a, cap', hv, h1, h2, hc⟩
  · simp at hx
  · obtain ⟨g, off, rfl, hc'⟩ := hc (by have := (List.getElem?_eq_some_iff.1 hx).1; omega)
    exact ⟨g, off, by simpa using (by simpa using hv : _ ∧ _).1, hc' k x hx⟩
set_option maxHeartbeats 4000000 in
theorem alike_any (a b : List Int) (va vb : Value) (w : World) (ha : Rb w va a) (hb : Rb w vb b) :
    Calls Tryz.prog 96 #[va, vb] w fun e w' => e = .returned (.int .i64 (alk a b : Nat)) ∧ Ch w w' := by
  obtain ⟨ax, cx, rfl, hx1, hx2⟩ := ha.form
  obtain ⟨ay, cy, rfl, hy1, hy2⟩ := hb.form
  obtain ⟨r, hr⟩ : ∃ r, alk a b = r := ⟨_, rfl⟩
  rw [hr]
  go_enter Tryz.func96, Tryz.ntmps96
  go_wp2
  go_loopw [5] (fun i wr => ∃ k : Nat, k ≤ a.length ∧ k ≤ b.length ∧ i = .int .i64 k ∧ alk (a.drop k) (b.drop k) + k = r ∧ Ch w wr) (fun i _ => a.length - (intOf i).toNat)
  case atStart => exact ⟨0, Nat.zero_le _, Nat.zero_le _, rfl, by simpa using hr, Ch.refl _⟩
  case round =>
    clear hr
    obtain ⟨k, hk1, hk2, rfl, hd, hcr⟩ := hrel
    by_cases hl1 : k < a.length
    · by_cases hl2 : k < b.length
      · obtain ⟨x, hx⟩ : ∃ x, a[k]? = some x := ⟨_, List.getElem?_eq_getElem hl1⟩
        obtain ⟨y, hy⟩ : ∃ x, b[k]? = some x := ⟨_, List.getElem?_eq_getElem hl2⟩
        obtain ⟨g1, o1, rfl, d1⟩ := (ha.keep hcr).at hx
        obtain ⟨g2, o2, rfl, d2⟩ := (hb.keep hcr).at hy
        by_cases hxy : x = y
        · subst hxy
          rw [alk_step hx hy] at hd
          have HD : Hid (alk (a.drop (k + 1)) (b.drop (k + 1)) + 1 + k = r) := hd
          clear hd hx hy
          have t1 : (x == x) = true := by simp
          go_wp2_with fail
          go_quiet (fail)
          go_wp2
          go_roundw
          case rel => exact ⟨k + 1, by omega, by omega, by go_num, by have := HD.out; omega, hcr.drewN _⟩
          case measure => simp [intOf]; omega
        · rw [alk_diff hx hy hxy] at hd
          have HD : Hid (0 + k = r) := hd
          have t1 : (x == y) = false := by simpa using hxy
          clear hd hx hy hxy
          go_wp2_with fail
          go_quiet (fail)
          go_wp2
          go_ret
          exact ⟨by rw [← HD.out, Nat.zero_add]; rfl, hcr.drewN _⟩
      · rw [alk_endR (by omega)] at hd
        have HD : Hid (0 + k = r) := hd
        clear hd
        go_wp2_with fail
        go_quiet (fail)
        go_wp2
        go_ret
        exact ⟨by rw [← HD.out, Nat.zero_add]; rfl, hcr.drewN _⟩
    · rw [alk_endL (by omega)] at hd
      have HD : Hid (0 + k = r) := hd
      clear hd
      go_wp2_with fail
      go_quiet (fail)
      go_wp2
      go_ret
      exact ⟨by rw [← HD.out, Nat.zero_add]; rfl, hcr.drewN _⟩
theorem byEqual_any (a b : List Int) (va vb : Value) (w : World) (ha : Rb w va a) (hb : Rb w vb b) (ka : Sm a) (kb : Sm b) :
    Calls Tryz.prog 95 #[va, vb] w fun e w' => e = .returned (.bool (decide (a = b))) ∧ w' = w := by
  have h1 := fun w' (c : Ch w w') => row_string (ha.keep c).row
  have h2 := fun w' (c : Ch w w') => row_string (hb.keep c).row
  have h1' := h1 w (Ch.refl w)
  have h2' := h2 w (Ch.refl w)
  clear h1 h2
  by_cases he : a = b
  · have t1 : ((strOfNums a).toList == (strOfNums b).toList) = true := by rw [he]; simp
    have t2 : decide (a = b) = true := by simpa using he
    rw [t2]
    generalize strOfNums a = sa at *
    generalize strOfNums b = sb at *
    clear he t2 ka kb ha hb
    go_enter Tryz.func95, Tryz.ntmps95
    go_wp2
    go_ret
    exact ⟨rfl, rfl⟩
  · have t1 : ((strOfNums a).toList == (strOfNums b).toList) = false := by
      rw [Bool.eq_false_iff]
      intro h
      refine he (str_inj ka kb ?_)
      have h : (strOfNums a).toList = (strOfNums b).toList := by simpa using h
      rw [bl_toList, bl_toList] at h
      exact bl_ext h
    have t2 : decide (a = b) = false := by simpa using he
    rw [t2]
    generalize strOfNums a = sa at *
    generalize strOfNums b = sb at *
    clear he t2 ka kb ha hb
    go_enter Tryz.func95, Tryz.ntmps95
    go_wp2
    go_ret
    exact ⟨rfl, rfl⟩
set_option maxHeartbeats 4000000 in
theorem oneForm_any (D r : Nat) (v pv : Value) (bs : List Int) (P : List ByteArray) (s : St) (c : Cls) (vi vf vm u : Value) (w : World) (h : Dc w D r v pv bs P s) (hC : ClsAt w c vi vf vm) (hu : Rb w u bs) (hE : EncF c) :
    Calls Tryz.prog 52 #[.pointer (some ⟨D, 0, none⟩), .agg #[.string c.n, .string c.s, .bool c.it, .bool c.ab, vi, vf, vm], u] w fun e w' => e = .returned (.tuple #[]) ∧ Dc w' D r v pv bs P (oneR c bs s).2 ∧ Dk D r w w' := by
  have hcW : Ch w (w.alloc (.cells (clsC c vi vf vm) 26)) := (Ch.refl w).alloc _
  have hkb : Sm bs := h.rd.small
  have hen := encode_gen c vi vf vm (w.alloc (.cells (clsC c vi vf vm) 26)) (hC.keep hcW) hE
  have hka := encA_sm c
  unfold oneR
  generalize encA c = E at *
  generalize chkE c = x at *
  have HEQ : Hid (∀ w' va, Ch w w' → Rb w' va E → Calls Tryz.prog 95 #[va, u] w' fun e w'' => e = .returned (.bool (decide (E = bs))) ∧ w'' = w') := fun w' va k ra => byEqual_any E bs va u w' ra (hu.keep k) hka hkb
  have HAL : Hid (∀ w' va, Ch w w' → Rb w' va E → Calls Tryz.prog 96 #[va, u] w' fun e w'' => e = .returned (.int .i64 (alk E bs : Nat)) ∧ Ch w' w'') := fun w' va k ra => alike_any E bs va u w' ra (hu.keep k)
  have HF : Hid (∀ w' p, Dc w' D r v pv bs P s → Calls Tryz.prog 45 #[.pointer (some ⟨D, 0, none⟩), .int .i64 7, .int .i64 (p : Nat)] w' fun e w'' => e = .returned (.tuple #[]) ∧ Dc w'' D r v pv bs P (fl s 7 p) ∧ Dk D r w' w'') := fun w' p h' => fail_any D r v pv bs P s 7 p w' h'
  obtain ⟨ai, ci, rfl, _, _⟩ := hC.1.form
  obtain ⟨af, cf, rfl, _, _⟩ := hC.2.1.form
  obtain ⟨am, cm, rfl, _, _⟩ := hC.2.2.form
  obtain ⟨au, cu, rfl, _, _⟩ := hu.form
  have HD : Hid (∀ w', Ch w w' → Dc w' D r v pv bs P s) := fun w' k => h.keep k
  clear hC hu hE hka hkb h
  generalize c.im.length = l1 at *
  generalize c.fs.length = l2 at *
  generalize c.me.length = l3 at *
  unfold clsC at hcW hen
  by_cases he : E = bs
  · have t2 : decide (E = bs) = true := by simpa using he
    rw [t2] at HEQ
    dsimp only
    rw [if_pos he]
    clear t2 he
    go_enter Tryz.func52, Tryz.ntmps52
    go_wp2_with (first
      | (go_at_call 9; (with_reducible refine hen.mono ?_); rintro e w1 ⟨va, rfl, ho1, k1⟩; have c1 := hcW.trans k1; have hr1 := rb_own ho1; obtain ⟨aa, ca, rfl⟩ := own_form ho1)
      | (go_at_call 95; (with_reducible refine (HEQ.out _ _ c1 hr1).mono ?_); rintro e w2 ⟨rfl, hw⟩; have hw := hw.symm; subst hw)
      | fail)
    go_end0
    exact ⟨rfl, HD.out _ c1, Cs.of_ch c1⟩
  · have t2 : decide (E = bs) = false := by simpa using he
    rw [t2] at HEQ
    dsimp only
    rw [if_neg he]
    clear t2 he
    go_enter Tryz.func52, Tryz.ntmps52
    go_wp2_with (first
      | (go_at_call 9; (with_reducible refine hen.mono ?_); rintro e w1 ⟨va, rfl, ho1, k1⟩; have c1 := hcW.trans k1; have hr1 := rb_own ho1; obtain ⟨aa, ca, rfl⟩ := own_form ho1)
      | (go_at_call 95; (with_reducible refine (HEQ.out _ _ c1 hr1).mono ?_); rintro e w2 ⟨rfl, hw⟩; have hw := hw.symm; subst hw)
      | (go_at_call 96; (with_reducible refine (HAL.out _ _ c1 hr1).mono ?_); rintro e w3 ⟨rfl, k3⟩; have c3 := c1.trans k3)
      | (go_at_call 45; (with_reducible refine (HF.out _ _ (HD.out _ c3)).mono ?_); rintro e w4 ⟨rfl, h4, k4⟩)
      | fail)
    go_end0
    exact ⟨rfl, h4, (Cs.of_ch c3).trans k4⟩
set_option maxHeartbeats 1000000 in
theorem newReader_any (sv : Value) (bs : List Int) (w : World) (h : Row w sv bs) (hs : Sm bs) (hb : bs.length ≤ 140737488355328) :
    Calls Tryz.prog 46 #[sv] w fun e w' => ∃ r v, e = .returned (.pointer (some ⟨r, 0, none⟩)) ∧ Rd w' r v bs 0 false ∧ Ch w w' ∧ w.heap.size ≤ r := by
  go_enter Tryz.func46, Tryz.ntmps46
  go_wp2_with fail
  refine (bclone_any sv bs w h hb).mono ?_
  rintro e w1 ⟨v, rfl, hown, hch⟩
  obtain ⟨ao, c, rfl⟩ := own_form hown
  go_wp2
  go_ret
  exact ⟨w1.heap.size, .slice ao bs.length c, rfl, ⟨heap_alloc_new _ _, ownsRow_base (ownsRow_keep hown ((Ch.refl _).alloc _)) (Nat.zero_le _), hs, Nat.zero_le _, hb⟩, hch.alloc _, hch.size⟩
end Go.Proofs.YtdalibfgkkgcpaaGreat
