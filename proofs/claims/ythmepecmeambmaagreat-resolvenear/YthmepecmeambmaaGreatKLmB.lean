/- A small number as text. -/
import Derived.Test.YthmepecmeambmaaGreatKLmA
import Derived.Laws.AppendOwnNone
import Derived.Laws.BytesArg
import Derived.Deep.AppendLies
namespace Go.Proofs.YthmepecmeambmaaGreat
open Go.RowKit
set_option linter.unusedVariables false

def decN (i : Nat) : List Int := if i < 10 then [(48 + i : Nat)] else [(48 + i / 10 : Nat), (48 + i % 10 : Nat)]
/-- Bytes of one's own. -/
def Bs (B : Nat) (w : World) (v : Value) (ds : List Int) : Prop := w.ownsRow B 5 1 v ds.length (ds.map (Value.int .u8))
theorem Bs.keep {B : Nat} {w w' : World} {v : Value} {ds : List Int} (h : Bs B w v ds) (k : Ch w w') : Bs B w' v ds := ownsRow_keep h k
theorem Bs.str {B : Nat} {w : World} {v : Value} {ds : List Int} (h : Bs B w v ds) (h0 : 0 < ds.length) : (convert 46 9 v).run Tryz.prog w = .ok (.string (strOfNums ds)) w := by
  obtain ⟨g, c, rfl, _, _⟩ := World.ownsRow.form h h0
  refine run_convert_bytes_arg w 46 5 Tryz.underlying46 Tryz.underlying5 g 0 ds.length c ds rfl (fun i hi => ?_) 9 Tryz.underlying9
  rw [Nat.zero_add, World.ownsRow.cellAt h i (by omega)]
  simp [hi]

theorem Bs.form {B n : Nat} {w : World} {v : Value} {ds : List Int} (h : Bs B w v ds) (hn : ds.length = n) (h0 : 0 < n) : ∃ g c, v = .slice (some ⟨g, 0, none⟩) n c := by
  subst hn
  obtain ⟨g, c, rfl, _, _⟩ := World.ownsRow.form h h0
  exact ⟨g, c, rfl⟩
theorem str_size (ds : List Int) : (strOfNums ds).size = ds.length := by simp [strOfNums, ByteArray.size]
theorem nil_app (s : ByteArray) : (⟨#[]⟩ : ByteArray) ++ s = s := bl_ext (by rw [bl_append]; rfl)
theorem Bs.one (w : World) (x : Int) : Bs w.heap.size (w.alloc (.cells #[.int .u8 x] 5)) (.slice (some ⟨w.heap.size, 0, none⟩) 1 1) [x] := by
  have := World.ownsRow_lit (base := w.heap.size) (e := 5) (size := 1) w #[.int .u8 x] 1 (Nat.le_refl _) (by decide) rfl
  simpa [Bs] using this

set_option maxHeartbeats 8000000 in
set_option maxRecDepth 100000 in
theorem decimal_zero (w : World) : Calls Tryz.prog 44 #[.int .i64 0] w fun e w' => e = .returned (.string (strOfNums (decN 0))) ∧ Ch w w' := by
  go_enter Tryz.func44, Tryz.ntmps44
  go_wp2_with fail
  go_loopw [3, 5] (fun u b wr => (u = .int .u64 0 ∧ b = .slice none 0 0 ∧ wr = w) ∨ (u = .int .u64 0 ∧ Bs w.heap.size wr b [48] ∧ Ch w wr)) (fun u b _ => 1 - slen b)
  case atStart => exact .inl ⟨rfl, rfl, rfl⟩
  case round =>
    rcases hrel with ⟨rfl, rfl, rfl⟩ | ⟨rfl, hb, hcr⟩
    · go_wp2_with fail
      exact ⟨.inr ⟨rfl, Bs.one _ _, (Ch.refl _).alloc _⟩, by simp [slen]⟩
    · have hs := hb.str (by decide)
      obtain ⟨g, c, rfl⟩ := hb.form (n := 1) rfl (by decide)
      clear hb
      go_wp2_with fail
      go_ret
      exact ⟨rfl, hcr⟩

set_option maxHeartbeats 8000000 in
set_option maxRecDepth 100000 in
theorem decimal_pos (i : Nat) (w : World) (hi : i ≤ 40) (h1 : 1 ≤ i) : Calls Tryz.prog 44 #[.int .i64 (i : Int)] w fun e w' => e = .returned (.string (strOfNums (decN i))) ∧ Ch w w' := by
  obtain ⟨i0, hi5, hz0, hz1, hz2⟩ := info_parts Tryz.info5
  have hi40 : (i : Int) ≤ 40 := by omega
  have hi0 : (0 : Int) ≤ (i : Int) := by omega
  have hi1 : (0 : Int) < (i : Int) := by omega
  go_enter Tryz.func44, Tryz.ntmps44
  go_wp2_with fail
  go_loopw [3, 5] (fun u b wr => (u = .int .u64 (i : Int) ∧ b = .slice none 0 0 ∧ wr = w) ∨ (u = .int .u64 ((i / 10 : Nat) : Int) ∧ Bs w.heap.size wr b [((48 + i % 10 : Nat) : Int)] ∧ Ch w wr) ∨ (10 ≤ i ∧ u = .int .u64 0 ∧ Bs w.heap.size wr b (decN i) ∧ Ch w wr)) (fun u b _ => (intOf u).toNat)
  case atStart => exact .inl ⟨rfl, rfl, rfl⟩
  case round =>
    rcases hrel with ⟨rfl, rfl, rfl⟩ | ⟨rfl, hb, hcr⟩ | ⟨h10, rfl, hb, hcr⟩
    · go_wp2_with fail
      exact ⟨.inr (.inl ⟨rfl, Bs.one _ _, (Ch.refl _).alloc _⟩), by simp [intOf]; omega⟩
    · by_cases h10 : 10 ≤ i
      · have hq : (0 : Int) < ((i / 10 : Nat) : Int) := by omega
        have hq2 : ((i / 10 : Nat) : Int) ≤ 4 := by omega
        obtain ⟨q, hqq⟩ : ∃ q, i / 10 = q := ⟨_, rfl⟩
        rw [hqq] at hq hq2
        obtain ⟨r, hrr⟩ : ∃ r, i % 10 = r := ⟨_, rfl⟩
        rw [hrr] at hb
        have hD : Hid (decN i = [((48 + q : Nat) : Int), ((48 + r : Nat) : Int)]) := (show decN i = _ by unfold decN; rw [if_neg (by omega), hqq, hrr])
        have hrow := hb
        unfold Bs at hrow
        change World.ownsRow _ _ _ _ _ 1 [Value.int .u8 ((48 + r : Nat) : Int)] at hrow
        obtain ⟨g, c, rfl⟩ := hb.form (n := 1) rfl (by decide)
        have hb0 := hrow.cellAt 0 (by decide)
        have hgl := hrow.lt g rfl
        have hone := ownsRow_base (Bs.one wr ((q : Int) + 48)) hcr.size
        have hqm : (q : Int) % 10 = (q : Int) := by omega
        have hqd : (q : Int) / 10 = 0 := by omega
        have hadd : (48 : Int) + (q : Int) = (q : Int) + 48 := by omega
        have hnew : ∀ (j : Nat) (u : Value), ([.int .u8 ((48 + r : Nat) : Int)] : List Value)[j]? = some u → (wr.alloc (.cells #[.int .u8 ((q : Int) + 48)] 5)).cell? ((⟨g, 0, none⟩ : Addr).add j) = some u := fun j u hj => by
          have hj0 : j = 0 := by
            have := (List.getElem?_eq_some_iff.1 hj).1
            simpa using this
          subst hj0
          have e : (⟨g, 0, none⟩ : Addr).add 0 = ⟨g, 0, none⟩ := rfl
          rw [e]
          exact cell_keep ((Ch.refl wr).alloc _) (hb0.trans hj)
        rw [hqq]
        have hsz := hcr.size
        have HC : Hid (Ch w wr) := hcr
        clear hb hcr hrow hb0
        go_wp2_with (first
          | (at_builtin; refine wpList_append_lies _ rfl _ _ _ rfl w.heap.size 5 i0 _ 1 1 Tryz.underlying46 hi5 hz0 hz1 hz2 rfl (by decide) (.slice (some ⟨wr.heap.size, 0, none⟩) 1 1) 1 [.int .u8 ((q : Int) + 48)] rfl hone ⟨g, 0, none⟩ 1 c [.int .u8 ((48 + r : Nat) : Int)] rfl rfl hnew (by simp [Value.oneCell']) (by decide) (by decide) (by decide) (by simp; omega) _ rfl ?_; intro g1 c1 w2 o2 gr2 _ _)
          | fail)
        have hq3 : ((48 + q : Nat) : Int) = (q : Int) + 48 := by omega
        have hB : Bs w.heap.size w2 (.slice (some ⟨g1, 0, none⟩) 2 c1) (decN i) := by
          rw [hD.out, hq3]
          exact o2
        exact ⟨.inr (.inr ⟨h10, rfl, hB, (HC.out.alloc _).grown gr2 (fun k e => by
          have e : wr.heap.size = k := by simpa [Value.ownBlock] using e
          omega)⟩), by simp [intOf]; omega⟩
      · have hq : i / 10 = 0 := by omega
        have hd : decN i = [((48 + i % 10 : Nat) : Int)] := by
          unfold decN; rw [if_pos (by omega), Nat.mod_eq_of_lt (by omega)]
        rw [← hd] at hb
        rw [hq]
        have hl : (decN i).length = 1 := by rw [hd]; rfl
        have hs := hb.str (by omega)
        obtain ⟨g, c, rfl⟩ := hb.form hl (by decide)
        have hss : (strOfNums (decN i)).size ≤ 2 := by rw [str_size]; omega
        clear hb hd
        obtain ⟨s, hse⟩ : ∃ s, strOfNums (decN i) = s := ⟨_, rfl⟩
        rw [hse] at hs hss
        have HS : Hid (strOfNums (decN i) = s) := hse
        clear hse
        go_wp2_with fail
        go_ret
        exact ⟨by rw [HS.out, ← nil_app s]; rfl, hcr⟩
    · have hl : (decN i).length = 2 := by unfold decN; rw [if_neg (by omega)]; rfl
      have hs := hb.str (by omega)
      obtain ⟨g, c, rfl⟩ := hb.form hl (by decide)
      have hss : (strOfNums (decN i)).size ≤ 2 := by rw [str_size]; omega
      clear hb
      obtain ⟨s, hse⟩ : ∃ s, strOfNums (decN i) = s := ⟨_, rfl⟩
      rw [hse] at hs hss
      have HS : Hid (strOfNums (decN i) = s) := hse
      clear hse
      go_wp2_with fail
      go_ret
      exact ⟨by rw [HS.out, ← nil_app s]; rfl, hcr⟩
theorem decimal_any (i : Nat) (w : World) (hi : i ≤ 40) : Calls Tryz.prog 44 #[.int .i64 (i : Int)] w fun e w' => e = .returned (.string (strOfNums (decN i))) ∧ Ch w w' := by
  rcases Nat.eq_zero_or_pos i with h | h
  · subst h; exact decimal_zero w
  · exact decimal_pos i w hi h
end Go.Proofs.YthmepecmeambmaaGreat
