/- Encode, where a class's own bytes are told. -/
import Derived.Test.YtdalibfgkkgcpaaGreatKEncB
import Derived.Test.YtdalibfgkkgcpaaGreatKChkF
namespace Go.Proofs.YtdalibfgkkgcpaaGreat
open Go.RowKit
set_option linter.unusedVariables false

/-- A text as it is written. -/
def sbL (l : List UInt8) : List Int := l.map fun b => (b.toNat : Int)
def txB (l : List UInt8) : List Int := be l.length 2 ++ sbL l
theorem txB_of (s : ByteArray) : be s.size 2 ++ sb s = txB (bl s) := by unfold txB sbL sb; rw [bl_len]; rfl
def headB (L : List (List UInt8)) : List Int := be 1396851505 4 ++ (be L.length 2 ++ L.flatMap txB)
theorem flat_take {α β : Type} (f : α → List β) {xs : List α} {k : Nat} {a : α} (h : xs[k]? = some a) : (xs.take (k + 1)).flatMap f = (xs.take k).flatMap f ++ f a := by
  obtain ⟨h1, e1⟩ := List.getElem?_eq_some_iff.1 h
  rw [List.take_succ_eq_append_getElem h1, List.flatMap_append, e1]; simp
theorem flat_take_le {α β : Type} (f : α → List β) (xs : List α) (k : Nat) : ((xs.take k).flatMap f).length ≤ (xs.flatMap f).length := by
  have h : xs.flatMap f = (xs.take k).flatMap f ++ (xs.drop k).flatMap f := by rw [← List.flatMap_append, List.take_append_drop]
  rw [h, List.length_append]; omega
theorem fld63b (a : Value) (M : Option Nat) (W : World) (h : a.oneCell' = true) : (Instr.field 58 (.agg #[a, .map M]) 1).run Tryz.prog W = .ok (.map M) W := by
  cases a <;> first | kernel_rfl | (simp [Value.oneCell'] at h)

set_option maxRecDepth 100000 in
set_option maxHeartbeats 8000000 in
theorem encode_with (c : Cls) (vi vf vm : Value) (w : World) (h : ClsAt w c vi vf vm) (hF : Fine c) (hok : chkE c = 0) (hL : (poolL c).length ≤ 500) (hLs : ∀ s ∈ poolL c, s.length ≤ 65535) (htot : ((poolL c).flatMap txB).length ≤ 100000) (CB : List Int) (hCB : CB.length ≤ 1000000)
    (hcls : ∀ B r M w0 w1 bs, Es B r M (poolL c) w0 w1 bs → Ch w w1 → w.heap.size ≤ B → bs.length ≤ 200000 → Calls Tryz.prog 27 #[.pointer (some ⟨r, 0, none⟩), .agg #[.string c.n, .string c.s, .bool c.it, .bool c.ab, vi, vf, vm]] w1 fun e w' => e = .returned (.tuple #[]) ∧ Es B r M (poolL c) w0 w' (bs ++ CB)) :
    Calls Tryz.prog 9 #[.agg #[.string c.n, .string c.s, .bool c.it, .bool c.ab, vi, vf, vm]] w fun e w' => ∃ v, e = .returned (.tuple #[v, .int .i64 0]) ∧ w'.ownsRow w.heap.size 5 1 v (headB (poolL c) ++ CB).length ((headB (poolL c) ++ CB).map (Value.int .u8)) ∧ Ch w w' := by
  have hck : ∀ w0, Ch w w0 → _ := fun w0 k => check_cls c vi vf vm w0 (h.keep k) hF
  have hpo : ∀ w0, Ch w w0 → _ := fun w0 k => poolOf_any c vi vf vm w0 (h.keep k) hF
  rw [hok] at hck
  have HK : Hid (∀ w', Ch (w.alloc (.cells (clsC c vi vf vm) 26)) w' → _) := fun w' k => clsC_at (kept_at k (heap_alloc_new _ _))
  have hcW : Ch w (w.alloc (.cells (clsC c vi vf vm) 26)) := (Ch.refl w).alloc _
  have hzW : (w.alloc (.cells (clsC c vi vf vm) 26)).heap.size = w.heap.size + 1 := by simp
  have HF : Hid (∀ s ∈ poolL c, s.length ≤ 65535) := hLs
  clear hLs hok
  obtain ⟨ai, ci, rfl, _, _⟩ := h.1.form
  obtain ⟨af, cf, rfl, _, _⟩ := h.2.1.form
  obtain ⟨am, cm, rfl, _, _⟩ := h.2.2.form
  clear h hF
  generalize c.im.length = l1 at *
  generalize c.fs.length = l2 at *
  generalize c.me.length = l3 at *
  generalize poolL c = L at *
  unfold clsC at HK hcW hzW
  go_enter Tryz.func9, Tryz.ntmps9
  go_wp2_with (first
    | (go_at_call 11; (with_reducible refine (hck _ hcW).mono ?_); rintro e w2 ⟨rfl, hc2⟩; obtain ⟨z0, z1, z2, z3, z4, z5, z6⟩ := HK.out _ hc2)
    | (go_at_call 23; (with_reducible refine (hpo _ (hcW.trans hc2)).mono ?_); rintro e w3 ⟨vt, M, rfl, ho3, hm3, hM3, hc3⟩; obtain ⟨a3, c3, rfl⟩ := own_form ho3))
  have hC4 : Ch (w3.alloc (.cells #[.slice a3 L.length c3, .map (some M)] 58)) ((w3.alloc (.cells #[.slice a3 L.length c3, .map (some M)] 58)).alloc (.cells #[.slice none 0 0, .bool false, .map (some M)] 63)) := (Ch.refl _).alloc _
  have hz3 : (w3.alloc (.cells #[.slice a3 L.length c3, .map (some M)] 58)).heap.size = w3.heap.size + 1 := by simp
  have hb3 : (w3.alloc (.cells #[.slice a3 L.length c3, .map (some M)] 58)).heap[w3.heap.size]? = some (.cells #[.slice a3 L.length c3, .map (some M)] 58) := heap_alloc_new _ _
  have hw33 : Ch w3 (w3.alloc (.cells #[.slice a3 L.length c3, .map (some M)] 58)) := (Ch.refl _).alloc _
  have hE0 : Es (w3.heap.size + 1) (w3.heap.size + 1) M L ((w3.alloc (.cells #[.slice a3 L.length c3, .map (some M)] 58)).alloc (.cells #[.slice none 0 0, .bool false, .map (some M)] 63)) ((w3.alloc (.cells #[.slice a3 L.length c3, .map (some M)] 58)).alloc (.cells #[.slice none 0 0, .bool false, .map (some M)] 63)) [] := by
    refine ⟨⟨.slice none 0 0, ⟨?_, World.ownsRow_nil _ _ _ _, Nat.le_refl _⟩⟩, hm3.keep ((hw33.trans hC4).block M hm3.lt), by have := hm3.lt; omega, by simp, Kp.refl _ _ _, hL, by simp⟩
    rw [← hz3]
    exact heap_alloc_new _ _
  generalize hW4 : (w3.alloc (.cells #[.slice a3 L.length c3, .map (some M)] 58)).alloc (.cells #[.slice none 0 0, .bool false, .map (some M)] 63) = w4 at *
  clear hW4
  have HC : Hid (∀ w', Kp (w3.heap.size + 1) [5, 63] w4 w' → Ch (w3.alloc (.cells #[.slice a3 L.length c3, .map (some M)] 58)) w') := fun w' k => Kp.ch hC4 k (by rw [hz3]; exact Nat.le_refl _)
  have HT : Hid (∀ w', Ch (w3.alloc (.cells #[.slice a3 L.length c3, .map (some M)] 58)) w' → w'.cell? ⟨w3.heap.size, 0, none⟩ = some (.slice a3 L.length c3)) := fun w' k => by simp [World.cell?, kept_at k hb3]
  have hw23 := hc2.trans hc3
  have HS : Hid (∀ w', Ch (w3.alloc (.cells #[.slice a3 L.length c3, .map (some M)] 58)) w' → Sl 1 RS w' (.slice a3 L.length c3) (L.map ms)) := fun w' k => sl_own (ownsRow_keep ho3 (hw33.trans k))
  clear hb3 z0 z1 z2 z3 z4 z5 z6 hck hpo ho3 hm3 hM3
  generalize w3.alloc (.cells #[.slice a3 L.length c3, .map (some M)] 58) = w33 at *
  generalize hR : w3.heap.size + 1 = R at *
  refine (hE0.i4 1396851505 (by omega) (by simp)).mono ?_
  rintro e w5 ⟨rfl, hE5, hk5⟩
  have t5 := HT.out _ (HC.out _ hk5)
  have hLl : (0 : Int) ≤ (L.length : Int) ∧ (L.length : Int) ≤ 65535 := by omega
  have hu := hE5.u2 (L.length : Int) hLl (by simp [be_len])
  go_wp2_with fail
  refine hu.mono ?_
  rintro e w6 ⟨rfl, hE6, hk6⟩
  have hk06 := hk5.trans hk6
  have t6 := HT.out _ (HC.out _ hk06)
  clear hu hE5 hE0 hk5 hk6 t5
  go_wp2
  go_loopw [29] (fun i wr => ∃ k : Nat, k ≤ L.length ∧ i = .int .i64 k ∧ Es R R M L w4 wr (([] ++ be 1396851505 4) ++ be L.length 2 ++ (L.take k).flatMap txB)) (fun i _ => L.length - (intOf i).toNat)
  case atStart => exact ⟨0, Nat.zero_le _, rfl, by simpa using hE6⟩
  case round =>
    clear hE6 hk06 t6
    obtain ⟨k, hk, rfl, hE⟩ := hrel
    have hcr := HC.out _ hE.kp
    by_cases hlt : k < L.length
    · obtain ⟨x, hx⟩ : ∃ a, L[k]? = some a := ⟨_, List.getElem?_eq_getElem hlt⟩
      have hxs := HF.out x (List.mem_of_getElem? hx)
      have hxm : (L.map ms)[k]? = some (ms x) := by rw [List.getElem?_map, hx]; rfl
      obtain ⟨b, off, hao, d0⟩ := (HS.out _ hcr).atS hxm
      have hle := flat_take_le txB L (k + 1)
      rw [flat_take txB hx, List.length_append] at hle
      have htx : (txB x).length = x.length + 2 := by unfold txB sbL; rw [List.length_append, be_len, List.length_map]; omega
      have hadd := hE.text (ms x) (by rw [ms_size]; omega) (by rw [ms_size]; simp only [List.length_append, be_len, List.length_nil]; omega)
      rw [txB_of, bl_ms, List.append_assoc, ← flat_take txB hx] at hadd
      clear hx hxm hE htx hle
      subst hao
      go_wp2_with (first
        | (go_at_call 26; (with_reducible refine hadd.mono ?_); rintro e w7 ⟨rfl, hE7, _⟩))
      go_roundw
      case rel => exact ⟨k + 1, by omega, by go_num, hE7⟩
      case measure => simp [intOf]; omega
    · obtain rfl : k = L.length := by omega
      rw [List.take_length] at hE
      obtain ⟨z0, z1, z2, z3, z4, z5, z6⟩ := HK.out _ (hw23.trans (hw33.trans hcr))
      have hlen : (([] ++ be 1396851505 4) ++ be L.length 2 ++ L.flatMap txB).length ≤ 200000 := by simp only [List.length_append, be_len, List.length_nil]; omega
      have hRw : w.heap.size ≤ R := by have h1 := (hcW.trans hw23).size; omega
      have hcc := hcls R R M w4 wr _ hE (hcW.trans (hw23.trans (hw33.trans hcr))) hRw hlen
      have hww : Ch w wr := hcW.trans (hw23.trans (hw33.trans hcr))
      have HLL : Hid ((([] ++ be 1396851505 4) ++ be L.length 2 ++ L.flatMap txB ++ CB) = headB L ++ CB) := by show _ = _; unfold headB; simp
      clear hcls hE
      go_wp2_with (first
        | (go_at_call 27; (with_reducible refine hcc.mono ?_); rintro e w8 ⟨rfl, hE8⟩; have hk8 := HC.out _ hE8.kp; rw [HLL.out] at hE8; obtain ⟨v8, hN8⟩ := hE8.en; have hlen8 := hE8.len)
        | (go_at_call 28; (with_reducible refine (bytes_any hN8 (by omega)).mono ?_); rintro e w9 ⟨v9, rfl, ho9, hc9⟩))
      go_ret2
      have hw8 : Ch w w8 := hcW.trans (hw23.trans (hw33.trans hk8))
      exact ⟨v9, rfl, ownsRow_base ho9 hw8.size, hw8.trans hc9⟩
end Go.Proofs.YtdalibfgkkgcpaaGreat
