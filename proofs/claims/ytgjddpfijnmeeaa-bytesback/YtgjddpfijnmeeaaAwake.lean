/- What the document fixes: the law's function awake returns true. -/
import Derived.Test.YtgjddpfijnmeeaaWnum
import Derived.Laws.BytesArg
namespace Go.Proofs.Ytgjddpfijnmeeaa
open Go.RowKit

/-- Two steps; what the second may turn of the old blocks the first may turn too. -/
theorem Ch.chain {S T : Nat → Prop} {a b c : World} (h : Ch S a b) (k : Ch T b c) (hT : ∀ i, i < a.heap.size → T i → S i) : Ch S a c :=
  ⟨k.os.trans h.os, k.tape.trans h.tape, k.output.trans h.output, Nat.le_trans h.size k.size, fun i hi hs => (k.block i (Nat.lt_of_lt_of_le hi h.size) (fun x => hs (hT i hi x))).trans (h.block i hi hs)⟩

theorem ownsRow_keep {w w' : World} {S : Nat → Prop} {base : Nat} {e : TypeId} {size : Nat} {v : Value} {n : Nat} {xs : List Value} (h : w.ownsRow base e size v n xs) (c : Ch S w w') (hv : ∀ g, v.ownBlock = some g → ¬ S g) : w'.ownsRow base e size v n xs :=
  ownsRow_same h (fun g hg => c.block g (h.lt g hg).2 (hv g hg))

theorem row_string {w : World} {sv : Value} {bs : List Int} (h : Row w sv bs) : (convert 25 9 sv).run Try.prog w = .ok (.string (strOfNums bs)) w := by
  rcases h with ⟨rfl, rfl⟩ | ⟨a, cap, rfl, hc⟩
  · exact run_convert_bytes_nil w 25 5 Try.underlying25 Try.underlying5 0 0 9 Try.underlying9
  · have hl := run_loadCells_list (P := Try.prog) w a (bs.map (Value.int .u8)) hc
    rw [List.length_map] at hl
    rw [run_convert_bytes_string w 25 9 5 _ bs.length cap Try.underlying25 Try.underlying5 Try.underlying9, run_bytesToString w _ bs.length cap bs hl, foldl_push_bytes]
    simp [strOfNums, ByteArray.empty, ByteArray.emptyWithCapacity]
    rfl

theorem Row.keep {w w' : World} {S : Nat → Prop} {sv : Value} {bs : List Int} (h : Row w sv bs) (c : Ch S w w') (hs : ∀ k, k < w.heap.size → ¬ S k) : Row w' sv bs := by
  rcases h with h | ⟨a, cap, hv, hc⟩
  · exact Or.inl h
  · refine Or.inr ⟨a, cap, hv, fun j u hj => ?_⟩
    have h1 := hc j u hj
    have h2 := World.block_lt_of_cell? _ _ h1
    rw [World.cell?_of_block (w := w) (c.block _ h2 (hs _ h2))]
    exact h1

theorem row_lit {w : World} {g : Nat} {bs : List Int} {cap : Nat} (h : w.heap[g]? = some (.cells (bs.map (Value.int .u8)).toArray 5 (0, 0))) : Row w (.slice (some ⟨g, 0, none⟩) bs.length cap) bs :=
  Or.inr ⟨_, cap, rfl, fun j u hj => World.news_of_block h j u (by simpa using hj)⟩

set_option maxHeartbeats 1000000 in
theorem awake_any (w : World) : Calls Try.prog 8 #[] w fun e w' => e = .returned (.bool true) ∧ Ch (fun _ => False) w w' := by
  go_enter Try.func8, Try.ntmps8
  go_wp2_with fail
  have hwt : Wt (w.alloc (.cells #[.slice none 0 0, .bool false] 27)) w.heap.size (.slice none 0 0) [] false := ⟨heap_alloc_new _ _, World.ownsRow_nil _ _ _ _, by simp⟩
  refine (wu2_any 258 _ _ _ _ _ hwt (by simp)).mono ?_
  rintro e w2 ⟨rfl, v, hv, hc2, hg2⟩
  rw [show wroteB false (inR 0 65535 258) [] (be 258 2) = [1, 2] from by decide, show wroteF false (inR 0 65535 258) = false from by decide] at hv
  go_wp2_with fail
  refine (bytes_any _ _ _ _ _ hv).mono ?_
  rintro e w3 ⟨b, rfl, hb, hc3⟩
  go_wp2_with fail
  have hrow : Row (w3.alloc (.cells #[.int .u8 1] 5)) (.slice (some ⟨w3.heap.size, 0, none⟩) 1 1) [1] := row_lit (bs := [1]) (heap_alloc_new _ _)
  refine (newReader_any _ [1] _ hrow (by simp) (by simp)).mono ?_
  rintro e w5 ⟨r2, v2, rfl, hrd, hc5, hr2, hg5⟩
  go_wp2_with fail
  refine (u2_fail r2 v2 [1] 0 false _ hrd (by decide)).mono ?_
  rintro e w6 ⟨rfl, hrd6, hc6⟩
  go_wp2_with fail
  refine (err_failed r2 v2 [1] 0 _ hrd6).mono ?_
  rintro e w7 ⟨rfl, nq, rfl⟩
  have hbr : Row w6 b [1, 2] := by
    have h1 := row_of_owns (bs := [1, 2]) hb
    have h2 := h1.keep ((Ch.refl (fun _ => False) w3).alloc (.cells #[.int .u8 1] 5)) (fun _ _ h => h)
    have h3 := h2.keep hc5 (fun _ _ h => h)
    have hlt : ∀ g, b.ownBlock = some g → g ≠ r2 := fun g hg e => by
      have := (hb.lt g hg).2
      simp at hr2
      omega
    have h4 : w6.ownsRow w2.heap.size 5 1 b 2 [.int .u8 1, .int .u8 2] := by
      have q1 := ownsRow_keep hb ((Ch.refl (fun _ => False) w3).alloc (.cells #[.int .u8 1] 5)) (fun _ _ h => h)
      have q2 := ownsRow_keep q1 hc5 (fun _ _ h => h)
      exact ownsRow_keep q2 hc6 hlt
    exact row_of_owns (bs := [1, 2]) h4
  have hconv : (convert 25 9 b).run Try.prog (w6.drewN nq) = .ok (.string (strOfNums [1, 2])) (w6.drewN nq) := row_string (w := w6.drewN nq) hbr
  have hch : Ch (fun _ => False) w (w6.drewN nq) := by
    have k1 : Ch (fun _ => False) w w2 := ((Ch.refl (fun _ => False) w).alloc _).chain hc2 (fun i hi h => by simp [Value.ownBlock] at h; omega)
    have k2 := ((k1.chain hc3 (fun _ _ h => h)).alloc (.cells #[.int .u8 1] 5)).chain hc5 (fun _ _ h => h)
    have h32 := hc3.size
    have h12 := k1.size
    exact (k2.chain hc6 (fun i hi h => by simp at hr2; omega)).drewN nq
  have hstr : (strOfNums [1, 2]).toList = [1, 2] := by decide +kernel
  clear hv hc2 hg2 hb hc3 hrow hrd hc5 hg5 hrd6 hc6 hbr hwt hr2
  go_wp2
  go_ret
  exact ⟨rfl, hch⟩
end Go.Proofs.Ytgjddpfijnmeeaa
