/- Whether a method's code may be; whether a method may be. -/
import Derived.Test.YtdalibfgkkgcpaaGreatChkC
namespace Go.Proofs.YtdalibfgkkgcpaaGreat
open Go.RowKit
set_option linter.unusedVariables false

theorem or2 (a b : Int) (g : Nat) (w : World) (hg : w.heap[g]? = some (.cells #[.int .i64 a, .int .i64 b] 30)) :
    Calls Tryz.prog 34 #[.slice (some ⟨g, 0, none⟩) 2 2] w fun e w' => e = .returned (.int .i64 (orL [a, b])) ∧ w' = w := or_any [a, b] g 2 w hg rfl (by omega)
theorem or4 (a b c d : Int) (g : Nat) (w : World) (hg : w.heap[g]? = some (.cells #[.int .i64 a, .int .i64 b, .int .i64 c, .int .i64 d] 30)) :
    Calls Tryz.prog 34 #[.slice (some ⟨g, 0, none⟩) 4 4] w fun e w' => e = .returned (.int .i64 (orL [a, b, c, d])) ∧ w' = w := or_any [a, b, c, d] g 4 w hg rfl (by omega)

set_option maxHeartbeats 8000000 in
theorem checkCode_any (m : Mth) (vc vh : Value) (w : World) (hM : MFine m) (h1 : Sl 6 RI w vc m.code) (h2 : Sl 4 RH w vh m.hs) :
    Calls Tryz.prog 77 #[.agg #[.string m.n, .string m.d, .bool m.st, .bool m.ab, .int .i64 m.sk, .int .i64 m.lo, vc, vh]] w fun e w' => e = .returned (.int .i64 (codE m)) ∧ Ch w w' := by
  have hb1 : ((w.alloc (.cells (mthC m vc vh) 45)).alloc (.cells #[.int .i64 (m.code.length : Int)] 3)).heap[w.heap.size]? = some (.cells (mthC m vc vh) 45) := heap_alloc2_old _ _ _
  have hb2 : ((w.alloc (.cells (mthC m vc vh) 45)).alloc (.cells #[.int .i64 (m.code.length : Int)] 3)).heap[w.heap.size + 1]? = some (.cells #[.int .i64 (m.code.length : Int)] 3) := heap_alloc2_new _ _ _
  have hcW : Ch w ((w.alloc (.cells (mthC m vc vh) 45)).alloc (.cells #[.int .i64 (m.code.length : Int)] 3)) := ((Ch.refl w).alloc _).alloc _
  have hI : ∀ w0, Ch ((w.alloc (.cells (mthC m vc vh) 45)).alloc (.cells #[.int .i64 (m.code.length : Int)] 3)) w0 → Calls Tryz.prog 110 #[vc, .func (.func 111) #[] #[.pointer (some ⟨w.heap.size + 1, 0, none⟩), .pointer (some ⟨w.heap.size, 0, none⟩)]] w0 fun e w' => e = .returned (.int .i64 (firstF (insE m.code.length m.lo) m.code)) ∧ Ch w0 w' := fun w0 c =>
    firstI_any m.code vc w0 (h1.keepI (hcW.trans c)) m.code.length m.lo _ _ (by simp [World.cell?, kept_at c hb2]) (mthC_at (kept_at c hb1)).2.2.2.2.2.1 hM.code
  have hH : ∀ w0, Ch ((w.alloc (.cells (mthC m vc vh) 45)).alloc (.cells #[.int .i64 (m.code.length : Int)] 3)) w0 → Calls Tryz.prog 113 #[vh, .func (.func 114) #[] #[.pointer (some ⟨w.heap.size + 1, 0, none⟩)]] w0 fun e w' => e = .returned (.int .i64 (firstF (hndE m.code.length) m.hs)) ∧ Ch w0 w' := fun w0 c =>
    firstH_any m.hs vh w0 (h2.keepH (hcW.trans c)) m.code.length _ (by simp [World.cell?, kept_at c hb2]) hM.hs
  have HT : Hid (∀ w', Ch ((w.alloc (.cells (mthC m vc vh) 45)).alloc (.cells #[.int .i64 (m.code.length : Int)] 3)) w' → w'.cell? ⟨w.heap.size, 6, none⟩ = some vc ∧ w'.cell? ⟨w.heap.size, 7, none⟩ = some vh) := fun w' c => ⟨(mthC_at (kept_at c hb1)).2.2.2.2.2.2.1, (mthC_at (kept_at c hb1)).2.2.2.2.2.2.2⟩
  clear hb1 hb2
  unfold codE
  generalize firstF (insE m.code.length m.lo) m.code = r1 at *
  generalize firstF (hndE m.code.length) m.hs = r2 at *
  obtain ⟨ac, cc, rfl, _, _⟩ := h1.form
  obtain ⟨ah, ch, rfl, _, _⟩ := h2.form
  clear h1 h2 hM
  generalize m.code.length = l1 at *
  generalize m.hs.length = l2 at *
  unfold mthC at *
  go_enter Tryz.func77, Tryz.ntmps77
  go_wp2_with fail
  generalize (w.alloc (.cells #[.string m.n, .string m.d, .bool m.st, .bool m.ab, .int .i64 m.sk, .int .i64 m.lo, .slice ac l1 cc, .slice ah l2 ch] 45)).alloc (.cells #[.int .i64 (l1 : Int)] 3) = w1 at *
  go_region_held (fun w' => w'.cell? ⟨w.heap.size, 6, none⟩ = some (.slice ac l1 cc) ∧ w'.cell? ⟨w.heap.size, 7, none⟩ = some (.slice ah l2 ch))
    ((refine HT.out _ ?_; repeat (first | exact Ch.refl _ | refine Ch.drew ?_ | refine Ch.alloc ?_ _ | refine Ch.trans ?_ (by assumption)))) (first
      | (go_at_call 110; (with_reducible refine (hI _ (by repeat (first | exact Ch.refl _ | refine Ch.drew ?_ | refine Ch.alloc ?_ _ | refine Ch.trans ?_ (by assumption)))).mono ?_); rintro e w3 ⟨rfl, hc3⟩)
      | (go_at_call 113; (with_reducible refine (hH _ (by repeat (first | exact Ch.refl _ | refine Ch.drew ?_ | refine Ch.alloc ?_ _ | refine Ch.trans ?_ (by assumption)))).mono ?_); rintro e w4 ⟨rfl, hc4⟩)
      | (go_at_call 34; (with_reducible refine (or2 _ _ _ _ (by first | exact alloc_at _ _ _ (by simp) | exact alloc_at' _ _ _ (by simp))).mono ?_); rintro e w5 ⟨rfl, hx⟩; subst hx))
  all_goals
    go_wp2
    go_ret
    refine ⟨rfl, hcW.trans ?_⟩
    repeat (first | exact Ch.refl _ | refine Ch.drew ?_ | refine Ch.alloc ?_ _ | refine Ch.trans ?_ (by assumption))
end Go.Proofs.YtdalibfgkkgcpaaGreat
