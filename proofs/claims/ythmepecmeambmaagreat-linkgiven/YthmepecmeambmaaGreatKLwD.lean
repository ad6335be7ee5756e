/- The document's own given classes. -/
import Derived.Test.YthmepecmeambmaaGreatKLwC
import Derived.Deep.AppendLies
import Derived.Deep.RegionHeldLaw
namespace Go.Proofs.YthmepecmeambmaaGreat
open Go.RowKit
set_option linter.unusedVariables false

theorem excs_eq (w : World) : Calls Tryz.prog 115 #[] w fun e w' => e = .returned (.slice (some ⟨w.heap.size, 0, none⟩) 8 8) ∧ w' = w.alloc (.cells (exN.map Value.string).toArray 9) := by
  go_enter Tryz.func115, Tryz.ntmps115
  go_wp2
  go_ret
  exact ⟨rfl, rfl⟩

/-- One class more, where a region draws its order. -/
theorem Oc.appendW {B : Nat} {w : World} {v : Value} {L : List Cls} {c : Cls} (h : Oc B w v L) {ops : Array Oper} {o : Oper} {a : Act} {K : Act → World → Prop} {Q : Exit → Act → World → Prop} {E : Prop} (hgd : o.guard = none) (s x : Operand)
    (ho : o.op = .call { callee := .builtin .append, args := #[s, x], argTypes := #[22, 22] }) (hs : a.eval s = v) (D : List Value) (hD : RCo B w D c) (hD7 : D.length = 7)
    (g cap : Nat) (hx : a.eval x = .slice (some ⟨g, 0, none⟩) 1 cap) (hg : w.heap[g]? = some (.cells D.toArray 41)) (hL : L.length ≤ 900) (hB : B ≤ w.heap.size) {w0 : World} (hB0 : w0.heap.size ≤ B) (hc : Ch w0 w)
    (hK : ∀ v' w', Oc B w' v' (L ++ [c]) → Ch w0 w' → (∀ (g : Nat) (cs : Array Value) (T : TypeId), w.heap[g]? = some (Obj.cells cs T) → T ≠ 41 → w'.heap[g]? = some (Obj.cells cs T)) → K (a.put o.dst v') w') :
    if Region.wanted o (yielded ops a.tmps) = true then Oper.wp Tryz.prog o a w K Q else E := by
  obtain ⟨i0, hi, hz0, hz1, hz2⟩ := info_parts infC
  obtain ⟨C, h1, h2, h3⟩ := h
  refine step_append_lies _ hgd s x 22 ho B 41 i0 (.agg #[.string ⟨#[]⟩, .string ⟨#[]⟩, .bool false, .bool false, .slice none 0 0, .slice none 0 0, .slice none 0 0]) 7 112 Tryz.underlying22 hi hz0 hz1 hz2 rfl (by decide) v L.length _ hs h2 ⟨g, 0, none⟩ 1 cap D hx (by omega) (fun j u hj => ?_) (fun u hu => hD.k.2 u hu) (by decide) (by unfold maxLen; omega) (by omega) hB w.heap.size rfl ?_
  · have ea : (⟨g, 0, none⟩ : Addr).add j = ⟨g, j, none⟩ := by unfold Addr.add; split <;> simp_all
    rw [ea]
    simp only [World.cell?, hg]
    simpa using hj
  · intro g' cap' w' g1 g2 _ _
    have hrow : ∀ g, v.ownBlock = some g → ∃ cs, w.heap[g]? = some (.cells cs 41) := fun g hg => (own_objG h2 hg).2
    refine hK _ w' ⟨fun i => if i < L.length then C i else D, fun i => by dsimp only; split; exact h1 i; exact hD7, ?_, fun i x hix => ?_⟩ (hc.grown g2 (fun k hk => Nat.le_trans hB0 (h2.lt k hk).1)) (fun b cs T hb hT => (g2.block b (Array.getElem?_eq_some_iff.1 hb).1 (fun q => by
      obtain ⟨cs', e⟩ := hrow b q.symm
      rw [hb] at e
      exact hT (by simpa using (by simpa using e : _ ∧ _).2))).trans hb)
    · have e := flat_app C (fun _ => D) L.length 1
      have e1 : (List.range 1).flatMap (fun _ => D) = D := by simp [List.range_succ]
      rw [e1] at e
      rw [e] at g1
      rw [List.length_append]
      exact g1
    · dsimp only
      by_cases hlt : i < L.length
      · rw [if_pos hlt]
        rw [List.getElem?_append_left hlt] at hix
        exact (h3 i x hix).grown g2 hrow
      · rw [if_neg hlt]
        have hi0 : i = L.length := by
          have := (List.getElem?_eq_some_iff.1 hix).1
          rw [List.length_append, List.length_singleton] at this
          omega
        subst hi0
        rw [List.getElem?_append_right (Nat.le_refl _), Nat.sub_self] at hix
        cases hix
        exact hD.grown g2 hrow

set_option maxHeartbeats 16000000 in
set_option maxRecDepth 100000 in
theorem refBuiltin_any (w : World) : Calls Tryz.prog 42 #[] w fun e w' => ∃ v, e = .returned v ∧ Oc w.heap.size w' v given ∧ Ch w w' := by
  obtain ⟨W0, hW0⟩ : ∃ W0, w.alloc (.cells #[.int .i64 36, .int .i64 0, .int .i64 0, .string ⟨#[]⟩, .string ⟨#[]⟩, .string ⟨#[]⟩] 62) = W0 := ⟨_, rfl⟩
  have hc0 : Ch w W0 := hW0 ▸ (Ch.refl w).alloc _
  have hr0 : W0.heap[w.heap.size]? = some (.cells #[.int .i64 36, .int .i64 0, .int .i64 0, .string ⟨#[]⟩, .string ⟨#[]⟩, .string ⟨#[]⟩] 62) := hW0 ▸ heap_alloc_new _ _
  go_enter Tryz.func42, Tryz.ntmps42
  go_wp2_with (first
    | (go_at_call 114; (try rw [hW0]); (with_reducible refine (inits_any W0).mono ?_); rintro e w1 ⟨v1, rfl, o1, c1⟩; obtain ⟨x1, y1, rfl⟩ := Ow.form o1)
    | (go_at_call 114; (with_reducible refine (inits_any w1).mono ?_); rintro e w2 ⟨v2, rfl, o2, c2⟩; obtain ⟨x2, y2, rfl⟩ := Ow.form o2)
    | (go_at_call 115; (with_reducible refine (excs_eq _).mono ?_); rintro e w3 ⟨rfl, hw3⟩; subst hw3)
    | fail)
  have q1 : ∀ O, RCo w.heap.size (w2.alloc O) [.string nObject, .string nNone, .bool false, .bool false, .slice none 0 0, .slice none 0 0, .slice x1 1 y1] (initC nObject nNone) := fun O => ⟨_, _, _, rfl, ⟨Ow.nil, Ow.nil, (((Ow.imp o1 fun _ _ h => h.base hc0.size).base hc0.size).keep (fun _ _ x => x.keep c2) c2).keep (fun _ _ x => x.keep ((Ch.refl w2).alloc O)) ((Ch.refl w2).alloc O)⟩⟩
  have q2 : ∀ O, RCo w.heap.size (w2.alloc O) [.string nThrow, .string nObject, .bool false, .bool false, .slice none 0 0, .slice none 0 0, .slice x2 1 y2] (initC nThrow nObject) := fun O => ⟨_, _, _, rfl, ⟨Ow.nil, Ow.nil, ((Ow.imp o2 fun _ _ h => h.base (hc0.trans c1).size).base (hc0.trans c1).size).keep (fun _ _ x => x.keep ((Ch.refl w2).alloc O)) ((Ch.refl w2).alloc O)⟩⟩
  have hO := Oc.lit2 (heap_alloc_new w2 (.cells #[.string nObject, .string nNone, .bool false, .bool false, .slice none 0 0, .slice none 0 0, .slice x1 1 y1, .string nThrow, .string nObject, .bool false, .bool false, .slice none 0 0, .slice none 0 0, .slice x2 1 y2] 41)) rfl ((hc0.trans c1).trans c2).size (q1 _) (q2 _)
  have hN : ((w2.alloc (.cells #[.string nObject, .string nNone, .bool false, .bool false, .slice none 0 0, .slice none 0 0, .slice x1 1 y1, .string nThrow, .string nObject, .bool false, .bool false, .slice none 0 0, .slice none 0 0, .slice x2 1 y2] 41)).alloc (.cells (exN.map Value.string).toArray 9)).heap[w2.heap.size + 1]? = some (.cells (exN.map Value.string).toArray 9) := alloc_new2 _ _ _
  have hW : Ch W0 ((w2.alloc (.cells #[.string nObject, .string nNone, .bool false, .bool false, .slice none 0 0, .slice none 0 0, .slice x1 1 y1, .string nThrow, .string nObject, .bool false, .bool false, .slice none 0 0, .slice none 0 0, .slice x2 1 y2] 41)).alloc (.cells (exN.map Value.string).toArray 9)) := ((c1.trans c2).alloc _).alloc _
  clear q1 q2
  go_loopw [2, 4] (fun v i wr => ∃ k : Nat, k ≤ 8 ∧ i = .int .i64 k ∧ Oc w.heap.size wr v (gv k) ∧ Ch w wr ∧ wr.heap[w2.heap.size + 1]? = some (.cells (exN.map Value.string).toArray 9) ∧ wr.heap[w.heap.size]? = some (.cells #[.int .i64 36, .int .i64 0, .int .i64 0, .string ⟨#[]⟩, .string ⟨#[]⟩, .string ⟨#[]⟩] 62)) (fun _ i _ => 8 - (intOf i).toNat)
  case atStart => exact ⟨0, by omega, rfl, hO.keep ((Ch.refl _).alloc _), hc0.trans hW, hN, kept_at hW hr0⟩
  case round =>
    clear hN hW hO c1 c2 o1 o2 hr0
    obtain ⟨k, hk, rfl, hO, hcr, hN, hR⟩ := hrel
    by_cases hlt : k < 8
    · obtain ⟨n, hn⟩ : ∃ n, exN[k]? = some n := ⟨_, List.getElem?_eq_getElem (show k < exN.length from hlt)⟩
      have hcell : wr.cell? ⟨w2.heap.size + 1, k, none⟩ = some (.string n) := by
        simp only [World.cell?, hN]
        simp [hn]
      have hgv := gv_succ hn
      have hgl : Hid ((gv k).length = 2 + k) := gv_len k hk
      have HG : Hid (gv (k + 1) = gv k ++ [initC n nThrow]) := hgv
      have HN : Hid (wr.heap[w2.heap.size + 1]? = some (.cells (exN.map Value.string).toArray 9)) := hN
      have HR : Hid (wr.heap[w.heap.size]? = some (.cells #[.int .i64 36, .int .i64 0, .int .i64 0, .string ⟨#[]⟩, .string ⟨#[]⟩, .string ⟨#[]⟩] 62)) := hR
      have HQ : Hid (∀ w', Ch wr w' → w'.cell? ⟨w2.heap.size + 1, k, none⟩ = some (.string n)) := fun w' c => cell_keep c hcell
      have HNn : Hid (∀ w' : World, w'.heap[w2.heap.size + 1]? = some (.cells (exN.map Value.string).toArray 9) → w'.cell? ⟨w2.heap.size + 1, k, none⟩ = some (.string n)) := fun w' h => by
        simp only [World.cell?, h]
        simp [hn]
      have HC : Hid (Ch w wr) := hcr
      obtain ⟨ao, cc, rfl⟩ := Ow.form hO
      have HO : Hid (Oc w.heap.size wr (.slice ao (gv k).length cc) (gv k)) := hO
      clear hn hgv hN hR hcr hO
      go_wp2_with fail
      go_region_held_law (fun w' => w'.cell? ⟨w2.heap.size + 1, k, none⟩ = some (.string n)) ((first | assumption | (refine HQ.out _ ?_; repeat (first | exact Ch.refl _ | refine Ch.drew ?_ | refine Ch.alloc ?_ _ | refine Ch.trans ?_ (by assumption))))) (first
        | (go_at_call 114; (with_reducible refine (inits_any _).mono ?_); rintro e w3 ⟨v3, rfl, o3, c3⟩; obtain ⟨x3, y3, rfl⟩ := Ow.form o3)
        | (refine (HO.out.keep (by repeat (first | exact Ch.refl _ | refine Ch.drew ?_ | refine Ch.alloc ?_ _ | refine Ch.trans ?_ (by assumption)))).appendW (c := initC n nThrow) (by rfl) _ _ (by rfl) (by rfl) [.string n, .string nThrow, .bool false, .bool false, .slice none 0 0, .slice none 0 0, .slice x3 1 y3] ⟨_, _, _, rfl, Ow.nil, Ow.nil, ((Ow.imp o3 fun _ _ h => h.base (Ch.size (HC.out.trans (by repeat (first | exact Ch.refl _ | refine Ch.drew ?_ | refine Ch.alloc ?_ _ | refine Ch.trans ?_ (by assumption)))))).base (Ch.size (HC.out.trans (by repeat (first | exact Ch.refl _ | refine Ch.drew ?_ | refine Ch.alloc ?_ _ | refine Ch.trans ?_ (by assumption)))))).keep (fun _ _ x => x.keep (by repeat (first | exact Ch.refl _ | refine Ch.drew ?_ | refine Ch.alloc ?_ _ | refine Ch.trans ?_ (by assumption)))) (by repeat (first | exact Ch.refl _ | refine Ch.drew ?_ | refine Ch.alloc ?_ _ | refine Ch.trans ?_ (by assumption)))⟩ rfl _ 1 (by rfl) (alloc_at _ _ _ (by simp)) (by have := hgl.out; omega) (Ch.size (HC.out.trans (by repeat (first | exact Ch.refl _ | refine Ch.drew ?_ | refine Ch.alloc ?_ _ | refine Ch.trans ?_ (by assumption))))) (Nat.le_refl _) (HC.out.trans (by repeat (first | exact Ch.refl _ | refine Ch.drew ?_ | refine Ch.alloc ?_ _ | refine Ch.trans ?_ (by assumption)))) ?_; intro v4 w4 o4 c4 b4; have hr4 := b4 _ _ _ (kept_at (by repeat (first | exact Ch.refl _ | refine Ch.drew ?_ | refine Ch.alloc ?_ _ | refine Ch.trans ?_ (by assumption))) HN.out) (by decide); have hz4 := b4 _ _ _ (kept_at (by repeat (first | exact Ch.refl _ | refine Ch.drew ?_ | refine Ch.alloc ?_ _ | refine Ch.trans ?_ (by assumption))) HR.out) (by decide); have hq4 := HNn.out _ hr4)
        | fail)
      all_goals
        go_wp2_with fail
        go_roundw
        case rel => exact ⟨k + 1, by omega, by go_num, by rw [HG.out]; exact o4, c4, hr4, hz4⟩
        case measure => simp [intOf]; omega
    · obtain rfl : k = 8 := by omega
      have hgl : Hid ((gv 8).length = 10) := rfl
      have hR' : Hid (wr.heap[w.heap.size]? = some (.cells #[.int .i64 36, .int .i64 0, .int .i64 0, .string ⟨#[]⟩, .string ⟨#[]⟩, .string ⟨#[]⟩] 62)) := hR
      have HC : Hid (Ch w wr) := hcr
      obtain ⟨ao, cc, rfl⟩ := Ow.form hO
      have HO : Hid (Oc w.heap.size wr (.slice ao (gv 8).length cc) (gv 8)) := hO
      clear hN hlt hk hR hcr hO
      go_wp2_with (first
        | (at_builtin; refine ((HO.out.keep ((Ch.refl wr).alloc _)).keep ((Ch.refl _).alloc _)).append (NL := [taskC]) rfl (.tmp 28) (.tmp 32) rfl rfl (fun _ => [.string nTask, .string nObject, .bool true, .bool true, .slice none 0 0, .slice none 0 0, .slice (some ⟨wr.heap.size, 0, none⟩) 1 1]) (fun i c hi => ?_) (fun _ => rfl) _ 1 1 rfl rfl (alloc_at _ _ _ (by simp)) (by have := hgl.out; omega) (Ch.size ((HC.out.alloc _).alloc _)) (Nat.le_refl _) ((HC.out.alloc _).alloc _) ?_; (match i, hi with | 0, hi => cases hi; exact ⟨_, _, _, rfl, Ow.nil, Ow.nil, Ow.one (al_keep (heap_alloc_new _ _)) HC.out.size rfl ⟨_, _, rfl, Ow.nil, Ow.nil⟩⟩); intro v4 w4 o4 c4 b4; have hz4 := b4 _ _ _ (kept_at (((Ch.refl wr).alloc _).alloc _) hR'.out) (by decide); have HO4 : Hid _ := o4; clear o4 b4)
        | (at_builtin; refine ((Oc.keep HO4.out ((Ch.refl w4).alloc _)).keep ((Ch.refl _).alloc _)).append (NL := [sysC]) rfl (.tmp 34) (.tmp 45) rfl rfl (fun _ => [.string nSys, .string nObject, .bool false, .bool true, .slice none 0 0, .slice none 0 0, .slice (some ⟨w4.heap.size, 0, none⟩) 4 4]) (fun i c hi => ?_) (fun _ => rfl) _ 1 1 rfl rfl (alloc_at _ _ _ (by simp)) (by rw [List.length_append, hgl.out]; decide) (Ch.size ((c4.alloc _).alloc _)) (Nat.le_refl _) ((c4.alloc _).alloc _) ?_; (match i, hi with | 0, hi => cases hi; exact ⟨_, _, _, rfl, Ow.nil, Ow.nil, Ow.lit 4 rfl (al_keep (heap_alloc_new _ _)) c4.size (fun i => match i with
    | 0 => [.string ⟨#[112, 105, 99, 107]⟩, .string ⟨#[40, 41, 73]⟩, .bool true, .bool false, .int .i64 0, .int .i64 0, .slice (some ⟨w.heap.size, 0, none⟩) 1 1, .slice none 0 0]
    | 1 => [.string ⟨#[101, 99, 104, 111]⟩, .string ⟨#[40, 76, 79, 98, 106, 101, 99, 116, 59, 41, 76, 79, 98, 106, 101, 99, 116, 59]⟩, .bool true, .bool false, .int .i64 0, .int .i64 1, .slice (some ⟨w.heap.size, 0, none⟩) 1 1, .slice none 0 0]
    | 2 => [.string ⟨#[102, 114, 101, 115, 104]⟩, .string ⟨#[40, 41, 76, 79, 98, 106, 101, 99, 116, 59]⟩, .bool true, .bool false, .int .i64 0, .int .i64 0, .slice (some ⟨w.heap.size, 0, none⟩) 1 1, .slice none 0 0]
    | _ => [.string ⟨#[99, 97, 108, 108]⟩, .string ⟨#[40, 76, 84, 97, 115, 107, 59, 41, 86]⟩, .bool true, .bool false, .int .i64 0, .int .i64 1, .slice (some ⟨w.heap.size, 0, none⟩) 1 1, .slice none 0 0]) (fun i => by
      match i with
      | 0 => rfl
      | 1 => rfl
      | 2 => rfl
      | _ + 3 => rfl) rfl (by omega) (fun i m hi => by
      match i, hi with
      | 0, hi => cases hi; exact ⟨_, _, rfl, Ow.one (al_keep (al_keep hz4)) (Nat.le_refl _) rfl rfl, Ow.nil⟩
      | 1, hi => cases hi; exact ⟨_, _, rfl, Ow.one (al_keep (al_keep hz4)) (Nat.le_refl _) rfl rfl, Ow.nil⟩
      | 2, hi => cases hi; exact ⟨_, _, rfl, Ow.one (al_keep (al_keep hz4)) (Nat.le_refl _) rfl rfl, Ow.nil⟩
      | 3, hi => cases hi; exact ⟨_, _, rfl, Ow.one (al_keep (al_keep hz4)) (Nat.le_refl _) rfl rfl, Ow.nil⟩)⟩); intro v5 w5 o5 c5 b5)
        | fail)
      go_ret
      exact ⟨_, rfl, o5, c5⟩
end Go.Proofs.YthmepecmeambmaaGreat
