/- A class that shares nothing: its texts. -/
import Derived.Test.YthmepecmeambmaaGreatKLkD
import Derived.Deep.RegionHeld3
namespace Go.Proofs.YthmepecmeambmaaGreat
open Go.RowKit
set_option linter.unusedVariables false

def RMo (B : Nat) (w : World) (cs : List Value) (m : Mth) : Prop :=
  ∃ vc vh, cs = [.string m.n, .string m.d, .bool m.st, .bool m.ab, .int .i64 m.sk, .int .i64 m.lo, vc, vh] ∧ Ow 6 62 RI B w vc m.code ∧ Ow 4 124 RH B w vh m.hs
theorem RMo.rm {B : Nat} {w : World} {cs : List Value} {m : Mth} (h : RMo B w cs m) : RM w cs m := by
  obtain ⟨vc, vh, h1, h2, h3⟩ := h
  exact ⟨vc, vh, h1, h2.sl, h3.sl⟩
theorem RMo.keep {B : Nat} {w w' : World} {cs : List Value} {m : Mth} (h : RMo B w cs m) (c : Ch w w') : RMo B w' cs m := by
  obtain ⟨vc, vh, h1, h2, h3⟩ := h
  exact ⟨vc, vh, h1, h2.keep (fun _ _ x => x) c, h3.keep (fun _ _ x => x) c⟩
theorem RMo.base {B B' : Nat} {w : World} {cs : List Value} {m : Mth} (h : RMo B w cs m) (hb : B' ≤ B) : RMo B' w cs m := by
  obtain ⟨vc, vh, h1, h2, h3⟩ := h
  exact ⟨vc, vh, h1, h2.base hb, h3.base hb⟩
/-- A class whose rows are its own. -/
structure OwC (B : Nat) (w : World) (c : Cls) (vi vf vm : Value) : Prop where
  i : Ow 1 9 RS B w vi c.im
  f : Ow 3 103 RF B w vf c.fs
  m : Ow 8 66 (RMo B) B w vm c.me
theorem OwC.keep {B : Nat} {w w' : World} {c : Cls} {vi vf vm : Value} (h : OwC B w c vi vf vm) (k : Ch w w') : OwC B w' c vi vf vm :=
  ⟨h.i.keep (fun _ _ x => x) k, h.f.keep (fun _ _ x => x) k, h.m.keep (fun _ _ x => x.keep k) k⟩
theorem OwC.at {B : Nat} {w : World} {c : Cls} {vi vf vm : Value} (h : OwC B w c vi vf vm) : ClsAt w c vi vf vm :=
  ⟨h.i.sl, h.f.sl, (h.m.imp fun _ _ x => x.rm).sl⟩

section
variable {α : Type} {k : Nat} {e : TypeId} {R : World → List Value → α → Prop} {B : Nat} {w : World} {xs : List α}
theorem Ow.spot {ao : Option Addr} {n c : Nat} (h : Ow k e R B w (.slice ao n c) xs) (hp : 0 < xs.length) :
    ∃ b off, ao = some ⟨b, off, none⟩ ∧ (∀ o, w.frozen? ⟨b, o, none⟩ = false) ∧ ∀ i a, xs[i]? = some a → ∃ cs, R w cs a ∧ ∀ j u, cs[j]? = some u → w.cell? ⟨b, off + i * k + j, none⟩ = some u := by
  obtain ⟨g, cs, h1, _, _, _, _, h5, _⟩ := h.at (List.getElem?_eq_getElem hp)
  refine ⟨g, 0, h1, h5, fun i a hi => ?_⟩
  obtain ⟨g', cs', e1, _, _, h4, h6, _⟩ := h.at hi
  rw [h1] at e1
  cases e1
  exact ⟨cs', h4, fun j u hj => by rw [Nat.zero_add]; exact h6 j u hj⟩
end
theorem lim_i {c : Cls} (h : clsT c ≤ 12000) : c.im.length ≤ 12000 ∧ c.fs.length ≤ 12000 ∧ c.me.length ≤ 12000 := by
  have h1 : ∀ {α : Type} (f : α → Nat) (l : List α), (∀ x, 1 ≤ f x) → l.length ≤ (l.map f).sum := fun f l hf => by
    induction l with
    | nil => simp
    | cons x l ih => simp; have := hf x; omega
  have a := h1 (fun s : ByteArray => 1 + s.size) c.im (fun x => by omega)
  have b := h1 (fun f : Fld => 1 + f.n.size + f.d.size) c.fs (fun x => by omega)
  have d := h1 mthT c.me (fun x => by unfold mthT; omega)
  unfold clsT at h
  omega
theorem lim_sum {α : Type} (f : α → Nat) : ∀ (l : List α) (x : α), x ∈ l → f x ≤ (l.map f).sum
  | y :: l, x, h => by
    rw [List.map_cons, List.sum_cons]
    rcases List.mem_cons.1 h with rfl | h
    · omega
    · have := lim_sum f l x h; omega
theorem lim_m {c : Cls} (h : clsT c ≤ 12000) {m : Mth} (hm : m ∈ c.me) : mthT m ≤ 12000 := by
  have := lim_sum mthT c.me m hm
  unfold clsT at h; omega
theorem lim_t {c : Cls} (h : clsT c ≤ 12000) : c.n.size ≤ 100000 ∧ c.s.size ≤ 100000 ∧ (∀ s ∈ c.im, s.size ≤ 100000) ∧ ∀ f ∈ c.fs, f.n.size ≤ 100000 ∧ f.d.size ≤ 100000 := by
  unfold clsT at h
  refine ⟨by omega, by omega, fun s hs => ?_, fun f hf => ?_⟩
  · have := lim_sum (fun s : ByteArray => 1 + s.size) c.im s hs; omega
  · have := lim_sum (fun f : Fld => 1 + f.n.size + f.d.size) c.fs f hf; omega
theorem lim_mm {m : Mth} (h : mthT m ≤ 12000) : m.n.size ≤ 100000 ∧ m.d.size ≤ 100000 ∧ m.code.length ≤ 12000 ∧ m.hs.length ≤ 12000 ∧ (∀ x ∈ m.code, x.c.size ≤ 100000 ∧ x.n.size ≤ 100000 ∧ x.d.size ≤ 100000) ∧ ∀ x ∈ m.hs, x.c.size ≤ 100000 := by
  unfold mthT at h
  refine ⟨by omega, by omega, by omega, by omega, fun x hx => ?_, fun x hx => ?_⟩
  · have := lim_sum insT m.code x hx
    have e : insT x = 1 + (x.c.size + x.n.size + x.d.size) := rfl
    omega
  · have := lim_sum (fun h : Hnd => h.c.size) m.hs x hx; omega
theorem Ow.plS {B : Nat} {w : World} {ao : Option Addr} {n c : Nat} {xs : List ByteArray} (h : Ow 1 9 RS B w (.slice ao n c) xs) (hp : 0 < xs.length) (hz : ∀ s ∈ xs, s.size ≤ 100000) :
    ∃ b off, ao = some ⟨b, off, none⟩ ∧ ∀ (i : Nat) s, xs[i]? = some s → Pl w b (off + i) s := by
  obtain ⟨b, off, h1, h2, h3⟩ := h.spot hp
  refine ⟨b, off, h1, fun i s hi => ?_⟩
  obtain ⟨cs, rfl, h4⟩ := h3 i s hi
  exact ⟨by simpa using h4 0 _ rfl, h2 _, hz s (List.mem_of_getElem? hi)⟩
theorem Ow.plF {B : Nat} {w : World} {ao : Option Addr} {n c : Nat} {xs : List Fld} (h : Ow 3 103 RF B w (.slice ao n c) xs) (hp : 0 < xs.length) (hz : ∀ f ∈ xs, f.n.size ≤ 100000 ∧ f.d.size ≤ 100000) :
    ∃ b off, ao = some ⟨b, off, none⟩ ∧ ∀ (i : Nat) f, xs[i]? = some f → Pl w b (off + i * 3) f.n ∧ Pl w b (off + i * 3 + 1) f.d := by
  obtain ⟨b, off, h1, h2, h3⟩ := h.spot hp
  refine ⟨b, off, h1, fun i s hi => ?_⟩
  obtain ⟨cs, rfl, h4⟩ := h3 i s hi
  have := hz s (List.mem_of_getElem? hi)
  exact ⟨⟨h4 0 _ rfl, h2 _, this.1⟩, ⟨h4 1 _ rfl, h2 _, this.2⟩⟩
theorem Ow.plI {B : Nat} {w : World} {ao : Option Addr} {n c : Nat} {xs : List Ins} (h : Ow 6 62 RI B w (.slice ao n c) xs) (hp : 0 < xs.length) (hz : ∀ x ∈ xs, x.c.size ≤ 100000 ∧ x.n.size ≤ 100000 ∧ x.d.size ≤ 100000) :
    ∃ b off, ao = some ⟨b, off, none⟩ ∧ ∀ (i : Nat) x, xs[i]? = some x → Pl w b (off + i * 6 + 3) x.c ∧ Pl w b (off + i * 6 + 4) x.n ∧ Pl w b (off + i * 6 + 5) x.d := by
  obtain ⟨b, off, h1, h2, h3⟩ := h.spot hp
  refine ⟨b, off, h1, fun i s hi => ?_⟩
  obtain ⟨cs, rfl, h4⟩ := h3 i s hi
  have := hz s (List.mem_of_getElem? hi)
  exact ⟨⟨h4 3 _ rfl, h2 _, this.1⟩, ⟨h4 4 _ rfl, h2 _, this.2.1⟩, ⟨h4 5 _ rfl, h2 _, this.2.2⟩⟩
theorem Ow.plH {B : Nat} {w : World} {ao : Option Addr} {n c : Nat} {xs : List Hnd} (h : Ow 4 124 RH B w (.slice ao n c) xs) (hp : 0 < xs.length) (hz : ∀ x ∈ xs, x.c.size ≤ 100000) :
    ∃ b off, ao = some ⟨b, off, none⟩ ∧ ∀ (i : Nat) x, xs[i]? = some x → Pl w b (off + i * 4 + 3) x.c := by
  obtain ⟨b, off, h1, h2, h3⟩ := h.spot hp
  refine ⟨b, off, h1, fun i s hi => ?_⟩
  obtain ⟨cs, rfl, h4⟩ := h3 i s hi
  exact ⟨h4 3 _ rfl, h2 _, hz s (List.mem_of_getElem? hi)⟩
theorem Ow.plM {B : Nat} {w : World} {ao : Option Addr} {n c : Nat} {xs : List Mth} (h : Ow 8 66 (RMo B) B w (.slice ao n c) xs) (hp : 0 < xs.length) (hz : ∀ m ∈ xs, mthT m ≤ 12000) :
    ∃ b off, ao = some ⟨b, off, none⟩ ∧ ∀ (i : Nat) m, xs[i]? = some m → Pl w b (off + i * 8) m.n ∧ Pl w b (off + i * 8 + 1) m.d ∧
      ∃ vc vh, w.cell? ⟨b, off + i * 8 + 6, none⟩ = some vc ∧ w.cell? ⟨b, off + i * 8 + 7, none⟩ = some vh ∧ Ow 6 62 RI B w vc m.code ∧ Ow 4 124 RH B w vh m.hs := by
  obtain ⟨b, off, h1, h2, h3⟩ := h.spot hp
  refine ⟨b, off, h1, fun i s hi => ?_⟩
  obtain ⟨cs, ⟨vc, vh, rfl, g1, g2⟩, h4⟩ := h3 i s hi
  have := lim_mm (hz s (List.mem_of_getElem? hi))
  exact ⟨⟨h4 0 _ rfl, h2 _, this.1⟩, ⟨h4 1 _ rfl, h2 _, this.2.1⟩, vc, vh, h4 6 _ rfl, h4 7 _ rfl, g1, g2⟩

set_option maxHeartbeats 16000000 in
set_option maxRecDepth 100000 in
theorem ownTexts_any (B g : Nat) (c : Cls) (vi vf vm : Value) (w : World) (hg : w.heap[g]? = some (.cells (clsC c vi vf vm) 41)) (ho : OwC B w c vi vf vm) (hT : clsT c ≤ 12000) :
    Calls Tryz.prog 150 #[.pointer (some ⟨g, 0, none⟩)] w fun e w' => e = .returned (.tuple #[]) ∧ Ch w w' := by
  obtain ⟨l1, l2, l3⟩ := lim_i hT
  obtain ⟨t1, t2, t3, t4⟩ := lim_t hT
  have HM : Hid (∀ m ∈ c.me, mthT m ≤ 12000) := fun m hm => lim_m hT hm
  obtain ⟨ai, ci, rfl⟩ := ho.i.form
  obtain ⟨af, cf, rfl⟩ := ho.f.form
  obtain ⟨am, cm, rfl⟩ := ho.m.form
  have HB : Hid (∀ w', Ch w w' → w'.cell? ⟨g, 4, none⟩ = some (.slice ai c.im.length ci) ∧ w'.cell? ⟨g, 5, none⟩ = some (.slice af c.fs.length cf) ∧ w'.cell? ⟨g, 6, none⟩ = some (.slice am c.me.length cm)) := fun w' k => by
    obtain ⟨_, _, _, _, h4, h5, h6⟩ := clsC_at (kept_at k hg)
    exact ⟨h4, h5, h6⟩
  have P0 : Hid (Pl w g 0 c.n) := ⟨(clsC_at hg).1, by simp [World.frozen?, hg], t1⟩
  have P1 : Hid (Pl w g 1 c.s) := ⟨(clsC_at hg).2.1, by simp [World.frozen?, hg], t2⟩
  have HI : Hid (Ow 1 9 RS B w (.slice ai c.im.length ci) c.im ∧ ∀ s ∈ c.im, s.size ≤ 100000) := ⟨ho.i, t3⟩
  have HF : Hid (Ow 3 103 RF B w (.slice af c.fs.length cf) c.fs ∧ ∀ f ∈ c.fs, f.n.size ≤ 100000 ∧ f.d.size ≤ 100000) := ⟨ho.f, t4⟩
  have HMe : Hid (Ow 8 66 (RMo B) B w (.slice am c.me.length cm) c.me) := ho.m
  clear hg ho hT t1 t2 t3 t4
  generalize hni : c.im.length = ni at *
  generalize hnf : c.fs.length = nf at *
  generalize hnm : c.me.length = nm at *
  go_enter Tryz.func150, Tryz.ntmps150
  go_wp2_with fail
  go_region_held (fun _ : World => True) (trivial) (first
    | (go_at_call 214; (with_reducible refine (own2 _ _ _ _ _ _ _ w _ (by repeat (first | exact Ch.refl _ | refine Ch.drew ?_ | refine Ch.alloc ?_ _ | refine Ch.trans ?_ (by assumption))) (by first | exact alloc_at _ _ _ (by simp) | exact alloc_at' _ _ _ (by simp)) P0.out P1.out).mono ?_); rintro e w3 ⟨rfl, hc3⟩)
    | fail)
  have hcA : Ch w w3 := (by repeat (first | exact Ch.refl _ | refine Ch.drew ?_ | refine Ch.alloc ?_ _ | refine Ch.trans ?_ (by assumption)))
  clear hc3
  obtain ⟨z4, z5, z6⟩ := HB.out _ hcA
  go_wp2_with fail
  go_loopw [21] (fun i wr => ∃ k : Nat, k ≤ ni ∧ i = .int .i64 k ∧ Ch w wr) (fun i _ => ni - (intOf i).toNat)
  case atStart => exact ⟨0, Nat.zero_le _, rfl, hcA⟩
  case round =>
    clear hcA z4 z5 z6
    obtain ⟨k, hk, rfl, hcr⟩ := hrel
    obtain ⟨z4, z5, z6⟩ := HB.out _ hcr
    by_cases hlt : k < ni
    · obtain ⟨s, hs⟩ : ∃ x, c.im[k]? = some x := ⟨_, List.getElem?_eq_getElem (by rw [hni]; exact hlt)⟩
      obtain ⟨b, off, rfl, hpl⟩ := HI.out.1.plS (by rw [hni]; omega) HI.out.2
      have Q1 : Hid (Pl w b (off + k) s) := hpl k s hs
      clear hpl hs
      go_wp2_with (first
        | (go_at_call 214; (with_reducible refine (own1 _ _ _ _ w _ (hcr.alloc _) (by first | exact alloc_at _ _ _ (by simp) | exact alloc_at' _ _ _ (by simp)) Q1.out).mono ?_); rintro e w4 ⟨rfl, hc4⟩)
        | fail)
      go_roundw
      case rel => exact ⟨k + 1, by omega, by go_num, (hcr.alloc _).trans hc4⟩
      case measure => simp [intOf]; omega
    · obtain rfl : k = ni := by omega
      clear hlt hk
      go_wp2_with fail
      go_loopw [38] (fun i wr => ∃ k : Nat, k ≤ nf ∧ i = .int .i64 k ∧ Ch w wr) (fun i _ => nf - (intOf i).toNat)
      case atStart => exact ⟨0, Nat.zero_le _, rfl, hcr⟩
      case round =>
        clear hcr z4 z5 z6
        obtain ⟨k2, hk, rfl, hcr⟩ := hrel
        obtain ⟨z4, z5, z6⟩ := HB.out _ hcr
        by_cases hlt : k2 < nf
        · obtain ⟨s, hs⟩ : ∃ x, c.fs[k2]? = some x := ⟨_, List.getElem?_eq_getElem (by rw [hnf]; exact hlt)⟩
          obtain ⟨b, off, rfl, hpl⟩ := HF.out.1.plF (by rw [hnf]; omega) HF.out.2
          have Q1 : Hid (Pl w b (off + k2 * 3) s.n ∧ Pl w b (off + k2 * 3 + 1) s.d) := hpl k2 s hs
          clear hpl hs
          have HC : Hid (Ch w wr) := hcr
          clear hcr
          go_wp2_with fail
          go_region_held (fun w' => w'.cell? ⟨g, 5, none⟩ = some (.slice (some ⟨b, off, none⟩) nf cf)) ((refine (HB.out _ ?_).2.1; refine Ch.trans HC.out ?_; repeat (first | exact Ch.refl _ | refine Ch.drew ?_ | refine Ch.alloc ?_ _ | refine Ch.trans ?_ (by assumption)))) (first
            | (go_at_call 214; (with_reducible refine (own2 _ _ _ _ _ _ _ w _ (HC.out.trans (by repeat (first | exact Ch.refl _ | refine Ch.drew ?_ | refine Ch.alloc ?_ _ | refine Ch.trans ?_ (by assumption)))) (by first | exact alloc_at _ _ _ (by simp) | exact alloc_at' _ _ _ (by simp)) Q1.out.1 Q1.out.2).mono ?_); rintro e w4 ⟨rfl, hc4⟩)
            | fail)
          have hcB : Ch wr w4 := (by repeat (first | exact Ch.refl _ | refine Ch.drew ?_ | refine Ch.alloc ?_ _ | refine Ch.trans ?_ (by assumption)))
          go_wp2_with fail
          go_roundw
          case rel => exact ⟨k2 + 1, by omega, by go_num, HC.out.trans hcB⟩
          case measure => simp [intOf]; omega
        · obtain rfl : k2 = nf := by omega
          clear hlt hk
          go_wp2_with fail
          go_loopw [63] (fun i wr => ∃ k : Nat, k ≤ nm ∧ i = .int .i64 k ∧ Ch w wr) (fun i _ => nm - (intOf i).toNat)
          case atStart => exact ⟨0, Nat.zero_le _, rfl, hcr⟩
          case round =>
            clear hcr z4 z5 z6
            obtain ⟨k3, hk, rfl, hcr⟩ := hrel
            obtain ⟨z4, z5, z6⟩ := HB.out _ hcr
            by_cases hlt : k3 < nm
            · obtain ⟨m, hm⟩ : ∃ x, c.me[k3]? = some x := ⟨_, List.getElem?_eq_getElem (by rw [hnm]; exact hlt)⟩
              obtain ⟨b, off, rfl, hpl⟩ := HMe.out.plM (by rw [hnm]; omega) HM.out
              have Q0 := hpl k3 m hm
              obtain ⟨q1, q2, vc, vh, q3, q4, q5, q6⟩ := Q0
              have hmm := lim_mm (HM.out m (List.mem_of_getElem? hm))
              obtain ⟨_, _, n1, n2, n3, n4⟩ := hmm
              obtain ⟨ac, cc, rfl⟩ := q5.form
              obtain ⟨ah, chh, rfl⟩ := q6.form
              have Q1 : Hid (Pl w b (off + k3 * 8) m.n ∧ Pl w b (off + k3 * 8 + 1) m.d) := ⟨q1, q2⟩
              have Q2 : Hid (∀ w', Ch w w' → w'.cell? ⟨b, off + k3 * 8 + 6, none⟩ = some (.slice ac m.code.length cc) ∧ w'.cell? ⟨b, off + k3 * 8 + 7, none⟩ = some (.slice ah m.hs.length chh)) := fun w' k => ⟨cell_keep k q3, cell_keep k q4⟩
              have Q5 : Hid (Ow 6 62 RI B w (.slice ac m.code.length cc) m.code ∧ ∀ x ∈ m.code, x.c.size ≤ 100000 ∧ x.n.size ≤ 100000 ∧ x.d.size ≤ 100000) := ⟨q5, n3⟩
              have Q6 : Hid (Ow 4 124 RH B w (.slice ah m.hs.length chh) m.hs ∧ ∀ x ∈ m.hs, x.c.size ≤ 100000) := ⟨q6, n4⟩
              clear hpl hm q1 q2 q3 q4 q5 q6 n3 n4
              generalize hnc : m.code.length = nc at *
              generalize hnh : m.hs.length = nh at *
              have HC : Hid (Ch w wr) := hcr
              clear hcr
              go_wp2_with fail
              go_region_held (fun _ : World => True) (trivial) (first
                | (go_at_call 214; (with_reducible refine (own2 _ _ _ _ _ _ _ w _ (HC.out.trans (by repeat (first | exact Ch.refl _ | refine Ch.drew ?_ | refine Ch.alloc ?_ _ | refine Ch.trans ?_ (by assumption)))) (by first | exact alloc_at _ _ _ (by simp) | exact alloc_at' _ _ _ (by simp)) Q1.out.1 Q1.out.2).mono ?_); rintro e w4 ⟨rfl, hc4⟩)
                | fail)
              have hcB : Ch w w4 := HC.out.trans (by repeat (first | exact Ch.refl _ | refine Ch.drew ?_ | refine Ch.alloc ?_ _ | refine Ch.trans ?_ (by assumption)))
              clear hc4 HC z4 z5 z6
              obtain ⟨y6, y7⟩ := Q2.out _ hcB
              go_wp2_with fail
              go_loopw [85] (fun i wr => ∃ k : Nat, k ≤ nc ∧ i = .int .i64 k ∧ Ch w wr) (fun i _ => nc - (intOf i).toNat)
              case atStart => exact ⟨0, Nat.zero_le _, rfl, hcB⟩
              case round =>
                clear hcB y6 y7
                obtain ⟨k4, hk4, rfl, hcr⟩ := hrel
                obtain ⟨y6, y7⟩ := Q2.out _ hcr
                by_cases hlt4 : k4 < nc
                · obtain ⟨x, hx⟩ : ∃ x, m.code[k4]? = some x := ⟨_, List.getElem?_eq_getElem (by rw [hnc]; exact hlt4)⟩
                  obtain ⟨b2, off2, rfl, hpl⟩ := Q5.out.1.plI (by rw [hnc]; omega) Q5.out.2
                  have Q7 : Hid (Pl w b2 (off2 + k4 * 6 + 3) x.c ∧ Pl w b2 (off2 + k4 * 6 + 4) x.n ∧ Pl w b2 (off2 + k4 * 6 + 5) x.d) := hpl k4 x hx
                  clear hpl hx
                  have HC : Hid (Ch w wr) := hcr
                  clear hcr
                  go_wp2_with fail
                  go_region_held (fun w' => w'.cell? ⟨b, off + k3 * 8 + 6, none⟩ = some (.slice (some ⟨b2, off2, none⟩) nc cc)) ((refine (Q2.out _ ?_).1; refine Ch.trans HC.out ?_; repeat (first | exact Ch.refl _ | refine Ch.drew ?_ | refine Ch.alloc ?_ _ | refine Ch.trans ?_ (by assumption)))) (first
                    | (go_at_call 214; (with_reducible refine (own3 _ _ _ _ _ _ _ _ _ _ w _ (HC.out.trans (by repeat (first | exact Ch.refl _ | refine Ch.drew ?_ | refine Ch.alloc ?_ _ | refine Ch.trans ?_ (by assumption)))) (by first | exact alloc_at _ _ _ (by simp) | exact alloc_at' _ _ _ (by simp)) Q7.out.1 Q7.out.2.1 Q7.out.2.2).mono ?_); rintro e w5 ⟨rfl, hc5⟩)
                    | fail)
                  have hcC : Ch w w5 := HC.out.trans (by repeat (first | exact Ch.refl _ | refine Ch.drew ?_ | refine Ch.alloc ?_ _ | refine Ch.trans ?_ (by assumption)))
                  go_wp2_with fail
                  go_roundw
                  case rel => exact ⟨k4 + 1, by omega, by go_num, hcC⟩
                  case measure => simp [intOf]; omega
                · obtain rfl : k4 = nc := by omega
                  clear hlt4 hk4
                  go_wp2_with fail
                  go_loopw [117] (fun i wr => ∃ k : Nat, k ≤ nh ∧ i = .int .i64 k ∧ Ch w wr) (fun i _ => nh - (intOf i).toNat)
                  case atStart => exact ⟨0, Nat.zero_le _, rfl, hcr⟩
                  case round =>
                    clear hcr y6 y7
                    obtain ⟨k5, hk5, rfl, hcr⟩ := hrel
                    obtain ⟨y6, y7⟩ := Q2.out _ hcr
                    by_cases hlt5 : k5 < nh
                    · obtain ⟨x, hx⟩ : ∃ x, m.hs[k5]? = some x := ⟨_, List.getElem?_eq_getElem (by rw [hnh]; exact hlt5)⟩
                      obtain ⟨b2, off2, rfl, hpl⟩ := Q6.out.1.plH (by rw [hnh]; omega) Q6.out.2
                      have Q7 : Hid (Pl w b2 (off2 + k5 * 4 + 3) x.c) := hpl k5 x hx
                      clear hpl hx
                      go_wp2_with (first
                        | (go_at_call 214; (with_reducible refine (own1 _ _ _ _ w _ (hcr.alloc _) (by first | exact alloc_at _ _ _ (by simp) | exact alloc_at' _ _ _ (by simp)) Q7.out).mono ?_); rintro e w6 ⟨rfl, hc6⟩)
                        | fail)
                      go_roundw
                      case rel => exact ⟨k5 + 1, by omega, by go_num, (hcr.alloc _).trans hc6⟩
                      case measure => simp [intOf]; omega
                    · obtain rfl : k5 = nh := by omega
                      clear hlt5 hk5
                      go_wp2_with fail
                      go_roundw
                      case rel => exact ⟨k3 + 1, by omega, by go_num, hcr⟩
                      case measure => simp [intOf]; omega
            · obtain rfl : k3 = nm := by omega
              go_wp2_with fail
              go_end0
              exact ⟨rfl, hcr⟩
end Go.Proofs.YthmepecmeambmaaGreat
