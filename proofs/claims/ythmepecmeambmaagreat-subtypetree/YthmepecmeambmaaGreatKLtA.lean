/- SubtypeTree: a row of classes, each above the next, and what is asked of it, by evaluation. -/
import Derived.Test.YthmepecmeambmaaGreatKLsF
namespace Go.Proofs.YthmepecmeambmaaGreat
open Go.RowKit
set_option linter.unusedVariables false

def nmT (i : Nat) : ByteArray := (⟨#[75]⟩ : ByteArray) ++ (⟨#[(97 + i).toUInt8]⟩ : ByteArray)
def supT : Nat → ByteArray
  | 0 => nObject
  | i + 1 => nmT i
def cT (i : Nat) : Cls := ⟨nmT i, supT i, false, false, [], [], []⟩
def tree (n : Nat) : List Cls := (List.range n).map cT
def tyT : Nat → Nat → ByteArray
  | 0, i => (⟨#[76]⟩ : ByteArray) ++ nmT i ++ (⟨#[59]⟩ : ByteArray)
  | d + 1, i => (⟨#[91]⟩ : ByteArray) ++ tyT d i
theorem tree_len (n : Nat) : (tree n).length = n := by simp [tree]
theorem tree_succ (n : Nat) : tree (n + 1) = tree n ++ [cT n] := by simp [tree, List.range_succ]
theorem nmT_size (i : Nat) : (nmT i).size = 2 := by unfold nmT; rw [ByteArray.size_append]; rfl
theorem tyT_size (d i : Nat) : (tyT d i).size = d + 4 := by
  induction d with
  | zero => unfold tyT; rw [ByteArray.size_append, ByteArray.size_append, nmT_size]; rfl
  | succ d ih => unfold tyT; rw [ByteArray.size_append, ih]; have e : (⟨#[91]⟩ : ByteArray).size = 1 := rfl; omega
def oneT (P : List Cls) (a b d : Nat) : Bool :=
  (typeB P (tyT d a) (tyT d b) == decide (b ≤ a)) && (typeB P (tyT d b) (tyT d a) == decide (a ≤ b)) && nq (mergeB P (tyT d a) (tyT d b)) (tyT d (min a b))
def twoT (P : List Cls) (a b : Nat) : Bool := nq (comB P (nmT a) (nmT b)) (nmT (min a b)) && subC P (nmT a) nObject
def chkT (P : List Cls) (n : Nat) : Bool :=
  (P.all fun c => c.im.isEmpty && decide (c.n.size ≤ 90000)) &&
  (List.range n).all fun a => (List.range n).all fun b => twoT P a b && (List.range 4).all fun d => oneT P a b d
theorem tree_link : ((List.range 16).all fun n => (link (tree n)).1.isSome) = true := by decide +kernel
theorem tree_chk : ((List.range 16).all fun n => chkT (prog (tree n)) n) = true := by decide +kernel
theorem nmT_at : ((List.range 15).all fun n => (nmT n).toList == [75, (97 + n).toUInt8]) = true := by decide +kernel
end Go.Proofs.YthmepecmeambmaaGreat
