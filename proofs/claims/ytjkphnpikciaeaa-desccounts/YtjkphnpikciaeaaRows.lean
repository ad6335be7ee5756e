/-
  No cell of these rows narrows 'for every input' (looked for: loops, veiled, ifaces, maps, wideKeys, modest, calm, conditions, laid).
  DERIVED. THE GIVEN ROWS OF THIS SEAT. 5 by the template 'for every input the law returns true; each argument reads behind the call as it read before'; 0 by the template 'total and deterministic' (their statements: YtjkphnpikciaeaaTotals.lean).
  GIVEN WITH THE SEED: the statements are not yours to turn. If you find one false, say at which input.
  Laid BY PROGRAM, IN A SANDBOX (cutbox-rows.mjs): the forced cells as the released guide's own fill.sh prints them over the translation d85a7ac8e82e6f3b… (all of the seat's roots in one cut). By AI agents, Wed Nov 11 2026. No macro, syntax, notation, axiom, sorry.
-/
import Derived.Test.YtjkphnpikciaeaaChecked
import GoSem.Claim
import GoSem.ClaimJoined
import GoSem.ClaimMapViews
import Derived.JoinedTies
import Derived.KernelRfl
namespace Go.Proofs.Ytjkphnpikciaeaa
/- THE CELL 'sum', in the pinned program and in every row, IS THE sha256 OF THE DUMP (.gsa) THAT YtjkphnpikciaeaaProg.lean LOADS. Nothing in Lean hashes anything: it is a label: what it is worth is what the hold of that sum in a sandbox is worth. -/
noncomputable def Try.pinned : Pinned := { name := "ytjkphnpikciaeaa", sum := "d85a7ac8e82e6f3b75b704d3309a4fd42c388a26afe637fd58727b865c21ec4e", checked := Try.checked }
namespace Rows
def none {H : Type} : Left H := { results := [], args := [] }

/-- 'lanternlaw2.DescAsks': WHATEVER THE INPUT: true; the input reads as it did. -/
def descAsksSpec : ChangeSpec := { name := "descAsks", fn := fun _ => fun
  | [d] => { results := [.lit (.bool true)], args := [d] }
  | _ => none }
def descAsksRow : OpenClaim := { program := "ytjkphnpikciaeaa", sum := "d85a7ac8e82e6f3b75b704d3309a4fd42c388a26afe637fd58727b865c21ec4e", func := "lantern/lanternlaw2.DescAsks", spec := "descAsks", apart := false }
def DescAsksSaid : Prop := descAsksRow.holds Try.pinned (OpenSpec.ofChange descAsksSpec)

/-- ITS FALSE NEIGHBOUR: 'it returns false'. Refute it at one input. -/
def descAsksWrong : ChangeSpec := { name := "descAsks", fn := fun _ => fun
  | [d] => { results := [.lit (.bool false)], args := [d] }
  | _ => none }
def DescAsksWrongFalsely : Prop := descAsksRow.holds Try.pinned (OpenSpec.ofChange descAsksWrong)

/-- 'lanternlaw2.DescMethods': WHATEVER THE INPUT: true; the input reads as it did. -/
def descMethodsSpec : ChangeSpec := { name := "descMethods", fn := fun _ => fun
  | [d] => { results := [.lit (.bool true)], args := [d] }
  | _ => none }
def descMethodsRow : OpenClaim := { program := "ytjkphnpikciaeaa", sum := "d85a7ac8e82e6f3b75b704d3309a4fd42c388a26afe637fd58727b865c21ec4e", func := "lantern/lanternlaw2.DescMethods", spec := "descMethods", apart := false }
def DescMethodsSaid : Prop := descMethodsRow.holds Try.pinned (OpenSpec.ofChange descMethodsSpec)

/-- ITS FALSE NEIGHBOUR: 'it returns false'. Refute it at one input. -/
def descMethodsWrong : ChangeSpec := { name := "descMethods", fn := fun _ => fun
  | [d] => { results := [.lit (.bool false)], args := [d] }
  | _ => none }
def DescMethodsWrongFalsely : Prop := descMethodsRow.holds Try.pinned (OpenSpec.ofChange descMethodsWrong)

/-- 'lanternlaw2.DescKeys': WHATEVER THE INPUT: true; the input reads as it did. -/
def descKeysSpec : ChangeSpec := { name := "descKeys", fn := fun _ => fun
  | [d1, d2, d3, d4] => { results := [.lit (.bool true)], args := [d1, d2, d3, d4] }
  | _ => none }
def descKeysRow : OpenClaim := { program := "ytjkphnpikciaeaa", sum := "d85a7ac8e82e6f3b75b704d3309a4fd42c388a26afe637fd58727b865c21ec4e", func := "lantern/lanternlaw2.DescKeys", spec := "descKeys", inPlace := ["internal/bytealg.IndexByteString", "internal/bytealg.IndexString"], named := ["internal/bytealg.MaxLen"], apart := false }
def DescKeysSaid : Prop := descKeysRow.holds Try.pinned (OpenSpec.ofChange descKeysSpec)

/-- ITS FALSE NEIGHBOUR: 'it returns false'. Refute it at one input. -/
def descKeysWrong : ChangeSpec := { name := "descKeys", fn := fun _ => fun
  | [d1, d2, d3, d4] => { results := [.lit (.bool false)], args := [d1, d2, d3, d4] }
  | _ => none }
def DescKeysWrongFalsely : Prop := descKeysRow.holds Try.pinned (OpenSpec.ofChange descKeysWrong)

/-- 'lanternlaw2.DescArrays': WHATEVER THE INPUT: true; the input reads as it did. -/
def descArraysSpec : ChangeSpec := { name := "descArrays", fn := fun _ => fun
  | [d1, d2] => { results := [.lit (.bool true)], args := [d1, d2] }
  | _ => none }
def descArraysRow : OpenClaim := { program := "ytjkphnpikciaeaa", sum := "d85a7ac8e82e6f3b75b704d3309a4fd42c388a26afe637fd58727b865c21ec4e", func := "lantern/lanternlaw2.DescArrays", spec := "descArrays", apart := false }
def DescArraysSaid : Prop := descArraysRow.holds Try.pinned (OpenSpec.ofChange descArraysSpec)

/-- ITS FALSE NEIGHBOUR: 'it returns false'. Refute it at one input. -/
def descArraysWrong : ChangeSpec := { name := "descArrays", fn := fun _ => fun
  | [d1, d2] => { results := [.lit (.bool false)], args := [d1, d2] }
  | _ => none }
def DescArraysWrongFalsely : Prop := descArraysRow.holds Try.pinned (OpenSpec.ofChange descArraysWrong)

/-- 'lanternlaw2.DescCounts': WHATEVER THE INPUT: true; the input reads as it did. -/
def descCountsSpec : ChangeSpec := { name := "descCounts", fn := fun _ => fun
  | [d1, d2] => { results := [.lit (.bool true)], args := [d1, d2] }
  | _ => none }
def descCountsRow : OpenClaim := { program := "ytjkphnpikciaeaa", sum := "d85a7ac8e82e6f3b75b704d3309a4fd42c388a26afe637fd58727b865c21ec4e", func := "lantern/lanternlaw2.DescCounts", spec := "descCounts", apart := false }
def DescCountsSaid : Prop := descCountsRow.holds Try.pinned (OpenSpec.ofChange descCountsSpec)

/-- ITS FALSE NEIGHBOUR: 'it returns false'. Refute it at one input. -/
def descCountsWrong : ChangeSpec := { name := "descCounts", fn := fun _ => fun
  | [d1, d2] => { results := [.lit (.bool false)], args := [d1, d2] }
  | _ => none }
def DescCountsWrongFalsely : Prop := descCountsRow.holds Try.pinned (OpenSpec.ofChange descCountsWrong)

/- THE SECOND FORM. 'bulk': how many values and letters a reading holds, each counted each time it is reached (what is shared counts as often as it is met; a slice's spare places count too). A statement '..UptoSaid' is the law's where the arguments, and the package variables that the reading takes, are together of bulk at most 1048576: NARROWER than '..Said'. Prove '..Said' where nothing that the law and all that it calls make is longer than what came in: it says more and counts as full. Else prove '..UptoSaid'. A law counts once. -/
mutual
def uptoBulk {H : Type} : DataW H → Nat
  | .lit (.string bytes) => bytes.length + 1
  | .lit _ => 1
  | .nil => 1
  | .ptr d => uptoBulk d + 1
  | .slice elems spare => uptoBulkAll elems + uptoBulkAll spare + 1
  | .agg parts => uptoBulkAll parts + 1
  | .iface _ d => uptoBulk d + 1
  | .map entries => uptoBulkEntries entries + 1
  | .held _ => 1
def uptoBulkAll {H : Type} : List (DataW H) → Nat
  | [] => 0
  | d :: r => uptoBulk d + uptoBulkAll r
def uptoBulkEntries {H : Type} : List (Lit × DataW H) → Nat
  | [] => 0
  | x :: r => uptoBulkEntry x + uptoBulkEntries r
def uptoBulkEntry {H : Type} : Lit × DataW H → Nat
  | (.string bytes, d) => bytes.length + uptoBulk d + 1
  | (_, d) => uptoBulk d + 1
 end
def uptoSmall : (H : Type) → List (DataW H) → Bool := fun _ ds => decide (uptoBulkAll ds ≤ 1048576)
def OpenSpec.upto (s : _root_.Go.ChangeSpec) : _root_.Go.OpenSpec := { _root_.Go.OpenSpec.ofChange s with cond := some uptoSmall }

/-- 'lanternlaw2.DescAsks', WHERE WHAT IT READS IS OF BULK AT MOST 1048576: true; the input reads as it did. -/
def descAsksUptoRow : OpenClaim := { program := "ytjkphnpikciaeaa", sum := "d85a7ac8e82e6f3b75b704d3309a4fd42c388a26afe637fd58727b865c21ec4e", func := "lantern/lanternlaw2.DescAsks", spec := "descAsks", apart := false, narrowed := true }
def DescAsksUptoSaid : Prop := descAsksUptoRow.holds Try.pinned (OpenSpec.upto descAsksSpec)

/-- 'lanternlaw2.DescMethods', WHERE WHAT IT READS IS OF BULK AT MOST 1048576: true; the input reads as it did. -/
def descMethodsUptoRow : OpenClaim := { program := "ytjkphnpikciaeaa", sum := "d85a7ac8e82e6f3b75b704d3309a4fd42c388a26afe637fd58727b865c21ec4e", func := "lantern/lanternlaw2.DescMethods", spec := "descMethods", apart := false, narrowed := true }
def DescMethodsUptoSaid : Prop := descMethodsUptoRow.holds Try.pinned (OpenSpec.upto descMethodsSpec)

/-- 'lanternlaw2.DescKeys', WHERE WHAT IT READS IS OF BULK AT MOST 1048576: true; the input reads as it did. -/
def descKeysUptoRow : OpenClaim := { program := "ytjkphnpikciaeaa", sum := "d85a7ac8e82e6f3b75b704d3309a4fd42c388a26afe637fd58727b865c21ec4e", func := "lantern/lanternlaw2.DescKeys", spec := "descKeys", inPlace := ["internal/bytealg.IndexByteString", "internal/bytealg.IndexString"], named := ["internal/bytealg.MaxLen"], apart := false, narrowed := true }
def DescKeysUptoSaid : Prop := descKeysUptoRow.holds Try.pinned (OpenSpec.upto descKeysSpec)

/-- 'lanternlaw2.DescArrays', WHERE WHAT IT READS IS OF BULK AT MOST 1048576: true; the input reads as it did. -/
def descArraysUptoRow : OpenClaim := { program := "ytjkphnpikciaeaa", sum := "d85a7ac8e82e6f3b75b704d3309a4fd42c388a26afe637fd58727b865c21ec4e", func := "lantern/lanternlaw2.DescArrays", spec := "descArrays", apart := false, narrowed := true }
def DescArraysUptoSaid : Prop := descArraysUptoRow.holds Try.pinned (OpenSpec.upto descArraysSpec)

/-- 'lanternlaw2.DescCounts', WHERE WHAT IT READS IS OF BULK AT MOST 1048576: true; the input reads as it did. -/
def descCountsUptoRow : OpenClaim := { program := "ytjkphnpikciaeaa", sum := "d85a7ac8e82e6f3b75b704d3309a4fd42c388a26afe637fd58727b865c21ec4e", func := "lantern/lanternlaw2.DescCounts", spec := "descCounts", apart := false, narrowed := true }
def DescCountsUptoSaid : Prop := descCountsUptoRow.holds Try.pinned (OpenSpec.upto descCountsSpec)

end Rows
end Go.Proofs.Ytjkphnpikciaeaa
