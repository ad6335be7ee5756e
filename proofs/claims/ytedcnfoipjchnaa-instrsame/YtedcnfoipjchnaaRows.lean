/-
  No cell of these rows narrows 'for every input' (looked for: loops, veiled, ifaces, maps, wideKeys, modest, calm, conditions, laid).
  DERIVED. THE GIVEN ROWS OF THIS SEAT. 4 by the template 'for every input the law returns true; each argument reads behind the call as it read before'; 0 by the template 'total and deterministic' (their statements: YtedcnfoipjchnaaTotals.lean).
  GIVEN WITH THE SEED: the statements are not yours to turn. If you find one false, say at which input.
  Laid BY PROGRAM, IN A SANDBOX (cutbox-rows.mjs): the forced cells as the released guide's own fill.sh prints them over the translation cf9006f45db0f3d9… (all of the seat's roots in one cut). By AI agents, Wed Nov 11 2026. No macro, syntax, notation, axiom, sorry.
-/
import Derived.Test.YtedcnfoipjchnaaChecked
import GoSem.Claim
import GoSem.ClaimJoined
import GoSem.ClaimMapViews
import Derived.JoinedTies
import Derived.KernelRfl
namespace Go.Proofs.Ytedcnfoipjchnaa
/- THE CELL 'sum', in the pinned program and in every row, IS THE sha256 OF THE DUMP (.gsa) THAT YtedcnfoipjchnaaProg.lean LOADS. Nothing in Lean hashes anything: it is a label: what it is worth is what the hold of that sum in a sandbox is worth. -/
noncomputable def Try.pinned : Pinned := { name := "ytedcnfoipjchnaa", sum := "cf9006f45db0f3d9f7f68cac5e245fe6ca177c0170ee85cd4578d1b7ba8c6807", checked := Try.checked }
namespace Rows
def none {H : Type} : Left H := { results := [], args := [] }

/-- 'lanternlaw4.InstrSame': WHATEVER THE INPUT: true; the input reads as it did. -/
def instrSameSpec : ChangeSpec := { name := "instrSame", fn := fun _ => fun
  | [d1, d2] => { results := [.lit (.bool true)], args := [d1, d2] }
  | _ => none }
def instrSameRow : OpenClaim := { program := "ytedcnfoipjchnaa", sum := "cf9006f45db0f3d9f7f68cac5e245fe6ca177c0170ee85cd4578d1b7ba8c6807", func := "lantern/lanternlaw4.InstrSame", spec := "instrSame", apart := false }
def InstrSameSaid : Prop := instrSameRow.holds Try.pinned (OpenSpec.ofChange instrSameSpec)

/-- ITS FALSE NEIGHBOUR: 'it returns false'. Refute it at one input. -/
def instrSameWrong : ChangeSpec := { name := "instrSame", fn := fun _ => fun
  | [d1, d2] => { results := [.lit (.bool false)], args := [d1, d2] }
  | _ => none }
def InstrSameWrongFalsely : Prop := instrSameRow.holds Try.pinned (OpenSpec.ofChange instrSameWrong)

/-- 'lanternlaw4.InstrWords': WHATEVER THE INPUT: true; the input reads as it did. -/
def instrWordsSpec : ChangeSpec := { name := "instrWords", fn := fun _ => fun
  | [d1, d2] => { results := [.lit (.bool true)], args := [d1, d2] }
  | _ => none }
def instrWordsRow : OpenClaim := { program := "ytedcnfoipjchnaa", sum := "cf9006f45db0f3d9f7f68cac5e245fe6ca177c0170ee85cd4578d1b7ba8c6807", func := "lantern/lanternlaw4.InstrWords", spec := "instrWords", apart := false }
def InstrWordsSaid : Prop := instrWordsRow.holds Try.pinned (OpenSpec.ofChange instrWordsSpec)

/-- ITS FALSE NEIGHBOUR: 'it returns false'. Refute it at one input. -/
def instrWordsWrong : ChangeSpec := { name := "instrWords", fn := fun _ => fun
  | [d1, d2] => { results := [.lit (.bool false)], args := [d1, d2] }
  | _ => none }
def InstrWordsWrongFalsely : Prop := instrWordsRow.holds Try.pinned (OpenSpec.ofChange instrWordsWrong)

/-- 'lanternlaw4.InstrLimits': WHATEVER THE INPUT: true; the input reads as it did. -/
def instrLimitsSpec : ChangeSpec := { name := "instrLimits", fn := fun _ => fun
  | [d1, d2, d3, d4] => { results := [.lit (.bool true)], args := [d1, d2, d3, d4] }
  | _ => none }
def instrLimitsRow : OpenClaim := { program := "ytedcnfoipjchnaa", sum := "cf9006f45db0f3d9f7f68cac5e245fe6ca177c0170ee85cd4578d1b7ba8c6807", func := "lantern/lanternlaw4.InstrLimits", spec := "instrLimits", apart := false }
def InstrLimitsSaid : Prop := instrLimitsRow.holds Try.pinned (OpenSpec.ofChange instrLimitsSpec)

/-- ITS FALSE NEIGHBOUR: 'it returns false'. Refute it at one input. -/
def instrLimitsWrong : ChangeSpec := { name := "instrLimits", fn := fun _ => fun
  | [d1, d2, d3, d4] => { results := [.lit (.bool false)], args := [d1, d2, d3, d4] }
  | _ => none }
def InstrLimitsWrongFalsely : Prop := instrLimitsRow.holds Try.pinned (OpenSpec.ofChange instrLimitsWrong)

/-- 'lanternlaw4.InstrStack': WHATEVER THE INPUT: true; the input reads as it did. -/
def instrStackSpec : ChangeSpec := { name := "instrStack", fn := fun _ => fun
  | [d1, d2, d3] => { results := [.lit (.bool true)], args := [d1, d2, d3] }
  | _ => none }
def instrStackRow : OpenClaim := { program := "ytedcnfoipjchnaa", sum := "cf9006f45db0f3d9f7f68cac5e245fe6ca177c0170ee85cd4578d1b7ba8c6807", func := "lantern/lanternlaw4.InstrStack", spec := "instrStack", apart := false }
def InstrStackSaid : Prop := instrStackRow.holds Try.pinned (OpenSpec.ofChange instrStackSpec)

/-- ITS FALSE NEIGHBOUR: 'it returns false'. Refute it at one input. -/
def instrStackWrong : ChangeSpec := { name := "instrStack", fn := fun _ => fun
  | [d1, d2, d3] => { results := [.lit (.bool false)], args := [d1, d2, d3] }
  | _ => none }
def InstrStackWrongFalsely : Prop := instrStackRow.holds Try.pinned (OpenSpec.ofChange instrStackWrong)

/- THE SECOND FORM. 'bulk': how many values and letters a reading holds, each counted each time it is reached (what is shared counts as often as it is met; a slice's spare places count too). A statement '..UptoSaid' is the law's where the arguments, and the package variables that the reading takes, are together of bulk at most 1048576: NARROWER than '..Said'. Prove '..Said' where nothing that the law and all that it calls make is longer than what came in: it says more and counts as full. Else prove '..UptoSaid'. A law counts once. -/
mutual
def uptoBulk {H : Type} : DataW H → Nat
  | .lit (.string bytes) => bytes.length + 1
  | .lit _ => 1
  | .nil => 1
  | .ptr d => uptoBulk d + 1
  | .slice elems spare => uptoBulkAll elems + uptoBulkAll spare + 1
  | .agg parts => uptoBulkAll parts + 1
  | .iface _ d => uptoBulk d + 1
  | .map entries => uptoBulkEntries entries + 1
  | .held _ => 1
def uptoBulkAll {H : Type} : List (DataW H) → Nat
  | [] => 0
  | d :: r => uptoBulk d + uptoBulkAll r
def uptoBulkEntries {H : Type} : List (Lit × DataW H) → Nat
  | [] => 0
  | x :: r => uptoBulkEntry x + uptoBulkEntries r
def uptoBulkEntry {H : Type} : Lit × DataW H → Nat
  | (.string bytes, d) => bytes.length + uptoBulk d + 1
  | (_, d) => uptoBulk d + 1
 end
def uptoSmall : (H : Type) → List (DataW H) → Bool := fun _ ds => decide (uptoBulkAll ds ≤ 1048576)
def OpenSpec.upto (s : _root_.Go.ChangeSpec) : _root_.Go.OpenSpec := { _root_.Go.OpenSpec.ofChange s with cond := some uptoSmall }

/-- 'lanternlaw4.InstrSame', WHERE WHAT IT READS IS OF BULK AT MOST 1048576: true; the input reads as it did. -/
def instrSameUptoRow : OpenClaim := { program := "ytedcnfoipjchnaa", sum := "cf9006f45db0f3d9f7f68cac5e245fe6ca177c0170ee85cd4578d1b7ba8c6807", func := "lantern/lanternlaw4.InstrSame", spec := "instrSame", apart := false, narrowed := true }
def InstrSameUptoSaid : Prop := instrSameUptoRow.holds Try.pinned (OpenSpec.upto instrSameSpec)

/-- 'lanternlaw4.InstrWords', WHERE WHAT IT READS IS OF BULK AT MOST 1048576: true; the input reads as it did. -/
def instrWordsUptoRow : OpenClaim := { program := "ytedcnfoipjchnaa", sum := "cf9006f45db0f3d9f7f68cac5e245fe6ca177c0170ee85cd4578d1b7ba8c6807", func := "lantern/lanternlaw4.InstrWords", spec := "instrWords", apart := false, narrowed := true }
def InstrWordsUptoSaid : Prop := instrWordsUptoRow.holds Try.pinned (OpenSpec.upto instrWordsSpec)

/-- 'lanternlaw4.InstrLimits', WHERE WHAT IT READS IS OF BULK AT MOST 1048576: true; the input reads as it did. -/
def instrLimitsUptoRow : OpenClaim := { program := "ytedcnfoipjchnaa", sum := "cf9006f45db0f3d9f7f68cac5e245fe6ca177c0170ee85cd4578d1b7ba8c6807", func := "lantern/lanternlaw4.InstrLimits", spec := "instrLimits", apart := false, narrowed := true }
def InstrLimitsUptoSaid : Prop := instrLimitsUptoRow.holds Try.pinned (OpenSpec.upto instrLimitsSpec)

/-- 'lanternlaw4.InstrStack', WHERE WHAT IT READS IS OF BULK AT MOST 1048576: true; the input reads as it did. -/
def instrStackUptoRow : OpenClaim := { program := "ytedcnfoipjchnaa", sum := "cf9006f45db0f3d9f7f68cac5e245fe6ca177c0170ee85cd4578d1b7ba8c6807", func := "lantern/lanternlaw4.InstrStack", spec := "instrStack", apart := false, narrowed := true }
def InstrStackUptoSaid : Prop := instrStackUptoRow.holds Try.pinned (OpenSpec.upto instrStackSpec)

end Rows
end Go.Proofs.Ytedcnfoipjchnaa
