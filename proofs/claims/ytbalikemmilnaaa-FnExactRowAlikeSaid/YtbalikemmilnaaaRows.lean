/-
  No cell of these rows narrows 'for every input' (looked for: loops, veiled, ifaces, maps, wideKeys, modest, calm, conditions, laid).
  DERIVED. THE GIVEN ROWS OF THIS SEAT. 12 by the template 'for every input the law returns true; each argument reads behind the call as it read before'; 0 by the template 'total and deterministic' (their statements: YtbalikemmilnaaaTotals.lean).
  GIVEN WITH THE SEED: the statements are not yours to turn. If you find one false, say at which input.
  Laid BY PROGRAM, IN A SANDBOX (cutbox-rows.mjs): the forced cells as the released guide's own fill.sh prints them over the translation f829e14c8b27d404… (all of the seat's roots in one cut). By AI agents, Wed Nov 11 2026. No macro, syntax, notation, axiom, sorry.
-/
import Derived.Test.YtbalikemmilnaaaChecked
import GoSem.Claim
import GoSem.ClaimJoined
import GoSem.ClaimMapViews
import Derived.JoinedTies
import Derived.KernelRfl
namespace Go.Proofs.Ytbalikemmilnaaa
/- THE CELL 'sum', in the pinned program and in every row, IS THE sha256 OF THE DUMP (.gsa) THAT YtbalikemmilnaaaProg.lean LOADS. Nothing in Lean hashes anything: it is a label: what it is worth is what the hold of that sum in a sandbox is worth. -/
noncomputable def Try.pinned : Pinned := { name := "ytbalikemmilnaaa", sum := "f829e14c8b27d4049a68d073daeddb0025b5c5041a3b6ba0c0a2642affa16781", checked := Try.checked }
namespace Rows
def none {H : Type} : Left H := { results := [], args := [] }

/-- 'laws.FnFarOf': WHATEVER THE INPUT: true; the input reads as it did. -/
def fnFarOfSpec : ChangeSpec := { name := "fnFarOf", fn := fun _ => fun
  | [d] => { results := [.lit (.bool true)], args := [d] }
  | _ => none }
def fnFarOfRow : OpenClaim := { program := "ytbalikemmilnaaa", sum := "f829e14c8b27d4049a68d073daeddb0025b5c5041a3b6ba0c0a2642affa16781", func := "loop.example/manyvalues/laws.FnFarOf", spec := "fnFarOf", unfollowed := true, recurses := true, apart := false }
def FnFarOfSaid : Prop := fnFarOfRow.holds Try.pinned (OpenSpec.ofChange fnFarOfSpec)

/-- ITS FALSE NEIGHBOUR: 'it returns false'. Refute it at one input. -/
def fnFarOfWrong : ChangeSpec := { name := "fnFarOf", fn := fun _ => fun
  | [d] => { results := [.lit (.bool false)], args := [d] }
  | _ => none }
def FnFarOfWrongFalsely : Prop := fnFarOfRow.holds Try.pinned (OpenSpec.ofChange fnFarOfWrong)

/-- 'laws.FnAlikeOf': WHATEVER THE INPUT: true; the input reads as it did. -/
def fnAlikeOfSpec : ChangeSpec := { name := "fnAlikeOf", fn := fun _ => fun
  | [d] => { results := [.lit (.bool true)], args := [d] }
  | _ => none }
def fnAlikeOfRow : OpenClaim := { program := "ytbalikemmilnaaa", sum := "f829e14c8b27d4049a68d073daeddb0025b5c5041a3b6ba0c0a2642affa16781", func := "loop.example/manyvalues/laws.FnAlikeOf", spec := "fnAlikeOf", unfollowed := true, recurses := true, apart := false }
def FnAlikeOfSaid : Prop := fnAlikeOfRow.holds Try.pinned (OpenSpec.ofChange fnAlikeOfSpec)

/-- ITS FALSE NEIGHBOUR: 'it returns false'. Refute it at one input. -/
def fnAlikeOfWrong : ChangeSpec := { name := "fnAlikeOf", fn := fun _ => fun
  | [d] => { results := [.lit (.bool false)], args := [d] }
  | _ => none }
def FnAlikeOfWrongFalsely : Prop := fnAlikeOfRow.holds Try.pinned (OpenSpec.ofChange fnAlikeOfWrong)

/-- 'laws.FnRowOk': WHATEVER THE INPUT: true; the input reads as it did. -/
def fnRowOkSpec : ChangeSpec := { name := "fnRowOk", fn := fun _ => fun
  | [d] => { results := [.lit (.bool true)], args := [d] }
  | _ => none }
def fnRowOkRow : OpenClaim := { program := "ytbalikemmilnaaa", sum := "f829e14c8b27d4049a68d073daeddb0025b5c5041a3b6ba0c0a2642affa16781", func := "loop.example/manyvalues/laws.FnRowOk", spec := "fnRowOk", unfollowed := true, recurses := true, apart := false }
def FnRowOkSaid : Prop := fnRowOkRow.holds Try.pinned (OpenSpec.ofChange fnRowOkSpec)

/-- ITS FALSE NEIGHBOUR: 'it returns false'. Refute it at one input. -/
def fnRowOkWrong : ChangeSpec := { name := "fnRowOk", fn := fun _ => fun
  | [d] => { results := [.lit (.bool false)], args := [d] }
  | _ => none }
def FnRowOkWrongFalsely : Prop := fnRowOkRow.holds Try.pinned (OpenSpec.ofChange fnRowOkWrong)

/-- 'laws.FnRowFar': WHATEVER THE INPUT: true; the input reads as it did. -/
def fnRowFarSpec : ChangeSpec := { name := "fnRowFar", fn := fun _ => fun
  | [d] => { results := [.lit (.bool true)], args := [d] }
  | _ => none }
def fnRowFarRow : OpenClaim := { program := "ytbalikemmilnaaa", sum := "f829e14c8b27d4049a68d073daeddb0025b5c5041a3b6ba0c0a2642affa16781", func := "loop.example/manyvalues/laws.FnRowFar", spec := "fnRowFar", unfollowed := true, recurses := true, apart := false }
def FnRowFarSaid : Prop := fnRowFarRow.holds Try.pinned (OpenSpec.ofChange fnRowFarSpec)

/-- ITS FALSE NEIGHBOUR: 'it returns false'. Refute it at one input. -/
def fnRowFarWrong : ChangeSpec := { name := "fnRowFar", fn := fun _ => fun
  | [d] => { results := [.lit (.bool false)], args := [d] }
  | _ => none }
def FnRowFarWrongFalsely : Prop := fnRowFarRow.holds Try.pinned (OpenSpec.ofChange fnRowFarWrong)

/-- 'laws.FnRowAlike': WHATEVER THE INPUT: true; the input reads as it did. -/
def fnRowAlikeSpec : ChangeSpec := { name := "fnRowAlike", fn := fun _ => fun
  | [d] => { results := [.lit (.bool true)], args := [d] }
  | _ => none }
def fnRowAlikeRow : OpenClaim := { program := "ytbalikemmilnaaa", sum := "f829e14c8b27d4049a68d073daeddb0025b5c5041a3b6ba0c0a2642affa16781", func := "loop.example/manyvalues/laws.FnRowAlike", spec := "fnRowAlike", unfollowed := true, recurses := true, apart := false }
def FnRowAlikeSaid : Prop := fnRowAlikeRow.holds Try.pinned (OpenSpec.ofChange fnRowAlikeSpec)

/-- ITS FALSE NEIGHBOUR: 'it returns false'. Refute it at one input. -/
def fnRowAlikeWrong : ChangeSpec := { name := "fnRowAlike", fn := fun _ => fun
  | [d] => { results := [.lit (.bool false)], args := [d] }
  | _ => none }
def FnRowAlikeWrongFalsely : Prop := fnRowAlikeRow.holds Try.pinned (OpenSpec.ofChange fnRowAlikeWrong)

/-- 'laws.FnMovesOf': WHATEVER THE INPUT: true; the input reads as it did. -/
def fnMovesOfSpec : ChangeSpec := { name := "fnMovesOf", fn := fun _ => fun
  | [d] => { results := [.lit (.bool true)], args := [d] }
  | _ => none }
def fnMovesOfRow : OpenClaim := { program := "ytbalikemmilnaaa", sum := "f829e14c8b27d4049a68d073daeddb0025b5c5041a3b6ba0c0a2642affa16781", func := "loop.example/manyvalues/laws.FnMovesOf", spec := "fnMovesOf", unfollowed := true, recurses := true, apart := false }
def FnMovesOfSaid : Prop := fnMovesOfRow.holds Try.pinned (OpenSpec.ofChange fnMovesOfSpec)

/-- ITS FALSE NEIGHBOUR: 'it returns false'. Refute it at one input. -/
def fnMovesOfWrong : ChangeSpec := { name := "fnMovesOf", fn := fun _ => fun
  | [d] => { results := [.lit (.bool false)], args := [d] }
  | _ => none }
def FnMovesOfWrongFalsely : Prop := fnMovesOfRow.holds Try.pinned (OpenSpec.ofChange fnMovesOfWrong)

/-- 'laws.FnExactFarOf': WHATEVER THE INPUT: true; the input reads as it did. -/
def fnExactFarOfSpec : ChangeSpec := { name := "fnExactFarOf", fn := fun _ => fun
  | [d1, d2, d3] => { results := [.lit (.bool true)], args := [d1, d2, d3] }
  | _ => none }
def fnExactFarOfRow : OpenClaim := { program := "ytbalikemmilnaaa", sum := "f829e14c8b27d4049a68d073daeddb0025b5c5041a3b6ba0c0a2642affa16781", func := "loop.example/manyvalues/laws.FnExactFarOf", spec := "fnExactFarOf", apart := false }
def FnExactFarOfSaid : Prop := fnExactFarOfRow.holds Try.pinned (OpenSpec.ofChange fnExactFarOfSpec)

/-- ITS FALSE NEIGHBOUR: 'it returns false'. Refute it at one input. -/
def fnExactFarOfWrong : ChangeSpec := { name := "fnExactFarOf", fn := fun _ => fun
  | [d1, d2, d3] => { results := [.lit (.bool false)], args := [d1, d2, d3] }
  | _ => none }
def FnExactFarOfWrongFalsely : Prop := fnExactFarOfRow.holds Try.pinned (OpenSpec.ofChange fnExactFarOfWrong)

/-- 'laws.FnExactAlikeOf': WHATEVER THE INPUT: true; the input reads as it did. -/
def fnExactAlikeOfSpec : ChangeSpec := { name := "fnExactAlikeOf", fn := fun _ => fun
  | [d1, d2, d3] => { results := [.lit (.bool true)], args := [d1, d2, d3] }
  | _ => none }
def fnExactAlikeOfRow : OpenClaim := { program := "ytbalikemmilnaaa", sum := "f829e14c8b27d4049a68d073daeddb0025b5c5041a3b6ba0c0a2642affa16781", func := "loop.example/manyvalues/laws.FnExactAlikeOf", spec := "fnExactAlikeOf", apart := false }
def FnExactAlikeOfSaid : Prop := fnExactAlikeOfRow.holds Try.pinned (OpenSpec.ofChange fnExactAlikeOfSpec)

/-- ITS FALSE NEIGHBOUR: 'it returns false'. Refute it at one input. -/
def fnExactAlikeOfWrong : ChangeSpec := { name := "fnExactAlikeOf", fn := fun _ => fun
  | [d1, d2, d3] => { results := [.lit (.bool false)], args := [d1, d2, d3] }
  | _ => none }
def FnExactAlikeOfWrongFalsely : Prop := fnExactAlikeOfRow.holds Try.pinned (OpenSpec.ofChange fnExactAlikeOfWrong)

/-- 'laws.FnExactRowOk': WHATEVER THE INPUT: true; the input reads as it did. -/
def fnExactRowOkSpec : ChangeSpec := { name := "fnExactRowOk", fn := fun _ => fun
  | [d1, d2] => { results := [.lit (.bool true)], args := [d1, d2] }
  | _ => none }
def fnExactRowOkRow : OpenClaim := { program := "ytbalikemmilnaaa", sum := "f829e14c8b27d4049a68d073daeddb0025b5c5041a3b6ba0c0a2642affa16781", func := "loop.example/manyvalues/laws.FnExactRowOk", spec := "fnExactRowOk", unfollowed := true, recurses := true, apart := false }
def FnExactRowOkSaid : Prop := fnExactRowOkRow.holds Try.pinned (OpenSpec.ofChange fnExactRowOkSpec)

/-- ITS FALSE NEIGHBOUR: 'it returns false'. Refute it at one input. -/
def fnExactRowOkWrong : ChangeSpec := { name := "fnExactRowOk", fn := fun _ => fun
  | [d1, d2] => { results := [.lit (.bool false)], args := [d1, d2] }
  | _ => none }
def FnExactRowOkWrongFalsely : Prop := fnExactRowOkRow.holds Try.pinned (OpenSpec.ofChange fnExactRowOkWrong)

/-- 'laws.FnExactRowFar': WHATEVER THE INPUT: true; the input reads as it did. -/
def fnExactRowFarSpec : ChangeSpec := { name := "fnExactRowFar", fn := fun _ => fun
  | [d1, d2, d3] => { results := [.lit (.bool true)], args := [d1, d2, d3] }
  | _ => none }
def fnExactRowFarRow : OpenClaim := { program := "ytbalikemmilnaaa", sum := "f829e14c8b27d4049a68d073daeddb0025b5c5041a3b6ba0c0a2642affa16781", func := "loop.example/manyvalues/laws.FnExactRowFar", spec := "fnExactRowFar", unfollowed := true, recurses := true, apart := false }
def FnExactRowFarSaid : Prop := fnExactRowFarRow.holds Try.pinned (OpenSpec.ofChange fnExactRowFarSpec)

/-- ITS FALSE NEIGHBOUR: 'it returns false'. Refute it at one input. -/
def fnExactRowFarWrong : ChangeSpec := { name := "fnExactRowFar", fn := fun _ => fun
  | [d1, d2, d3] => { results := [.lit (.bool false)], args := [d1, d2, d3] }
  | _ => none }
def FnExactRowFarWrongFalsely : Prop := fnExactRowFarRow.holds Try.pinned (OpenSpec.ofChange fnExactRowFarWrong)

/-- 'laws.FnExactRowAlike': WHATEVER THE INPUT: true; the input reads as it did. -/
def fnExactRowAlikeSpec : ChangeSpec := { name := "fnExactRowAlike", fn := fun _ => fun
  | [d1, d2, d3] => { results := [.lit (.bool true)], args := [d1, d2, d3] }
  | _ => none }
def fnExactRowAlikeRow : OpenClaim := { program := "ytbalikemmilnaaa", sum := "f829e14c8b27d4049a68d073daeddb0025b5c5041a3b6ba0c0a2642affa16781", func := "loop.example/manyvalues/laws.FnExactRowAlike", spec := "fnExactRowAlike", unfollowed := true, recurses := true, apart := false }
def FnExactRowAlikeSaid : Prop := fnExactRowAlikeRow.holds Try.pinned (OpenSpec.ofChange fnExactRowAlikeSpec)

/-- ITS FALSE NEIGHBOUR: 'it returns false'. Refute it at one input. -/
def fnExactRowAlikeWrong : ChangeSpec := { name := "fnExactRowAlike", fn := fun _ => fun
  | [d1, d2, d3] => { results := [.lit (.bool false)], args := [d1, d2, d3] }
  | _ => none }
def FnExactRowAlikeWrongFalsely : Prop := fnExactRowAlikeRow.holds Try.pinned (OpenSpec.ofChange fnExactRowAlikeWrong)

/-- 'laws.FnExactMovesOf': WHATEVER THE INPUT: true; the input reads as it did. -/
def fnExactMovesOfSpec : ChangeSpec := { name := "fnExactMovesOf", fn := fun _ => fun
  | [d1, d2] => { results := [.lit (.bool true)], args := [d1, d2] }
  | _ => none }
def fnExactMovesOfRow : OpenClaim := { program := "ytbalikemmilnaaa", sum := "f829e14c8b27d4049a68d073daeddb0025b5c5041a3b6ba0c0a2642affa16781", func := "loop.example/manyvalues/laws.FnExactMovesOf", spec := "fnExactMovesOf", unfollowed := true, recurses := true, apart := false }
def FnExactMovesOfSaid : Prop := fnExactMovesOfRow.holds Try.pinned (OpenSpec.ofChange fnExactMovesOfSpec)

/-- ITS FALSE NEIGHBOUR: 'it returns false'. Refute it at one input. -/
def fnExactMovesOfWrong : ChangeSpec := { name := "fnExactMovesOf", fn := fun _ => fun
  | [d1, d2] => { results := [.lit (.bool false)], args := [d1, d2] }
  | _ => none }
def FnExactMovesOfWrongFalsely : Prop := fnExactMovesOfRow.holds Try.pinned (OpenSpec.ofChange fnExactMovesOfWrong)

/- THE SECOND FORM. 'bulk': how many values and letters a reading holds, each counted each time it is reached (what is shared counts as often as it is met; a slice's spare places count too). A statement '..UptoSaid' is the law's where the arguments, and the package variables that the reading takes, are together of bulk at most 1048576: NARROWER than '..Said'. Prove '..Said' where nothing that the law and all that it calls make is longer than what came in: it says more and counts as full. Else prove '..UptoSaid'. A law counts once. -/
mutual
def uptoBulk {H : Type} : DataW H → Nat
  | .lit (.string bytes) => bytes.length + 1
  | .lit _ => 1
  | .nil => 1
  | .ptr d => uptoBulk d + 1
  | .slice elems spare => uptoBulkAll elems + uptoBulkAll spare + 1
  | .agg parts => uptoBulkAll parts + 1
  | .iface _ d => uptoBulk d + 1
  | .map entries => uptoBulkEntries entries + 1
  | .held _ => 1
def uptoBulkAll {H : Type} : List (DataW H) → Nat
  | [] => 0
  | d :: r => uptoBulk d + uptoBulkAll r
def uptoBulkEntries {H : Type} : List (Lit × DataW H) → Nat
  | [] => 0
  | x :: r => uptoBulkEntry x + uptoBulkEntries r
def uptoBulkEntry {H : Type} : Lit × DataW H → Nat
  | (.string bytes, d) => bytes.length + uptoBulk d + 1
  | (_, d) => uptoBulk d + 1
 end
def uptoSmall : (H : Type) → List (DataW H) → Bool := fun _ ds => decide (uptoBulkAll ds ≤ 1048576)
def OpenSpec.upto (s : _root_.Go.ChangeSpec) : _root_.Go.OpenSpec := { _root_.Go.OpenSpec.ofChange s with cond := some uptoSmall }

/-- 'laws.FnFarOf', WHERE WHAT IT READS IS OF BULK AT MOST 1048576: true; the input reads as it did. -/
def fnFarOfUptoRow : OpenClaim := { program := "ytbalikemmilnaaa", sum := "f829e14c8b27d4049a68d073daeddb0025b5c5041a3b6ba0c0a2642affa16781", func := "loop.example/manyvalues/laws.FnFarOf", spec := "fnFarOf", unfollowed := true, recurses := true, apart := false, narrowed := true }
def FnFarOfUptoSaid : Prop := fnFarOfUptoRow.holds Try.pinned (OpenSpec.upto fnFarOfSpec)

/-- 'laws.FnAlikeOf', WHERE WHAT IT READS IS OF BULK AT MOST 1048576: true; the input reads as it did. -/
def fnAlikeOfUptoRow : OpenClaim := { program := "ytbalikemmilnaaa", sum := "f829e14c8b27d4049a68d073daeddb0025b5c5041a3b6ba0c0a2642affa16781", func := "loop.example/manyvalues/laws.FnAlikeOf", spec := "fnAlikeOf", unfollowed := true, recurses := true, apart := false, narrowed := true }
def FnAlikeOfUptoSaid : Prop := fnAlikeOfUptoRow.holds Try.pinned (OpenSpec.upto fnAlikeOfSpec)

/-- 'laws.FnRowOk', WHERE WHAT IT READS IS OF BULK AT MOST 1048576: true; the input reads as it did. -/
def fnRowOkUptoRow : OpenClaim := { program := "ytbalikemmilnaaa", sum := "f829e14c8b27d4049a68d073daeddb0025b5c5041a3b6ba0c0a2642affa16781", func := "loop.example/manyvalues/laws.FnRowOk", spec := "fnRowOk", unfollowed := true, recurses := true, apart := false, narrowed := true }
def FnRowOkUptoSaid : Prop := fnRowOkUptoRow.holds Try.pinned (OpenSpec.upto fnRowOkSpec)

/-- 'laws.FnRowFar', WHERE WHAT IT READS IS OF BULK AT MOST 1048576: true; the input reads as it did. -/
def fnRowFarUptoRow : OpenClaim := { program := "ytbalikemmilnaaa", sum := "f829e14c8b27d4049a68d073daeddb0025b5c5041a3b6ba0c0a2642affa16781", func := "loop.example/manyvalues/laws.FnRowFar", spec := "fnRowFar", unfollowed := true, recurses := true, apart := false, narrowed := true }
def FnRowFarUptoSaid : Prop := fnRowFarUptoRow.holds Try.pinned (OpenSpec.upto fnRowFarSpec)

/-- 'laws.FnRowAlike', WHERE WHAT IT READS IS OF BULK AT MOST 1048576: true; the input reads as it did. -/
def fnRowAlikeUptoRow : OpenClaim := { program := "ytbalikemmilnaaa", sum := "f829e14c8b27d4049a68d073daeddb0025b5c5041a3b6ba0c0a2642affa16781", func := "loop.example/manyvalues/laws.FnRowAlike", spec := "fnRowAlike", unfollowed := true, recurses := true, apart := false, narrowed := true }
def FnRowAlikeUptoSaid : Prop := fnRowAlikeUptoRow.holds Try.pinned (OpenSpec.upto fnRowAlikeSpec)

/-- 'laws.FnMovesOf', WHERE WHAT IT READS IS OF BULK AT MOST 1048576: true; the input reads as it did. -/
def fnMovesOfUptoRow : OpenClaim := { program := "ytbalikemmilnaaa", sum := "f829e14c8b27d4049a68d073daeddb0025b5c5041a3b6ba0c0a2642affa16781", func := "loop.example/manyvalues/laws.FnMovesOf", spec := "fnMovesOf", unfollowed := true, recurses := true, apart := false, narrowed := true }
def FnMovesOfUptoSaid : Prop := fnMovesOfUptoRow.holds Try.pinned (OpenSpec.upto fnMovesOfSpec)

/-- 'laws.FnExactFarOf', WHERE WHAT IT READS IS OF BULK AT MOST 1048576: true; the input reads as it did. -/
def fnExactFarOfUptoRow : OpenClaim := { program := "ytbalikemmilnaaa", sum := "f829e14c8b27d4049a68d073daeddb0025b5c5041a3b6ba0c0a2642affa16781", func := "loop.example/manyvalues/laws.FnExactFarOf", spec := "fnExactFarOf", apart := false, narrowed := true }
def FnExactFarOfUptoSaid : Prop := fnExactFarOfUptoRow.holds Try.pinned (OpenSpec.upto fnExactFarOfSpec)

/-- 'laws.FnExactAlikeOf', WHERE WHAT IT READS IS OF BULK AT MOST 1048576: true; the input reads as it did. -/
def fnExactAlikeOfUptoRow : OpenClaim := { program := "ytbalikemmilnaaa", sum := "f829e14c8b27d4049a68d073daeddb0025b5c5041a3b6ba0c0a2642affa16781", func := "loop.example/manyvalues/laws.FnExactAlikeOf", spec := "fnExactAlikeOf", apart := false, narrowed := true }
def FnExactAlikeOfUptoSaid : Prop := fnExactAlikeOfUptoRow.holds Try.pinned (OpenSpec.upto fnExactAlikeOfSpec)

/-- 'laws.FnExactRowOk', WHERE WHAT IT READS IS OF BULK AT MOST 1048576: true; the input reads as it did. -/
def fnExactRowOkUptoRow : OpenClaim := { program := "ytbalikemmilnaaa", sum := "f829e14c8b27d4049a68d073daeddb0025b5c5041a3b6ba0c0a2642affa16781", func := "loop.example/manyvalues/laws.FnExactRowOk", spec := "fnExactRowOk", unfollowed := true, recurses := true, apart := false, narrowed := true }
def FnExactRowOkUptoSaid : Prop := fnExactRowOkUptoRow.holds Try.pinned (OpenSpec.upto fnExactRowOkSpec)

/-- 'laws.FnExactRowFar', WHERE WHAT IT READS IS OF BULK AT MOST 1048576: true; the input reads as it did. -/
def fnExactRowFarUptoRow : OpenClaim := { program := "ytbalikemmilnaaa", sum := "f829e14c8b27d4049a68d073daeddb0025b5c5041a3b6ba0c0a2642affa16781", func := "loop.example/manyvalues/laws.FnExactRowFar", spec := "fnExactRowFar", unfollowed := true, recurses := true, apart := false, narrowed := true }
def FnExactRowFarUptoSaid : Prop := fnExactRowFarUptoRow.holds Try.pinned (OpenSpec.upto fnExactRowFarSpec)

/-- 'laws.FnExactRowAlike', WHERE WHAT IT READS IS OF BULK AT MOST 1048576: true; the input reads as it did. -/
def fnExactRowAlikeUptoRow : OpenClaim := { program := "ytbalikemmilnaaa", sum := "f829e14c8b27d4049a68d073daeddb0025b5c5041a3b6ba0c0a2642affa16781", func := "loop.example/manyvalues/laws.FnExactRowAlike", spec := "fnExactRowAlike", unfollowed := true, recurses := true, apart := false, narrowed := true }
def FnExactRowAlikeUptoSaid : Prop := fnExactRowAlikeUptoRow.holds Try.pinned (OpenSpec.upto fnExactRowAlikeSpec)

/-- 'laws.FnExactMovesOf', WHERE WHAT IT READS IS OF BULK AT MOST 1048576: true; the input reads as it did. -/
def fnExactMovesOfUptoRow : OpenClaim := { program := "ytbalikemmilnaaa", sum := "f829e14c8b27d4049a68d073daeddb0025b5c5041a3b6ba0c0a2642affa16781", func := "loop.example/manyvalues/laws.FnExactMovesOf", spec := "fnExactMovesOf", unfollowed := true, recurses := true, apart := false, narrowed := true }
def FnExactMovesOfUptoSaid : Prop := fnExactMovesOfUptoRow.holds Try.pinned (OpenSpec.upto fnExactMovesOfSpec)

end Rows
end Go.Proofs.Ytbalikemmilnaaa
