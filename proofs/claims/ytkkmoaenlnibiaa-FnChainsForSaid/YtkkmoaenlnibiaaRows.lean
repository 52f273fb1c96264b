/-
  No cell of these rows narrows 'for every input' (looked for: loops, veiled, ifaces, maps, wideKeys, modest, calm, conditions, laid).
  DERIVED. THE GIVEN ROWS OF THIS SEAT. 12 by the template 'for every input the law returns true; each argument reads behind the call as it read before'; 0 by the template 'total and deterministic' (their statements: YtkkmoaenlnibiaaTotals.lean).
  GIVEN WITH THE SEED: the statements are not yours to turn. If you find one false, say at which input.
  Laid BY PROGRAM, IN A SANDBOX (cutbox-rows.mjs): the forced cells as the released guide's own fill.sh prints them over the translation 0bf77146ee62f8b0… (all of the seat's roots in one cut). By AI agents, Wed Nov 11 2026. No macro, syntax, notation, axiom, sorry.
-/
import Derived.Test.YtkkmoaenlnibiaaChecked
import GoSem.Claim
import GoSem.ClaimJoined
import GoSem.ClaimMapViews
import Derived.JoinedTies
import Derived.KernelRfl
namespace Go.Proofs.Ytkkmoaenlnibiaa
/- THE CELL 'sum', in the pinned program and in every row, IS THE sha256 OF THE DUMP (.gsa) THAT YtkkmoaenlnibiaaProg.lean LOADS. Nothing in Lean hashes anything: it is a label: what it is worth is what the hold of that sum in a sandbox is worth. -/
noncomputable def Try.pinned : Pinned := { name := "ytkkmoaenlnibiaa", sum := "0bf77146ee62f8b0ee3f351d04aa2717916c835f34033e0d1fd787b97e0d7f36", checked := Try.checked }
namespace Rows
def none {H : Type} : Left H := { results := [], args := [] }

/-- 'laws.FnLeastAt': WHATEVER THE INPUT: true; the input reads as it did. -/
def fnLeastAtSpec : ChangeSpec := { name := "fnLeastAt", fn := fun _ => fun
  | [d] => { results := [.lit (.bool true)], args := [d] }
  | _ => none }
def fnLeastAtRow : OpenClaim := { program := "ytkkmoaenlnibiaa", sum := "0bf77146ee62f8b0ee3f351d04aa2717916c835f34033e0d1fd787b97e0d7f36", func := "loop.example/manyvalues/laws.FnLeastAt", spec := "fnLeastAt", unfollowed := true, recurses := true, apart := false }
def FnLeastAtSaid : Prop := fnLeastAtRow.holds Try.pinned (OpenSpec.ofChange fnLeastAtSpec)

/-- ITS FALSE NEIGHBOUR: 'it returns false'. Refute it at one input. -/
def fnLeastAtWrong : ChangeSpec := { name := "fnLeastAt", fn := fun _ => fun
  | [d] => { results := [.lit (.bool false)], args := [d] }
  | _ => none }
def FnLeastAtWrongFalsely : Prop := fnLeastAtRow.holds Try.pinned (OpenSpec.ofChange fnLeastAtWrong)

/-- 'laws.FnAlwaysOk': WHATEVER THE INPUT: true; the input reads as it did. -/
def fnAlwaysOkSpec : ChangeSpec := { name := "fnAlwaysOk", fn := fun _ => fun
  | [d] => { results := [.lit (.bool true)], args := [d] }
  | _ => none }
def fnAlwaysOkRow : OpenClaim := { program := "ytkkmoaenlnibiaa", sum := "0bf77146ee62f8b0ee3f351d04aa2717916c835f34033e0d1fd787b97e0d7f36", func := "loop.example/manyvalues/laws.FnAlwaysOk", spec := "fnAlwaysOk", unfollowed := true, recurses := true, apart := false }
def FnAlwaysOkSaid : Prop := fnAlwaysOkRow.holds Try.pinned (OpenSpec.ofChange fnAlwaysOkSpec)

/-- ITS FALSE NEIGHBOUR: 'it returns false'. Refute it at one input. -/
def fnAlwaysOkWrong : ChangeSpec := { name := "fnAlwaysOk", fn := fun _ => fun
  | [d] => { results := [.lit (.bool false)], args := [d] }
  | _ => none }
def FnAlwaysOkWrongFalsely : Prop := fnAlwaysOkRow.holds Try.pinned (OpenSpec.ofChange fnAlwaysOkWrong)

/-- 'laws.FnAgainstOf': WHATEVER THE INPUT: true; the input reads as it did. -/
def fnAgainstOfSpec : ChangeSpec := { name := "fnAgainstOf", fn := fun _ => fun
  | [d] => { results := [.lit (.bool true)], args := [d] }
  | _ => none }
def fnAgainstOfRow : OpenClaim := { program := "ytkkmoaenlnibiaa", sum := "0bf77146ee62f8b0ee3f351d04aa2717916c835f34033e0d1fd787b97e0d7f36", func := "loop.example/manyvalues/laws.FnAgainstOf", spec := "fnAgainstOf", unfollowed := true, recurses := true, apart := false }
def FnAgainstOfSaid : Prop := fnAgainstOfRow.holds Try.pinned (OpenSpec.ofChange fnAgainstOfSpec)

/-- ITS FALSE NEIGHBOUR: 'it returns false'. Refute it at one input. -/
def fnAgainstOfWrong : ChangeSpec := { name := "fnAgainstOf", fn := fun _ => fun
  | [d] => { results := [.lit (.bool false)], args := [d] }
  | _ => none }
def FnAgainstOfWrongFalsely : Prop := fnAgainstOfRow.holds Try.pinned (OpenSpec.ofChange fnAgainstOfWrong)

/-- 'laws.FnSameAt': WHATEVER THE INPUT: true; the input reads as it did. -/
def fnSameAtSpec : ChangeSpec := { name := "fnSameAt", fn := fun _ => fun
  | [d] => { results := [.lit (.bool true)], args := [d] }
  | _ => none }
def fnSameAtRow : OpenClaim := { program := "ytkkmoaenlnibiaa", sum := "0bf77146ee62f8b0ee3f351d04aa2717916c835f34033e0d1fd787b97e0d7f36", func := "loop.example/manyvalues/laws.FnSameAt", spec := "fnSameAt", unfollowed := true, recurses := true, apart := false }
def FnSameAtSaid : Prop := fnSameAtRow.holds Try.pinned (OpenSpec.ofChange fnSameAtSpec)

/-- ITS FALSE NEIGHBOUR: 'it returns false'. Refute it at one input. -/
def fnSameAtWrong : ChangeSpec := { name := "fnSameAt", fn := fun _ => fun
  | [d] => { results := [.lit (.bool false)], args := [d] }
  | _ => none }
def FnSameAtWrongFalsely : Prop := fnSameAtRow.holds Try.pinned (OpenSpec.ofChange fnSameAtWrong)

/-- 'laws.FnAxiomAt': WHATEVER THE INPUT: true; the input reads as it did. -/
def fnAxiomAtSpec : ChangeSpec := { name := "fnAxiomAt", fn := fun _ => fun
  | [d] => { results := [.lit (.bool true)], args := [d] }
  | _ => none }
def fnAxiomAtRow : OpenClaim := { program := "ytkkmoaenlnibiaa", sum := "0bf77146ee62f8b0ee3f351d04aa2717916c835f34033e0d1fd787b97e0d7f36", func := "loop.example/manyvalues/laws.FnAxiomAt", spec := "fnAxiomAt", unfollowed := true, recurses := true, apart := false }
def FnAxiomAtSaid : Prop := fnAxiomAtRow.holds Try.pinned (OpenSpec.ofChange fnAxiomAtSpec)

/-- ITS FALSE NEIGHBOUR: 'it returns false'. Refute it at one input. -/
def fnAxiomAtWrong : ChangeSpec := { name := "fnAxiomAt", fn := fun _ => fun
  | [d] => { results := [.lit (.bool false)], args := [d] }
  | _ => none }
def FnAxiomAtWrongFalsely : Prop := fnAxiomAtRow.holds Try.pinned (OpenSpec.ofChange fnAxiomAtWrong)

/-- 'laws.FnChainsFor': WHATEVER THE INPUT: true; the input reads as it did. -/
def fnChainsForSpec : ChangeSpec := { name := "fnChainsFor", fn := fun _ => fun
  | [d] => { results := [.lit (.bool true)], args := [d] }
  | _ => none }
def fnChainsForRow : OpenClaim := { program := "ytkkmoaenlnibiaa", sum := "0bf77146ee62f8b0ee3f351d04aa2717916c835f34033e0d1fd787b97e0d7f36", func := "loop.example/manyvalues/laws.FnChainsFor", spec := "fnChainsFor", unfollowed := true, recurses := true, apart := false }
def FnChainsForSaid : Prop := fnChainsForRow.holds Try.pinned (OpenSpec.ofChange fnChainsForSpec)

/-- ITS FALSE NEIGHBOUR: 'it returns false'. Refute it at one input. -/
def fnChainsForWrong : ChangeSpec := { name := "fnChainsFor", fn := fun _ => fun
  | [d] => { results := [.lit (.bool false)], args := [d] }
  | _ => none }
def FnChainsForWrongFalsely : Prop := fnChainsForRow.holds Try.pinned (OpenSpec.ofChange fnChainsForWrong)

/-- 'laws.FnExactLeastAt': WHATEVER THE INPUT: true; the input reads as it did. -/
def fnExactLeastAtSpec : ChangeSpec := { name := "fnExactLeastAt", fn := fun _ => fun
  | [d1, d2] => { results := [.lit (.bool true)], args := [d1, d2] }
  | _ => none }
def fnExactLeastAtRow : OpenClaim := { program := "ytkkmoaenlnibiaa", sum := "0bf77146ee62f8b0ee3f351d04aa2717916c835f34033e0d1fd787b97e0d7f36", func := "loop.example/manyvalues/laws.FnExactLeastAt", spec := "fnExactLeastAt", unfollowed := true, recurses := true, apart := false }
def FnExactLeastAtSaid : Prop := fnExactLeastAtRow.holds Try.pinned (OpenSpec.ofChange fnExactLeastAtSpec)

/-- ITS FALSE NEIGHBOUR: 'it returns false'. Refute it at one input. -/
def fnExactLeastAtWrong : ChangeSpec := { name := "fnExactLeastAt", fn := fun _ => fun
  | [d1, d2] => { results := [.lit (.bool false)], args := [d1, d2] }
  | _ => none }
def FnExactLeastAtWrongFalsely : Prop := fnExactLeastAtRow.holds Try.pinned (OpenSpec.ofChange fnExactLeastAtWrong)

/-- 'laws.FnExactAlwaysOk': WHATEVER THE INPUT: true; the input reads as it did. -/
def fnExactAlwaysOkSpec : ChangeSpec := { name := "fnExactAlwaysOk", fn := fun _ => fun
  | [d1, d2] => { results := [.lit (.bool true)], args := [d1, d2] }
  | _ => none }
def fnExactAlwaysOkRow : OpenClaim := { program := "ytkkmoaenlnibiaa", sum := "0bf77146ee62f8b0ee3f351d04aa2717916c835f34033e0d1fd787b97e0d7f36", func := "loop.example/manyvalues/laws.FnExactAlwaysOk", spec := "fnExactAlwaysOk", unfollowed := true, recurses := true, apart := false }
def FnExactAlwaysOkSaid : Prop := fnExactAlwaysOkRow.holds Try.pinned (OpenSpec.ofChange fnExactAlwaysOkSpec)

/-- ITS FALSE NEIGHBOUR: 'it returns false'. Refute it at one input. -/
def fnExactAlwaysOkWrong : ChangeSpec := { name := "fnExactAlwaysOk", fn := fun _ => fun
  | [d1, d2] => { results := [.lit (.bool false)], args := [d1, d2] }
  | _ => none }
def FnExactAlwaysOkWrongFalsely : Prop := fnExactAlwaysOkRow.holds Try.pinned (OpenSpec.ofChange fnExactAlwaysOkWrong)

/-- 'laws.FnExactAgainstOf': WHATEVER THE INPUT: true; the input reads as it did. -/
def fnExactAgainstOfSpec : ChangeSpec := { name := "fnExactAgainstOf", fn := fun _ => fun
  | [d1, d2] => { results := [.lit (.bool true)], args := [d1, d2] }
  | _ => none }
def fnExactAgainstOfRow : OpenClaim := { program := "ytkkmoaenlnibiaa", sum := "0bf77146ee62f8b0ee3f351d04aa2717916c835f34033e0d1fd787b97e0d7f36", func := "loop.example/manyvalues/laws.FnExactAgainstOf", spec := "fnExactAgainstOf", unfollowed := true, recurses := true, apart := false }
def FnExactAgainstOfSaid : Prop := fnExactAgainstOfRow.holds Try.pinned (OpenSpec.ofChange fnExactAgainstOfSpec)

/-- ITS FALSE NEIGHBOUR: 'it returns false'. Refute it at one input. -/
def fnExactAgainstOfWrong : ChangeSpec := { name := "fnExactAgainstOf", fn := fun _ => fun
  | [d1, d2] => { results := [.lit (.bool false)], args := [d1, d2] }
  | _ => none }
def FnExactAgainstOfWrongFalsely : Prop := fnExactAgainstOfRow.holds Try.pinned (OpenSpec.ofChange fnExactAgainstOfWrong)

/-- 'laws.FnExactSameAt': WHATEVER THE INPUT: true; the input reads as it did. -/
def fnExactSameAtSpec : ChangeSpec := { name := "fnExactSameAt", fn := fun _ => fun
  | [d1, d2, d3] => { results := [.lit (.bool true)], args := [d1, d2, d3] }
  | _ => none }
def fnExactSameAtRow : OpenClaim := { program := "ytkkmoaenlnibiaa", sum := "0bf77146ee62f8b0ee3f351d04aa2717916c835f34033e0d1fd787b97e0d7f36", func := "loop.example/manyvalues/laws.FnExactSameAt", spec := "fnExactSameAt", unfollowed := true, recurses := true, apart := false }
def FnExactSameAtSaid : Prop := fnExactSameAtRow.holds Try.pinned (OpenSpec.ofChange fnExactSameAtSpec)

/-- ITS FALSE NEIGHBOUR: 'it returns false'. Refute it at one input. -/
def fnExactSameAtWrong : ChangeSpec := { name := "fnExactSameAt", fn := fun _ => fun
  | [d1, d2, d3] => { results := [.lit (.bool false)], args := [d1, d2, d3] }
  | _ => none }
def FnExactSameAtWrongFalsely : Prop := fnExactSameAtRow.holds Try.pinned (OpenSpec.ofChange fnExactSameAtWrong)

/-- 'laws.FnExactAxiomAt': WHATEVER THE INPUT: true; the input reads as it did. -/
def fnExactAxiomAtSpec : ChangeSpec := { name := "fnExactAxiomAt", fn := fun _ => fun
  | [d] => { results := [.lit (.bool true)], args := [d] }
  | _ => none }
def fnExactAxiomAtRow : OpenClaim := { program := "ytkkmoaenlnibiaa", sum := "0bf77146ee62f8b0ee3f351d04aa2717916c835f34033e0d1fd787b97e0d7f36", func := "loop.example/manyvalues/laws.FnExactAxiomAt", spec := "fnExactAxiomAt", apart := false }
def FnExactAxiomAtSaid : Prop := fnExactAxiomAtRow.holds Try.pinned (OpenSpec.ofChange fnExactAxiomAtSpec)

/-- ITS FALSE NEIGHBOUR: 'it returns false'. Refute it at one input. -/
def fnExactAxiomAtWrong : ChangeSpec := { name := "fnExactAxiomAt", fn := fun _ => fun
  | [d] => { results := [.lit (.bool false)], args := [d] }
  | _ => none }
def FnExactAxiomAtWrongFalsely : Prop := fnExactAxiomAtRow.holds Try.pinned (OpenSpec.ofChange fnExactAxiomAtWrong)

/-- 'laws.FnExactChainsFor': WHATEVER THE INPUT: true; the input reads as it did. -/
def fnExactChainsForSpec : ChangeSpec := { name := "fnExactChainsFor", fn := fun _ => fun
  | [d] => { results := [.lit (.bool true)], args := [d] }
  | _ => none }
def fnExactChainsForRow : OpenClaim := { program := "ytkkmoaenlnibiaa", sum := "0bf77146ee62f8b0ee3f351d04aa2717916c835f34033e0d1fd787b97e0d7f36", func := "loop.example/manyvalues/laws.FnExactChainsFor", spec := "fnExactChainsFor", unfollowed := true, recurses := true, apart := false }
def FnExactChainsForSaid : Prop := fnExactChainsForRow.holds Try.pinned (OpenSpec.ofChange fnExactChainsForSpec)

/-- ITS FALSE NEIGHBOUR: 'it returns false'. Refute it at one input. -/
def fnExactChainsForWrong : ChangeSpec := { name := "fnExactChainsFor", fn := fun _ => fun
  | [d] => { results := [.lit (.bool false)], args := [d] }
  | _ => none }
def FnExactChainsForWrongFalsely : Prop := fnExactChainsForRow.holds Try.pinned (OpenSpec.ofChange fnExactChainsForWrong)

/- THE SECOND FORM. 'bulk': how many values and letters a reading holds, each counted each time it is reached (what is shared counts as often as it is met; a slice's spare places count too). A statement '..UptoSaid' is the law's where the arguments, and the package variables that the reading takes, are together of bulk at most 1048576: NARROWER than '..Said'. Prove '..Said' where nothing that the law and all that it calls make is longer than what came in: it says more and counts as full. Else prove '..UptoSaid'. A law counts once. -/
mutual
def uptoBulk {H : Type} : DataW H → Nat
  | .lit (.string bytes) => bytes.length + 1
  | .lit _ => 1
  | .nil => 1
  | .ptr d => uptoBulk d + 1
  | .slice elems spare => uptoBulkAll elems + uptoBulkAll spare + 1
  | .agg parts => uptoBulkAll parts + 1
  | .iface _ d => uptoBulk d + 1
  | .map entries => uptoBulkEntries entries + 1
  | .held _ => 1
def uptoBulkAll {H : Type} : List (DataW H) → Nat
  | [] => 0
  | d :: r => uptoBulk d + uptoBulkAll r
def uptoBulkEntries {H : Type} : List (Lit × DataW H) → Nat
  | [] => 0
  | x :: r => uptoBulkEntry x + uptoBulkEntries r
def uptoBulkEntry {H : Type} : Lit × DataW H → Nat
  | (.string bytes, d) => bytes.length + uptoBulk d + 1
  | (_, d) => uptoBulk d + 1
 end
def uptoSmall : (H : Type) → List (DataW H) → Bool := fun _ ds => decide (uptoBulkAll ds ≤ 1048576)
def OpenSpec.upto (s : _root_.Go.ChangeSpec) : _root_.Go.OpenSpec := { _root_.Go.OpenSpec.ofChange s with cond := some uptoSmall }

/-- 'laws.FnLeastAt', WHERE WHAT IT READS IS OF BULK AT MOST 1048576: true; the input reads as it did. -/
def fnLeastAtUptoRow : OpenClaim := { program := "ytkkmoaenlnibiaa", sum := "0bf77146ee62f8b0ee3f351d04aa2717916c835f34033e0d1fd787b97e0d7f36", func := "loop.example/manyvalues/laws.FnLeastAt", spec := "fnLeastAt", unfollowed := true, recurses := true, apart := false, narrowed := true }
def FnLeastAtUptoSaid : Prop := fnLeastAtUptoRow.holds Try.pinned (OpenSpec.upto fnLeastAtSpec)

/-- 'laws.FnAlwaysOk', WHERE WHAT IT READS IS OF BULK AT MOST 1048576: true; the input reads as it did. -/
def fnAlwaysOkUptoRow : OpenClaim := { program := "ytkkmoaenlnibiaa", sum := "0bf77146ee62f8b0ee3f351d04aa2717916c835f34033e0d1fd787b97e0d7f36", func := "loop.example/manyvalues/laws.FnAlwaysOk", spec := "fnAlwaysOk", unfollowed := true, recurses := true, apart := false, narrowed := true }
def FnAlwaysOkUptoSaid : Prop := fnAlwaysOkUptoRow.holds Try.pinned (OpenSpec.upto fnAlwaysOkSpec)

/-- 'laws.FnAgainstOf', WHERE WHAT IT READS IS OF BULK AT MOST 1048576: true; the input reads as it did. -/
def fnAgainstOfUptoRow : OpenClaim := { program := "ytkkmoaenlnibiaa", sum := "0bf77146ee62f8b0ee3f351d04aa2717916c835f34033e0d1fd787b97e0d7f36", func := "loop.example/manyvalues/laws.FnAgainstOf", spec := "fnAgainstOf", unfollowed := true, recurses := true, apart := false, narrowed := true }
def FnAgainstOfUptoSaid : Prop := fnAgainstOfUptoRow.holds Try.pinned (OpenSpec.upto fnAgainstOfSpec)

/-- 'laws.FnSameAt', WHERE WHAT IT READS IS OF BULK AT MOST 1048576: true; the input reads as it did. -/
def fnSameAtUptoRow : OpenClaim := { program := "ytkkmoaenlnibiaa", sum := "0bf77146ee62f8b0ee3f351d04aa2717916c835f34033e0d1fd787b97e0d7f36", func := "loop.example/manyvalues/laws.FnSameAt", spec := "fnSameAt", unfollowed := true, recurses := true, apart := false, narrowed := true }
def FnSameAtUptoSaid : Prop := fnSameAtUptoRow.holds Try.pinned (OpenSpec.upto fnSameAtSpec)

/-- 'laws.FnAxiomAt', WHERE WHAT IT READS IS OF BULK AT MOST 1048576: true; the input reads as it did. -/
def fnAxiomAtUptoRow : OpenClaim := { program := "ytkkmoaenlnibiaa", sum := "0bf77146ee62f8b0ee3f351d04aa2717916c835f34033e0d1fd787b97e0d7f36", func := "loop.example/manyvalues/laws.FnAxiomAt", spec := "fnAxiomAt", unfollowed := true, recurses := true, apart := false, narrowed := true }
def FnAxiomAtUptoSaid : Prop := fnAxiomAtUptoRow.holds Try.pinned (OpenSpec.upto fnAxiomAtSpec)

/-- 'laws.FnChainsFor', WHERE WHAT IT READS IS OF BULK AT MOST 1048576: true; the input reads as it did. -/
def fnChainsForUptoRow : OpenClaim := { program := "ytkkmoaenlnibiaa", sum := "0bf77146ee62f8b0ee3f351d04aa2717916c835f34033e0d1fd787b97e0d7f36", func := "loop.example/manyvalues/laws.FnChainsFor", spec := "fnChainsFor", unfollowed := true, recurses := true, apart := false, narrowed := true }
def FnChainsForUptoSaid : Prop := fnChainsForUptoRow.holds Try.pinned (OpenSpec.upto fnChainsForSpec)

/-- 'laws.FnExactLeastAt', WHERE WHAT IT READS IS OF BULK AT MOST 1048576: true; the input reads as it did. -/
def fnExactLeastAtUptoRow : OpenClaim := { program := "ytkkmoaenlnibiaa", sum := "0bf77146ee62f8b0ee3f351d04aa2717916c835f34033e0d1fd787b97e0d7f36", func := "loop.example/manyvalues/laws.FnExactLeastAt", spec := "fnExactLeastAt", unfollowed := true, recurses := true, apart := false, narrowed := true }
def FnExactLeastAtUptoSaid : Prop := fnExactLeastAtUptoRow.holds Try.pinned (OpenSpec.upto fnExactLeastAtSpec)

/-- 'laws.FnExactAlwaysOk', WHERE WHAT IT READS IS OF BULK AT MOST 1048576: true; the input reads as it did. -/
def fnExactAlwaysOkUptoRow : OpenClaim := { program := "ytkkmoaenlnibiaa", sum := "0bf77146ee62f8b0ee3f351d04aa2717916c835f34033e0d1fd787b97e0d7f36", func := "loop.example/manyvalues/laws.FnExactAlwaysOk", spec := "fnExactAlwaysOk", unfollowed := true, recurses := true, apart := false, narrowed := true }
def FnExactAlwaysOkUptoSaid : Prop := fnExactAlwaysOkUptoRow.holds Try.pinned (OpenSpec.upto fnExactAlwaysOkSpec)

/-- 'laws.FnExactAgainstOf', WHERE WHAT IT READS IS OF BULK AT MOST 1048576: true; the input reads as it did. -/
def fnExactAgainstOfUptoRow : OpenClaim := { program := "ytkkmoaenlnibiaa", sum := "0bf77146ee62f8b0ee3f351d04aa2717916c835f34033e0d1fd787b97e0d7f36", func := "loop.example/manyvalues/laws.FnExactAgainstOf", spec := "fnExactAgainstOf", unfollowed := true, recurses := true, apart := false, narrowed := true }
def FnExactAgainstOfUptoSaid : Prop := fnExactAgainstOfUptoRow.holds Try.pinned (OpenSpec.upto fnExactAgainstOfSpec)

/-- 'laws.FnExactSameAt', WHERE WHAT IT READS IS OF BULK AT MOST 1048576: true; the input reads as it did. -/
def fnExactSameAtUptoRow : OpenClaim := { program := "ytkkmoaenlnibiaa", sum := "0bf77146ee62f8b0ee3f351d04aa2717916c835f34033e0d1fd787b97e0d7f36", func := "loop.example/manyvalues/laws.FnExactSameAt", spec := "fnExactSameAt", unfollowed := true, recurses := true, apart := false, narrowed := true }
def FnExactSameAtUptoSaid : Prop := fnExactSameAtUptoRow.holds Try.pinned (OpenSpec.upto fnExactSameAtSpec)

/-- 'laws.FnExactAxiomAt', WHERE WHAT IT READS IS OF BULK AT MOST 1048576: true; the input reads as it did. -/
def fnExactAxiomAtUptoRow : OpenClaim := { program := "ytkkmoaenlnibiaa", sum := "0bf77146ee62f8b0ee3f351d04aa2717916c835f34033e0d1fd787b97e0d7f36", func := "loop.example/manyvalues/laws.FnExactAxiomAt", spec := "fnExactAxiomAt", apart := false, narrowed := true }
def FnExactAxiomAtUptoSaid : Prop := fnExactAxiomAtUptoRow.holds Try.pinned (OpenSpec.upto fnExactAxiomAtSpec)

/-- 'laws.FnExactChainsFor', WHERE WHAT IT READS IS OF BULK AT MOST 1048576: true; the input reads as it did. -/
def fnExactChainsForUptoRow : OpenClaim := { program := "ytkkmoaenlnibiaa", sum := "0bf77146ee62f8b0ee3f351d04aa2717916c835f34033e0d1fd787b97e0d7f36", func := "loop.example/manyvalues/laws.FnExactChainsFor", spec := "fnExactChainsFor", unfollowed := true, recurses := true, apart := false, narrowed := true }
def FnExactChainsForUptoSaid : Prop := fnExactChainsForUptoRow.holds Try.pinned (OpenSpec.upto fnExactChainsForSpec)

end Rows
end Go.Proofs.Ytkkmoaenlnibiaa
