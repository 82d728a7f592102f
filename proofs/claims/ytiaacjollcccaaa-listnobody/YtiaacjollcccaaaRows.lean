/-
  No cell of these rows narrows 'for every input' (looked for: loops, veiled, ifaces, maps, wideKeys, modest, calm, conditions, laid).
  DERIVED. THE GIVEN ROWS OF THIS SEAT. 5 by the template 'for every input the law returns true; each argument reads behind the call as it read before'; 0 by the template 'total and deterministic' (their statements: YtiaacjollcccaaaTotals.lean).
  GIVEN WITH THE SEED: the statements are not yours to turn. If you find one false, say at which input.
  Laid BY PROGRAM, IN A SANDBOX (cutbox-rows.mjs): the forced cells as the released guide's own fill.sh prints them over the translation 7ae577a13757d1e9… (all of the seat's roots in one cut). By AI agents, Wed Nov 11 2026. No macro, syntax, notation, axiom, sorry.
-/
import Derived.Test.YtiaacjollcccaaaChecked
import GoSem.Claim
import GoSem.ClaimJoined
import GoSem.ClaimMapViews
import Derived.JoinedTies
import Derived.KernelRfl
namespace Go.Proofs.Ytiaacjollcccaaa
/- THE CELL 'sum', in the pinned program and in every row, IS THE sha256 OF THE DUMP (.gsa) THAT YtiaacjollcccaaaProg.lean LOADS. Nothing in Lean hashes anything: it is a label: what it is worth is what the hold of that sum in a sandbox is worth. -/
noncomputable def Try.pinned : Pinned := { name := "ytiaacjollcccaaa", sum := "7ae577a13757d1e99f3e3ef898bc1928d0e1686299dbca4986233c1c62219dbd", checked := Try.checked }
namespace Rows
def none {H : Type} : Left H := { results := [], args := [] }

/-- 'rampartlaw05.ListRuns': WHATEVER THE INPUT: true; the input reads as it did. -/
def listRunsSpec : ChangeSpec := { name := "listRuns", fn := fun _ => fun
  | [d1, d2, d3] => { results := [.lit (.bool true)], args := [d1, d2, d3] }
  | _ => none }
def listRunsRow : OpenClaim := { program := "ytiaacjollcccaaa", sum := "7ae577a13757d1e99f3e3ef898bc1928d0e1686299dbca4986233c1c62219dbd", func := "rampart/rampartlaw05.ListRuns", spec := "listRuns", unfollowed := true, recurses := true, apart := false }
def ListRunsSaid : Prop := listRunsRow.holds Try.pinned (OpenSpec.ofChange listRunsSpec)

/-- ITS FALSE NEIGHBOUR: 'it returns false'. Refute it at one input. -/
def listRunsWrong : ChangeSpec := { name := "listRuns", fn := fun _ => fun
  | [d1, d2, d3] => { results := [.lit (.bool false)], args := [d1, d2, d3] }
  | _ => none }
def ListRunsWrongFalsely : Prop := listRunsRow.holds Try.pinned (OpenSpec.ofChange listRunsWrong)

/-- 'rampartlaw05.ListStops': WHATEVER THE INPUT: true; the input reads as it did. -/
def listStopsSpec : ChangeSpec := { name := "listStops", fn := fun _ => fun
  | [d1, d2, d3] => { results := [.lit (.bool true)], args := [d1, d2, d3] }
  | _ => none }
def listStopsRow : OpenClaim := { program := "ytiaacjollcccaaa", sum := "7ae577a13757d1e99f3e3ef898bc1928d0e1686299dbca4986233c1c62219dbd", func := "rampart/rampartlaw05.ListStops", spec := "listStops", unfollowed := true, recurses := true, apart := false }
def ListStopsSaid : Prop := listStopsRow.holds Try.pinned (OpenSpec.ofChange listStopsSpec)

/-- ITS FALSE NEIGHBOUR: 'it returns false'. Refute it at one input. -/
def listStopsWrong : ChangeSpec := { name := "listStops", fn := fun _ => fun
  | [d1, d2, d3] => { results := [.lit (.bool false)], args := [d1, d2, d3] }
  | _ => none }
def ListStopsWrongFalsely : Prop := listStopsRow.holds Try.pinned (OpenSpec.ofChange listStopsWrong)

/-- 'rampartlaw05.ListOnce': WHATEVER THE INPUT: true; the input reads as it did. -/
def listOnceSpec : ChangeSpec := { name := "listOnce", fn := fun _ => fun
  | [d] => { results := [.lit (.bool true)], args := [d] }
  | _ => none }
def listOnceRow : OpenClaim := { program := "ytiaacjollcccaaa", sum := "7ae577a13757d1e99f3e3ef898bc1928d0e1686299dbca4986233c1c62219dbd", func := "rampart/rampartlaw05.ListOnce", spec := "listOnce", unfollowed := true, recurses := true, apart := false }
def ListOnceSaid : Prop := listOnceRow.holds Try.pinned (OpenSpec.ofChange listOnceSpec)

/-- ITS FALSE NEIGHBOUR: 'it returns false'. Refute it at one input. -/
def listOnceWrong : ChangeSpec := { name := "listOnce", fn := fun _ => fun
  | [d] => { results := [.lit (.bool false)], args := [d] }
  | _ => none }
def ListOnceWrongFalsely : Prop := listOnceRow.holds Try.pinned (OpenSpec.ofChange listOnceWrong)

/-- 'rampartlaw05.ListQueues': WHATEVER THE INPUT: true; the input reads as it did. -/
def listQueuesSpec : ChangeSpec := { name := "listQueues", fn := fun _ => fun
  | [d] => { results := [.lit (.bool true)], args := [d] }
  | _ => none }
def listQueuesRow : OpenClaim := { program := "ytiaacjollcccaaa", sum := "7ae577a13757d1e99f3e3ef898bc1928d0e1686299dbca4986233c1c62219dbd", func := "rampart/rampartlaw05.ListQueues", spec := "listQueues", unfollowed := true, recurses := true, apart := false }
def ListQueuesSaid : Prop := listQueuesRow.holds Try.pinned (OpenSpec.ofChange listQueuesSpec)

/-- ITS FALSE NEIGHBOUR: 'it returns false'. Refute it at one input. -/
def listQueuesWrong : ChangeSpec := { name := "listQueues", fn := fun _ => fun
  | [d] => { results := [.lit (.bool false)], args := [d] }
  | _ => none }
def ListQueuesWrongFalsely : Prop := listQueuesRow.holds Try.pinned (OpenSpec.ofChange listQueuesWrong)

/-- 'rampartlaw05.ListNobody': WHATEVER THE INPUT: true; the input reads as it did. -/
def listNobodySpec : ChangeSpec := { name := "listNobody", fn := fun _ => fun
  | [d] => { results := [.lit (.bool true)], args := [d] }
  | _ => none }
def listNobodyRow : OpenClaim := { program := "ytiaacjollcccaaa", sum := "7ae577a13757d1e99f3e3ef898bc1928d0e1686299dbca4986233c1c62219dbd", func := "rampart/rampartlaw05.ListNobody", spec := "listNobody", unfollowed := true, recurses := true, apart := false }
def ListNobodySaid : Prop := listNobodyRow.holds Try.pinned (OpenSpec.ofChange listNobodySpec)

/-- ITS FALSE NEIGHBOUR: 'it returns false'. Refute it at one input. -/
def listNobodyWrong : ChangeSpec := { name := "listNobody", fn := fun _ => fun
  | [d] => { results := [.lit (.bool false)], args := [d] }
  | _ => none }
def ListNobodyWrongFalsely : Prop := listNobodyRow.holds Try.pinned (OpenSpec.ofChange listNobodyWrong)

/- THE SECOND FORM. 'bulk': how many values and letters a reading holds, each counted each time it is reached (what is shared counts as often as it is met; a slice's spare places count too). A statement '..UptoSaid' is the law's where the arguments, and the package variables that the reading takes, are together of bulk at most 1048576: NARROWER than '..Said'. Prove '..Said' where nothing that the law and all that it calls make is longer than what came in: it says more and counts as full. Else prove '..UptoSaid'. A law counts once. -/
mutual
def uptoBulk {H : Type} : DataW H → Nat
  | .lit (.string bytes) => bytes.length + 1
  | .lit _ => 1
  | .nil => 1
  | .ptr d => uptoBulk d + 1
  | .slice elems spare => uptoBulkAll elems + uptoBulkAll spare + 1
  | .agg parts => uptoBulkAll parts + 1
  | .iface _ d => uptoBulk d + 1
  | .map entries => uptoBulkEntries entries + 1
  | .held _ => 1
def uptoBulkAll {H : Type} : List (DataW H) → Nat
  | [] => 0
  | d :: r => uptoBulk d + uptoBulkAll r
def uptoBulkEntries {H : Type} : List (Lit × DataW H) → Nat
  | [] => 0
  | x :: r => uptoBulkEntry x + uptoBulkEntries r
def uptoBulkEntry {H : Type} : Lit × DataW H → Nat
  | (.string bytes, d) => bytes.length + uptoBulk d + 1
  | (_, d) => uptoBulk d + 1
 end
def uptoSmall : (H : Type) → List (DataW H) → Bool := fun _ ds => decide (uptoBulkAll ds ≤ 1048576)
def OpenSpec.upto (s : _root_.Go.ChangeSpec) : _root_.Go.OpenSpec := { _root_.Go.OpenSpec.ofChange s with cond := some uptoSmall }

/-- 'rampartlaw05.ListRuns', WHERE WHAT IT READS IS OF BULK AT MOST 1048576: true; the input reads as it did. -/
def listRunsUptoRow : OpenClaim := { program := "ytiaacjollcccaaa", sum := "7ae577a13757d1e99f3e3ef898bc1928d0e1686299dbca4986233c1c62219dbd", func := "rampart/rampartlaw05.ListRuns", spec := "listRuns", unfollowed := true, recurses := true, apart := false, narrowed := true }
def ListRunsUptoSaid : Prop := listRunsUptoRow.holds Try.pinned (OpenSpec.upto listRunsSpec)

/-- 'rampartlaw05.ListStops', WHERE WHAT IT READS IS OF BULK AT MOST 1048576: true; the input reads as it did. -/
def listStopsUptoRow : OpenClaim := { program := "ytiaacjollcccaaa", sum := "7ae577a13757d1e99f3e3ef898bc1928d0e1686299dbca4986233c1c62219dbd", func := "rampart/rampartlaw05.ListStops", spec := "listStops", unfollowed := true, recurses := true, apart := false, narrowed := true }
def ListStopsUptoSaid : Prop := listStopsUptoRow.holds Try.pinned (OpenSpec.upto listStopsSpec)

/-- 'rampartlaw05.ListOnce', WHERE WHAT IT READS IS OF BULK AT MOST 1048576: true; the input reads as it did. -/
def listOnceUptoRow : OpenClaim := { program := "ytiaacjollcccaaa", sum := "7ae577a13757d1e99f3e3ef898bc1928d0e1686299dbca4986233c1c62219dbd", func := "rampart/rampartlaw05.ListOnce", spec := "listOnce", unfollowed := true, recurses := true, apart := false, narrowed := true }
def ListOnceUptoSaid : Prop := listOnceUptoRow.holds Try.pinned (OpenSpec.upto listOnceSpec)

/-- 'rampartlaw05.ListQueues', WHERE WHAT IT READS IS OF BULK AT MOST 1048576: true; the input reads as it did. -/
def listQueuesUptoRow : OpenClaim := { program := "ytiaacjollcccaaa", sum := "7ae577a13757d1e99f3e3ef898bc1928d0e1686299dbca4986233c1c62219dbd", func := "rampart/rampartlaw05.ListQueues", spec := "listQueues", unfollowed := true, recurses := true, apart := false, narrowed := true }
def ListQueuesUptoSaid : Prop := listQueuesUptoRow.holds Try.pinned (OpenSpec.upto listQueuesSpec)

/-- 'rampartlaw05.ListNobody', WHERE WHAT IT READS IS OF BULK AT MOST 1048576: true; the input reads as it did. -/
def listNobodyUptoRow : OpenClaim := { program := "ytiaacjollcccaaa", sum := "7ae577a13757d1e99f3e3ef898bc1928d0e1686299dbca4986233c1c62219dbd", func := "rampart/rampartlaw05.ListNobody", spec := "listNobody", unfollowed := true, recurses := true, apart := false, narrowed := true }
def ListNobodyUptoSaid : Prop := listNobodyUptoRow.holds Try.pinned (OpenSpec.upto listNobodySpec)

end Rows
end Go.Proofs.Ytiaacjollcccaaa
