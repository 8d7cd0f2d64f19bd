/-
  No cell of these rows narrows 'for every input' (looked for: loops, veiled, ifaces, maps, wideKeys, modest, calm, conditions, laid).
  DERIVED. THE GIVEN ROWS OF THIS SEAT. 3 by the template 'for every input the law returns true; each argument reads behind the call as it read before'; 0 by the template 'total and deterministic' (their statements: YtbbgeopgigeioaaTotals.lean).
  GIVEN WITH THE SEED: the statements are not yours to turn. If you find one false, say at which input.
  Laid BY PROGRAM, IN A SANDBOX (cutbox-rows.mjs): the forced cells as the released guide's own fill.sh prints them over the translation dc9efeda1b690887… (all of the seat's roots in one cut). By AI agents, Wed Nov 11 2026. No macro, syntax, notation, axiom, sorry.
-/
import Derived.Test.YtbbgeopgigeioaaChecked
import GoSem.Claim
import GoSem.ClaimJoined
import GoSem.ClaimMapViews
import Derived.JoinedTies
import Derived.KernelRfl
namespace Go.Proofs.Ytbbgeopgigeioaa
/- THE CELL 'sum', in the pinned program and in every row, IS THE sha256 OF THE DUMP (.gsa) THAT YtbbgeopgigeioaaProg.lean LOADS. Nothing in Lean hashes anything: it is a label: what it is worth is what the hold of that sum in a sandbox is worth. -/
noncomputable def Try.pinned : Pinned := { name := "ytbbgeopgigeioaa", sum := "dc9efeda1b690887e0b60fc5f967056f66349dfc3b2d1c41727a046205a7b34d", checked := Try.checked }
namespace Rows
def none {H : Type} : Left H := { results := [], args := [] }

/-- 'tollbarlaw11.ProgNext': WHATEVER THE INPUT: true; the input reads as it did. -/
def progNextSpec : ChangeSpec := { name := "progNext", fn := fun _ => fun
  | [d] => { results := [.lit (.bool true)], args := [d] }
  | _ => none }
def progNextRow : OpenClaim := { program := "ytbbgeopgigeioaa", sum := "dc9efeda1b690887e0b60fc5f967056f66349dfc3b2d1c41727a046205a7b34d", func := "tollbar/tollbarlaw11.ProgNext", spec := "progNext", unfollowed := true, recurses := true, apart := false }
def ProgNextSaid : Prop := progNextRow.holds Try.pinned (OpenSpec.ofChange progNextSpec)

/-- ITS FALSE NEIGHBOUR: 'it returns false'. Refute it at one input. -/
def progNextWrong : ChangeSpec := { name := "progNext", fn := fun _ => fun
  | [d] => { results := [.lit (.bool false)], args := [d] }
  | _ => none }
def ProgNextWrongFalsely : Prop := progNextRow.holds Try.pinned (OpenSpec.ofChange progNextWrong)

/-- 'tollbarlaw11.ProgGrows': WHATEVER THE INPUT: true; the input reads as it did. -/
def progGrowsSpec : ChangeSpec := { name := "progGrows", fn := fun _ => fun
  | [d1, d2] => { results := [.lit (.bool true)], args := [d1, d2] }
  | _ => none }
def progGrowsRow : OpenClaim := { program := "ytbbgeopgigeioaa", sum := "dc9efeda1b690887e0b60fc5f967056f66349dfc3b2d1c41727a046205a7b34d", func := "tollbar/tollbarlaw11.ProgGrows", spec := "progGrows", unfollowed := true, recurses := true, apart := false }
def ProgGrowsSaid : Prop := progGrowsRow.holds Try.pinned (OpenSpec.ofChange progGrowsSpec)

/-- ITS FALSE NEIGHBOUR: 'it returns false'. Refute it at one input. -/
def progGrowsWrong : ChangeSpec := { name := "progGrows", fn := fun _ => fun
  | [d1, d2] => { results := [.lit (.bool false)], args := [d1, d2] }
  | _ => none }
def ProgGrowsWrongFalsely : Prop := progGrowsRow.holds Try.pinned (OpenSpec.ofChange progGrowsWrong)

/-- 'tollbarlaw11.ProgCopy': WHATEVER THE INPUT: true; the input reads as it did. -/
def progCopySpec : ChangeSpec := { name := "progCopy", fn := fun _ => fun
  | [d] => { results := [.lit (.bool true)], args := [d] }
  | _ => none }
def progCopyRow : OpenClaim := { program := "ytbbgeopgigeioaa", sum := "dc9efeda1b690887e0b60fc5f967056f66349dfc3b2d1c41727a046205a7b34d", func := "tollbar/tollbarlaw11.ProgCopy", spec := "progCopy", unfollowed := true, recurses := true, apart := false }
def ProgCopySaid : Prop := progCopyRow.holds Try.pinned (OpenSpec.ofChange progCopySpec)

/-- ITS FALSE NEIGHBOUR: 'it returns false'. Refute it at one input. -/
def progCopyWrong : ChangeSpec := { name := "progCopy", fn := fun _ => fun
  | [d] => { results := [.lit (.bool false)], args := [d] }
  | _ => none }
def ProgCopyWrongFalsely : Prop := progCopyRow.holds Try.pinned (OpenSpec.ofChange progCopyWrong)

/- THE SECOND FORM. 'bulk': how many values and letters a reading holds, each counted each time it is reached (what is shared counts as often as it is met; a slice's spare places count too). A statement '..UptoSaid' is the law's where the arguments, and the package variables that the reading takes, are together of bulk at most 1048576: NARROWER than '..Said'. Prove '..Said' where nothing that the law and all that it calls make is longer than what came in: it says more and counts as full. Else prove '..UptoSaid'. A law counts once. -/
mutual
def uptoBulk {H : Type} : DataW H → Nat
  | .lit (.string bytes) => bytes.length + 1
  | .lit _ => 1
  | .nil => 1
  | .ptr d => uptoBulk d + 1
  | .slice elems spare => uptoBulkAll elems + uptoBulkAll spare + 1
  | .agg parts => uptoBulkAll parts + 1
  | .iface _ d => uptoBulk d + 1
  | .map entries => uptoBulkEntries entries + 1
  | .held _ => 1
def uptoBulkAll {H : Type} : List (DataW H) → Nat
  | [] => 0
  | d :: r => uptoBulk d + uptoBulkAll r
def uptoBulkEntries {H : Type} : List (Lit × DataW H) → Nat
  | [] => 0
  | x :: r => uptoBulkEntry x + uptoBulkEntries r
def uptoBulkEntry {H : Type} : Lit × DataW H → Nat
  | (.string bytes, d) => bytes.length + uptoBulk d + 1
  | (_, d) => uptoBulk d + 1
 end
def uptoSmall : (H : Type) → List (DataW H) → Bool := fun _ ds => decide (uptoBulkAll ds ≤ 1048576)
def OpenSpec.upto (s : _root_.Go.ChangeSpec) : _root_.Go.OpenSpec := { _root_.Go.OpenSpec.ofChange s with cond := some uptoSmall }

/-- 'tollbarlaw11.ProgNext', WHERE WHAT IT READS IS OF BULK AT MOST 1048576: true; the input reads as it did. -/
def progNextUptoRow : OpenClaim := { program := "ytbbgeopgigeioaa", sum := "dc9efeda1b690887e0b60fc5f967056f66349dfc3b2d1c41727a046205a7b34d", func := "tollbar/tollbarlaw11.ProgNext", spec := "progNext", unfollowed := true, recurses := true, apart := false, narrowed := true }
def ProgNextUptoSaid : Prop := progNextUptoRow.holds Try.pinned (OpenSpec.upto progNextSpec)

/-- 'tollbarlaw11.ProgGrows', WHERE WHAT IT READS IS OF BULK AT MOST 1048576: true; the input reads as it did. -/
def progGrowsUptoRow : OpenClaim := { program := "ytbbgeopgigeioaa", sum := "dc9efeda1b690887e0b60fc5f967056f66349dfc3b2d1c41727a046205a7b34d", func := "tollbar/tollbarlaw11.ProgGrows", spec := "progGrows", unfollowed := true, recurses := true, apart := false, narrowed := true }
def ProgGrowsUptoSaid : Prop := progGrowsUptoRow.holds Try.pinned (OpenSpec.upto progGrowsSpec)

/-- 'tollbarlaw11.ProgCopy', WHERE WHAT IT READS IS OF BULK AT MOST 1048576: true; the input reads as it did. -/
def progCopyUptoRow : OpenClaim := { program := "ytbbgeopgigeioaa", sum := "dc9efeda1b690887e0b60fc5f967056f66349dfc3b2d1c41727a046205a7b34d", func := "tollbar/tollbarlaw11.ProgCopy", spec := "progCopy", unfollowed := true, recurses := true, apart := false, narrowed := true }
def ProgCopyUptoSaid : Prop := progCopyUptoRow.holds Try.pinned (OpenSpec.upto progCopySpec)

end Rows
end Go.Proofs.Ytbbgeopgigeioaa
