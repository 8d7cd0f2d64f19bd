/-
  What the walks lean on.
-/
import Derived.Test.YtamkmmpockmpfaaGMath
import Derived.Test.YtamkmmpockmpfaaRows
import Derived.WalkKit
import Derived.WalkLawsBesides
import Derived.WalkSpells
import Derived.Outline
import Derived.Below
import Derived.RangeFuncBox
import Derived.BigQuiet
import Derived.OwnWalk
import Derived.StillTailTactics
import Derived.Laws.StructEq
import Derived.Lib.SliceRun
import Derived.Lib.SmallJoins
namespace Go.Proofs.Ytamkmmpockmpfaa
open Go.RowKit

theorem below_next {n : Nat} {w w1 w2 : World} (h : Below n w w1) (k : Below w1.heap.size w1 w2) (hn : n ≤ w.heap.size) : Below n w w2 :=
  ⟨k.os.trans h.os, k.tape.trans h.tape, k.output.trans h.output, Nat.le_trans h.size k.size, fun i hi => (k.block i (Nat.lt_of_lt_of_le hi (Nat.le_trans hn h.size))).trans (h.block i hi)⟩
theorem below_drewN {n : Nat} {w w1 : World} (h : Below n w w1) (q : Nat) : Below n w (w1.drewN q) := ⟨h.os, h.tape, h.output, h.size, h.block⟩
theorem ret_v {a b : Value} (h : a = b) : Ending.returned a = .returned b := by rw [h]

end Go.Proofs.Ytamkmmpockmpfaa
