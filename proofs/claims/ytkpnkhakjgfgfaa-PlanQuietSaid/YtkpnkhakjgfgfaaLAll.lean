/-
  The walk of All: a loop over the iterator.
-/
import Derived.Test.YtkpnkhakjgfgfaaLIter
namespace Go.Proofs.Ytkpnkhakjgfgfaa.Lq
open Go.RowKit Go.Shelf

attribute [local go_sem] Oper.semAt_some

theorem infoInt : (Try.prog.info? 3).map (fun i => (i.zero, i.size, i.bytes)) = some (some (.int .i64 0), 1, 8) := by kernel_rfl
theorem owns_slice {w : World} {base : Nat} {e : TypeId} {size : Nat} {v : Value} {k : Nat} {xs : List Value} (h : w.ownsRow base e size v k xs) : ∃ a n c, v = .slice a n c := by
  rcases h.2 with ⟨rfl, _⟩ | ⟨g, cap, _, rfl, _⟩
  · exact ⟨_, _, _, rfl⟩
  · exact ⟨_, _, _, rfl⟩
def I64 (xs : List Int) : List Value := xs.map fun x => Value.int .i64 x
theorem I64_snoc (xs : List Int) (x : Int) : I64 (xs ++ [x]) = I64 xs ++ [.int .i64 x] := by simp [I64]
theorem I64_len (xs : List Int) : (I64 xs).length = xs.length := by simp [I64]

theorem keepQ_append {W w1 : World} {n₀ B : Nat} {v v' : Value} {k : Nat} {xs : List Value} {tmp : Obj} (hn : n₀ ≤ W.heap.size) (hnB : n₀ ≤ B) (hrow : W.ownsRow n₀ 3 1 v k xs) (hg : (W.alloc tmp).grownBy w1 v.ownBlock) {u : Value} (hb : Boxed w1 B 61 u) : KeepQ n₀ W (w1.setCell ⟨B, 0, none⟩ v') := by
  have hg0 := World.grownBy_alloc W tmp none
  have b1 : Below n₀ W (W.alloc tmp) := (Below.refl _ _).alloc hn tmp
  have b2 : Below n₀ (W.alloc tmp) w1 := (Below.refl _ _).grown hg (Nat.le_trans hn (World.grownBy_alloc W tmp none).size) (fun g e => (hrow.lt g e).1)
  have b3 : Below n₀ w1 (w1.setCell ⟨B, 0, none⟩ v') := (Below.refl _ _).setCell hnB v'
  refine ((KeepQ.grown b1 hg0 (fun _ _ _ e => by cases e)).trans (KeepQ.grown b2 hg fun k' cs z e hk => ?_)).trans (KeepQ.grown b3 (grownBy_setCell' w1 B v') fun k' cs z e hk => ?_)
  · rcases (hrow.alloc tmp).2 with ⟨rfl, _⟩ | ⟨g, cap, cur, rfl, _, hgb, _⟩
    · simp [Value.ownBlock] at e
    · obtain rfl : g = k' := by simpa [Value.ownBlock] using e
      rw [hgb] at hk; cases hk
  · cases e
    rw [show w1.heap[B]? = _ from hb] at hk; cases hk

end Go.Proofs.Ytkpnkhakjgfgfaa.Lq
