/-
  The iterator plan.so: what is to be done by those rules that are so, in order, whatever the body of the loop does that leaves what is older alone.
-/
import Derived.RangeFuncNested
import Derived.RangeFuncBound
import Derived.RangeFuncCalls
import Derived.RangeFuncLeaves
import Derived.RangeFuncBox
import Derived.Shelf.Abstract
import Derived.Shelf.RegionOpen
import Derived.OwnWalkIn
import Derived.TacticsInMore
import Derived.LoopNIn
import Derived.LoopIn
import Derived.Maps.AppendAt
import Derived.WalkSmall
import Derived.Test.YtkpnkhakjgfgfaaPKAsk
namespace Go.Proofs.Ytkpnkhakjgfgfaa
open Go.RowKit Go.Shelf
open Lq (But I64b)

attribute [local go_sem] Oper.semAt_some
theorem store_func {P : Program} {w : World} (a : Addr) (m : Mode) (k : Fn) (bs lb : Array Value) : (store a (.func k bs lb) m).run P w = stored P w a (.func k bs lb) m := run_store P w a _ m rfl
attribute [local go_sem] store_func

/-- A rule: the closure that is asked, what it is bound to, what is to be done, and what it answers. -/
structure Ask where
  k : Nat
  v : Value
  d : Int
  b : Bool
def fired (l : List Ask) : List Int := (l.filter (·.b)).map (·.d)
theorem fired_take {l : List Ask} {j : Nat} {a : Ask} (h : l[j]? = some a) : fired (l.take (j + 1)) = fired (l.take j) ++ (if a.b = true then [a.d] else []) := by
  rw [List.take_add_one, h]
  unfold fired
  rw [List.filter_append, List.map_append]
  congr 1
  by_cases e : a.b = true <;> simp [e]
theorem fired_pre (l : List Ask) (j : Nat) : fired (l.take j) <+: fired l := by
  unfold fired
  conv => rhs; rw [← List.take_append_drop j l, List.filter_append, List.map_append]
  exact List.prefix_append _ _
theorem fired_len (l : List Ask) (j : Nat) : (fired (l.take j)).length ≤ j := by
  unfold fired
  rw [List.length_map]
  have h1 := List.length_filter_le (·.b) (l.take j)
  rw [List.length_take] at h1
  omega
/-- It may be called, and answers so, from w on. -/
structure Askable (a : Ask) (w : World) : Prop where
  enter : ∀ (args : Array Value) (W : World), (callFunc a.k args).run Try.prog W = .ok (.enter a.k args) W
  call : ∀ W, Below w.heap.size w W → Calls Try.prog a.k #[a.v] W fun e w' => e = .returned (.bool a.b) ∧ Below W.heap.size W w'
def RuleRow (W : World) (g : Nat) (l : List Ask) : Prop := g < W.heap.size ∧ ∀ j a, l[j]? = some a → W.cell? ⟨g, j * 2, none⟩ = some (.func (.func a.k) #[a.v] #[]) ∧ W.cell? ⟨g, j * 2 + 1, none⟩ = some (.int .u8 a.d)
theorem RuleRow.held {W W' : World} {g : Nat} {l : List Ask} (h : RuleRow W g l) (hb : W'.heap[g]? = W.heap[g]?) (hl : W.heap.size ≤ W'.heap.size) : RuleRow W' g l :=
  ⟨Nat.lt_of_lt_of_le h.1 hl, fun j a hj => ⟨(World.cell?_of_block (w := W) (a := ⟨g, j * 2, none⟩) hb).trans (h.2 j a hj).1, (World.cell?_of_block (w := W) (a := ⟨g, j * 2 + 1, none⟩) hb).trans (h.2 j a hj).2⟩⟩
theorem RulesAt.row {W : World} {g : Nat} {a0 a1 a2 : Ask} (h : RulesAt W g a0.k a1.k a2.k a0.v a1.v a2.v a0.d a1.d a2.d) : RuleRow W g [a0, a1, a2] := by
  refine ⟨(Array.getElem?_eq_some_iff.1 h).1, ?_⟩
  intro j a hj
  have h' : W.heap[g]? = _ := h
  match j, hj with
  | 0, hj => cases hj; constructor <;> simp [World.cell?, h']
  | 1, hj => cases hj; constructor <;> simp [World.cell?, h']
  | 2, hj => cases hj; constructor <;> simp [World.cell?, h']

theorem so_any (a : Option Addr) (n c : Nat) (w : World) :
    Calls Try.prog 32 #[.slice a n c] w fun e w' => e = .returned (.func (.func 49) #[] #[.pointer (some ⟨w.heap.size, 0, none⟩)]) ∧ w' = w.alloc (.cells #[.slice a n c] 68) := by
  go_enter Try.func32, Try.ntmps32
  go_wp2_with fail
  go_ret
  exact ⟨rfl, rfl⟩

theorem grown_below {W W' : World} (h : Below W.heap.size W W') : W.grownBy W' none := ⟨h.os, h.tape, h.output, h.size, fun k hk _ => h.block k hk⟩
theorem below1 (w : World) (o : Obj) : Below w.heap.size w (w.alloc o) := (Below.refl _ w).alloc (Nat.le_refl _) o
theorem below_nx {n : Nat} {A B C : World} (h : Below n A B) (k : Below B.heap.size B C) (hn : n ≤ B.heap.size) : Below n A C := h.trans (k.mono hn)

set_option maxRecDepth 100000 in
set_option maxHeartbeats 1000000 in
theorem so1_in (n : Nat) (hn : 2 ≤ n) (l Bx g c : Nat) (xs : List Ask) (w0 : World) (J Jx : List Int → World → Prop)
    (hY : ∀ pre (x : Int) W, J pre W → pre.length < 3 → YieldAt Fence.wide (n - 1) Try.prog l #[.int .u8 x] W fun e W' =>
      (e = .returned (.bool true) ∧ J (pre ++ [x]) W' ∧ Below w0.heap.size W W') ∨ (e = .returned (.bool false) ∧ Jx (pre ++ [x]) W'))
    (W : World) (hBx : Boxed W Bx 68 (.slice (some ⟨g, 0, none⟩) xs.length c)) (hR : RuleRow W g xs) (hg : g < w0.heap.size) (hl : xs.length ≤ 3)
    (hA : ∀ a ∈ xs, Askable a w0) (hW : Below w0.heap.size w0 W) (hJ : AbidesFrom W.heap.size J) (h0 : J [] W) :
    CallsIn Fence.wide n Try.prog 49 #[.func (.yield l) #[] #[], .pointer (some ⟨Bx, 0, none⟩)] W fun e W' => (∃ v, e = .returned v) ∧
      ((∃ ys, ys = fired xs ∧ J ys W') ∨ (∃ pre, pre <+: fired xs ∧ Jx pre W')) := by
  have hBc := hBx.cell
  refine callsIn_of_wp Try.func49 rfl trivial ?_ rfl
  simp only [Try.ntmps49, List.size_toArray, List.length_cons, List.length_nil, Nat.reduceAdd, Nat.reduceSub, Array.replicate_succ, Array.replicate_zero, List.push_toArray, List.append_toArray, List.nil_append, List.cons_append]
  gi_wp2
  gi_loopw [7] (fun iv wr => ∃ j : Nat, j ≤ xs.length ∧ iv = .int .i64 j ∧ J (fired (xs.take j)) wr ∧ RuleRow wr g xs ∧ Below w0.heap.size w0 wr) (fun iv _ => xs.length - (intOf iv).toNat)
  case atStart => exact ⟨0, Nat.zero_le _, rfl, h0, hR, hW⟩
  case round =>
    clear hBc h0 hR hW
    obtain ⟨j, hj, rfl, hJi, hR, hWr⟩ := hrel
    by_cases hlt : j < xs.length
    · have hlt' : (j : Int) < (xs.length : Int) := by omega
      have q0 : (0 : Int) ≤ (j : Int) := by omega
      obtain ⟨x, hxj⟩ : ∃ x, xs[j]? = some x := ⟨_, List.getElem?_eq_getElem hlt⟩
      have hxA := hA x (List.mem_of_getElem? hxj)
      obtain ⟨c0, c1⟩ := hR.2 j x hxj
      have HT := Lib.hid (fired_take hxj)
      have HP : Hid (fired (xs.take (j + 1)) <+: fired xs) := Lib.hid (fired_pre xs (j + 1))
      have HPL : Hid ((fired (xs.take j)).length < 3) := Lib.hid (by have := fired_len xs j; omega)
      clear hxj
      obtain ⟨K, v, d, b⟩ := x
      simp only at c0 c1 HT
      have hcl := hxA.call (wr.alloc (.cells #[.func (.func K) #[v] #[], .int .u8 d] 93)) (hWr.alloc hWr.size _)
      have hen := hxA.enter
      simp only at hcl hen
      clear hxA
      gi_wp2
      refine ⟨trivial, fun _ => by omega, (callsIn_wide.2 hcl).mono ?_⟩
      rintro e W2 ⟨rfl, hb2⟩
      have hb02 : Below wr.heap.size wr W2 := below_nx (below1 wr _) hb2 (by simp)
      have hX2 : W2.heap[wr.heap.size]? = some (.cells #[.func (.func K) #[v] #[], .int .u8 d] 93 (0, 0)) := (hb2.block _ (by simp)).trans (World.alloc_heap_new wr _)
      have x1 : W2.cell? ⟨wr.heap.size, 1, none⟩ = some (.int .u8 d) := by simp [World.cell?, hX2]
      have hR2 := hR.held (hb02.block g hR.1) hb02.size
      have hJ2 := hJ _ wr W2 none hJi (grown_below hb02) (fun r e => by cases e)
      have hW2 := below_nx hWr hb02 hWr.size
      clear c0 c1 hcl hen hX2 hR hJi hWr
      cases b with
      | true =>
        have HT2 : Hid (fired (xs.take (j + 1)) = fired (xs.take j) ++ [d]) := Lib.hid (by rw [HT.out, if_pos rfl])
        clear HT
        obtain ⟨fn, tmps, assign, body, hy, hR'⟩ := hY _ d W2 hJ2 HPL.out
        gi_wp2
        refine ⟨fun _ => by omega, hR'.mono ?_⟩
        clear hy hR'
        rintro e W3 (⟨rfl, hJ3, hK⟩ | ⟨rfl, hJx3⟩)
        · have hR3 := hR2.held (hK.block g hg) hK.size
          have hW3 := hW2.trans hK
          clear x1
          gi_wp2
          go_roundw
          case rel => exact ⟨j + 1, by omega, by go_num, by rw [HT2.out]; exact hJ3, hR3, hW3⟩
          case measure => simp [intOf]; omega
        · clear x1
          gi_wp2
          refine bodyPost_ret (results_none rfl _ _ _) rfl ?_
          exact ⟨⟨_, rfl⟩, .inr ⟨_, by rw [← HT2.out]; exact HP.out, hJx3⟩⟩
      | false =>
        have HT2 : Hid (fired (xs.take (j + 1)) = fired (xs.take j)) := Lib.hid (by rw [HT.out, if_neg (by decide), List.append_nil])
        clear HT
        gi_wp2
        refine ⟨fun _ h => (by cases h), ?_⟩
        gi_wp2
        go_roundw
        case rel => exact ⟨j + 1, by omega, by go_num, by rw [HT2.out]; exact hJ2, hR2, hW2⟩
        case measure => simp [intOf]; omega
    · obtain rfl : j = xs.length := by omega
      rw [List.take_length] at hJi
      gi_wp2
      go_end0
      exact ⟨⟨_, rfl⟩, .inl ⟨_, rfl, hJi⟩⟩

/-- The iterator, as a loop calls it. -/
theorem so_stops {w w0 : World} {Bx g c : Nat} {xs : List Ask} (hBx : Boxed w Bx 68 (.slice (some ⟨g, 0, none⟩) xs.length c))
    (hR : RuleRow w g xs) (hg : g < w0.heap.size) (hl : xs.length ≤ 3) (hA : ∀ a ∈ xs, Askable a w0) (hW : Below w0.heap.size w0 w) :
    SeqStopsK Fence.wide 3 Try.prog 49 #[.pointer (some ⟨Bx, 0, none⟩)] (fun x : Int => #[.int .u8 x]) (Below w0.heap.size) (fun ys => ys = fired xs) (fun pre => pre <+: fired xs) 3 w :=
  fun l J Jx W hW2 hJ _ hY h0 => so1_in 3 (by omega) l Bx g c xs w0 J Jx hY W ((But.of_below hW2 []).boxed hBx (by simp))
    (hR.held (hW2.block g hR.1) hW2.size) hg hl hA (below_nx hW hW2 hW.size) hJ h0
end Go.Proofs.Ytkpnkhakjgfgfaa
