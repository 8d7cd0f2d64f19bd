/-
  The iterators over a log: those that are meant, in order; from behind.
-/
import Derived.RangeFuncNested
import Derived.RangeFuncBound
import Derived.RangeFuncCalls
import Derived.RangeFuncLeaves
import Derived.RangeFuncBox
import Derived.Shelf.Abstract
import Derived.Shelf.RegionOpen
import Derived.OwnWalkIn
import Derived.TacticsInMore
import Derived.LoopNIn
import Derived.LoopIn
import Derived.Maps.AppendAt
import Derived.WalkSmall
import Derived.Test.YtnngkpggejmdkaaLKinds
namespace Go.Proofs.Ytnngkpggejmdkaa
open Go.RowKit Go.Shelf

attribute [local go_sem] Oper.semAt_some

theorem But.grown0 {W W' : World} (h : But [] W W') : W.grownBy W' none := ⟨h.os, h.tape, h.output, h.size, fun k hk _ => h.block k hk (by simp)⟩
theorem grown_below {W W' : World} (h : Below W.heap.size W W') : W.grownBy W' none := (But.of_below h []).grown0
/-- What a round keeps: all that lay below n, and each variable of these types. -/
def KeepT (T : List TypeId) (n : Nat) (W W' : World) : Prop := Below n W W' ∧ ∀ (k : Nat) (cs : Array Value) (t : TypeId) (z : Nat × Nat), t ∈ T → W.heap[k]? = some (Obj.cells cs t z) → W'.heap[k]? = W.heap[k]?
section
variable {T : List TypeId} {n : Nat} {W W' : World}
theorem KeepT.trans {A B C : World} (h : KeepT T n A B) (k : KeepT T n B C) : KeepT T n A C :=
  ⟨h.1.trans k.1, fun i cs t z ht hi => (k.2 i cs t z ht ((h.2 i cs t z ht hi).trans hi)).trans (h.2 i cs t z ht hi)⟩
theorem KeepT.box (h : KeepT T n W W') {B : Nat} {t : TypeId} {v : Value} (hr : Boxed W B t v) (ht : t ∈ T) : Boxed W' B t v := (h.2 _ _ _ _ ht hr).trans hr
theorem KeepT.grown {row : Option Nat} (hb : Below n W W') (h : W.grownBy W' row) (hr : ∀ (k : Nat) (cs : Array Value) (t : TypeId) (z : Nat × Nat), t ∈ T → row = some k → W.heap[k]? = some (Obj.cells cs t z) → False) : KeepT T n W W' :=
  ⟨hb, fun k cs t z ht hk => h.block k (Array.getElem?_eq_some_iff.1 hk).1 (fun e => hr k cs t z ht e.symm hk)⟩
theorem KeepT.fresh (hb : Below W.heap.size W W') (hn : n ≤ W.heap.size) : KeepT T n W W' :=
  KeepT.grown (hb.mono hn) (grown_below hb) (fun _ _ _ _ _ e => by cases e)
theorem KeepT.putObj {w : World} (hn : n ≤ w.heap.size) (W : World) (l : Nat) (o o' : Obj) (hl : w.heap.size ≤ l) (h : W.heap[l]? = some o) (ho : o.isCells = false) (hw : o.isWalk = false) : KeepT T n W (W.putObj l o') :=
  KeepT.grown (belowK_b hn W l o o' hl h ho hw) (grownBy_putObj' W l o') (fun k cs t z _ e hk => by cases e; rw [hk] at h; cases h; cases ho)
theorem But.of_low (h : Below n W W') : But (List.range' n (W.heap.size - n)) W W' :=
  ⟨h.os, h.tape, h.output, h.size, fun k hk hn => h.block k (by
    by_cases e : k < n
    · exact e
    · exact absurd (List.mem_range'_1.2 ⟨by omega, by omega⟩) hn)⟩
theorem LogAt.held {b B : Nat} {v : Value} {xs : List En} (h : LogAt W b B v xs) (hk : Below n W W') (hB : B < n) (hr : ∀ g, v.ownBlock = some g → g < n) : LogAt W' b B v xs :=
  h.but (But.of_low hk) (fun e => by have := (List.mem_range'_1.1 e).1; omega) (fun g hg e => by have := (List.mem_range'_1.1 e).1; have := hr g hg; omega)
end

set_option maxRecDepth 100000 in
set_option maxHeartbeats 1000000 in
theorem those1_in (n : Nat) (hn : 2 ≤ n) (l Bl Bf b B : Nat) (v : Value) (xs : List En) (K : Nat) (lb : Array Value) (P : En → Bool) (w0 : World) (J Jx : List En → World → Prop)
    (hY : ∀ pre (x : En) W, J pre W → pre.length < 1000 → YieldAt Fence.wide (n - 1) Try.prog l #[x.val] W fun e W' =>
      (e = .returned (.bool true) ∧ J (pre ++ [x]) W' ∧ KeepT [24, 49] w0.heap.size W W') ∨ (e = .returned (.bool false) ∧ Jx (pre ++ [x]) W'))
    (W : World) (hBl : Boxed W Bl 24 (.pointer (some ⟨B, 0, none⟩))) (hBf : Boxed W Bf 49 (.func (.func K) #[] lb))
    (hL : LogAt W b B v xs) (hB : B < w0.heap.size) (hr : ∀ g, v.ownBlock = some g → g < w0.heap.size) (hl : xs.length ≤ 1000) (hx : ∀ x ∈ xs, x.ok)
    (hM : Meant K lb P w0) (hW : Below w0.heap.size w0 W) (hJ : AbidesFrom W.heap.size J) (h0 : J [] W) :
    CallsIn Fence.wide n Try.prog 44 #[.func (.yield l) #[] #[], .pointer (some ⟨Bl, 0, none⟩), .pointer (some ⟨Bf, 0, none⟩)] W fun e W' => (∃ v, e = .returned v) ∧
      ((∃ ys, ys = xs.filter P ∧ J ys W') ∨ (∃ pre, pre <+: xs.filter P ∧ Jx pre W')) := by
  have hBc := hBl.cell
  have hcall := held_any W hL
  obtain ⟨a, c, rfl⟩ := hL.entries.slice
  refine callsIn_of_wp Try.func44 rfl trivial ?_ rfl
  simp only [Try.ntmps44, List.size_toArray, List.length_cons, List.length_nil, Nat.reduceAdd, Nat.reduceSub, Array.replicate_succ, Array.replicate_zero, List.push_toArray, List.append_toArray, List.nil_append, List.cons_append]
  gi_wp2_with (first | (refine ⟨trivial, fun _ => by omega, ?_⟩; gi_at_call 32; refine (callsIn_wide.2 hcall).mono ?_; rintro e w' ⟨rfl, rfl⟩))
  gi_loopw [9] (fun iv wr => ∃ j : Nat, j ≤ xs.length ∧ iv = .int .i64 j ∧ J ((xs.take j).filter P) wr ∧ LogAt wr b B (.slice a xs.length c) xs ∧ Boxed wr Bf 49 (.func (.func K) #[] lb) ∧ Below w0.heap.size w0 wr) (fun iv _ => xs.length - (intOf iv).toNat)
  case atStart => exact ⟨0, Nat.zero_le _, rfl, h0, hL, hBf, hW⟩
  case round =>
    clear hBc hcall hL h0 hBl hBf hW
    obtain ⟨j, hj, rfl, hJi, hL, hF, hWr⟩ := hrel
    by_cases hlt : j < xs.length
    · have hlt' : (j : Int) < (xs.length : Int) := by omega
      have q0 : (0 : Int) ≤ (j : Int) := by omega
      obtain ⟨x, hxj⟩ : ∃ x, xs[j]? = some x := ⟨_, List.getElem?_eq_getElem hlt⟩
      have hxok := hx x (List.mem_of_getElem? hxj)
      obtain ⟨bb, off, rfl, hbb, x0, x1, x2, x3, x4, x5, x6, x7, x8, x9, x10, x11, x12⟩ := hL.entries.at hxj
      have HT := Lib.hid (filt_take P hxj)
      have HP : Hid ((xs.take (j + 1)).filter P <+: xs.filter P) := Lib.hid (filt_pre P (j + 1))
      have HPL : Hid (((xs.take j).filter P).length < 1000) := Lib.hid (by
        have h1 := List.length_filter_le P (xs.take j)
        rw [List.length_take] at h1
        omega)
      have hF1 := hF.alloc (.cells #[.int .i64 x.a, .int .u8 (x.k : Int), .int .i64 x.w, .int .i64 x.t, .int .i64 x.p, .int .i64 x.c, .int .i64 x.b, .int .i64 x.q, .int .i64 x.v, .int .i64 x.u, .bool x.o, .int .i64 x.e, .int .u64 (x.s : Int)] 31)
      have hFc := hF1.cell
      clear hxj
      have hcl := hM.call (wr.alloc (.cells #[.int .i64 x.a, .int .u8 (x.k : Int), .int .i64 x.w, .int .i64 x.t, .int .i64 x.p, .int .i64 x.c, .int .i64 x.b, .int .i64 x.q, .int .i64 x.v, .int .i64 x.u, .bool x.o, .int .i64 x.e, .int .u64 (x.s : Int)] 31)) x (Below.al hWr hWr.size _) hxok
      have hen := hM.enter
      gi_wp2
      refine ⟨trivial, fun _ => by omega, (callsIn_wide.2 hcl).mono ?_⟩
      rintro e W2 ⟨rfl, hb2⟩
      have hb02 : Below wr.heap.size wr W2 := below_nx (below1 wr _) hb2 (Nat.le_refl _)
      have hX2 : EnAt W2 wr.heap.size x := (enAt_new wr x).of_block (hb2.block _ (lt_al _ _))
      have hL2 := hL.below hb02
      have hF2 := (But.of_below hb02 []).boxed hF (by simp)
      have hJ2 := hJ _ wr W2 none hJi (grown_below hb02) (fun r e => by cases e)
      have hW2 := below_nx hWr hb02 (Nat.le_refl _)
      have c0 := hX2.c0
      have c1 := hX2.c1
      have c2 := hX2.c2
      have c3 := hX2.c3
      have c4 := hX2.c4
      have c5 := hX2.c5
      have c6 := hX2.c6
      have c7 := hX2.c7
      have c8 := hX2.c8
      have c9 := hX2.c9
      have c10 := hX2.c10
      have c11 := hX2.c11
      have c12 := hX2.c12
      clear x0 x1 x2 x3 x4 x5 x6 x7 x8 x9 x10 x11 x12 hF1 hFc hcl hen hL hF hJi hX2 hWr
      cases hp : P x with
      | true =>
        have HT2 : Hid ((xs.take (j + 1)).filter P = (xs.take j).filter P ++ [x]) := Lib.hid (by rw [HT.out, if_pos hp])
        clear hp HT
        obtain ⟨fn, tmps, assign, body, hy, hR⟩ := hY _ x W2 hJ2 HPL.out
        unfold En.val at hy
        gi_wp2
        refine ⟨fun _ => by omega, hR.mono ?_⟩
        clear hy hR
        rintro e W3 (⟨rfl, hJ3, hK⟩ | ⟨rfl, hJx3⟩)
        · have hL3 := hL2.held hK.1 hB hr
          have hF3 := hK.box hF2 (by simp)
          have hW3 := hW2.trans hK.1
          clear c0 c1 c2 c3 c4 c5 c6 c7 c8 c9 c10 c11 c12
          gi_wp2
          go_roundw
          case rel => exact ⟨j + 1, by omega, by go_num, by rw [HT2.out]; exact hJ3, hL3, hF3, hW3⟩
          case measure => simp [intOf]; omega
        · clear c0 c1 c2 c3 c4 c5 c6 c7 c8 c9 c10 c11 c12
          gi_wp2
          refine bodyPost_ret (results_none rfl _ _ _) rfl ?_
          exact ⟨⟨_, rfl⟩, .inr ⟨_, by rw [← HT2.out]; exact HP.out, hJx3⟩⟩
      | false =>
        have HT2 : Hid ((xs.take (j + 1)).filter P = (xs.take j).filter P) := Lib.hid (by rw [HT.out, if_neg (by rw [hp]; decide), List.append_nil])
        clear hp HT
        gi_wp2
        refine ⟨fun _ h => (by cases h), ?_⟩
        gi_wp2
        go_roundw
        case rel => exact ⟨j + 1, by omega, by go_num, by rw [HT2.out]; exact hJ2, hL2, hF2, hW2⟩
        case measure => simp [intOf]; omega
    · obtain rfl : j = xs.length := by omega
      rw [List.take_length] at hJi
      gi_wp2
      go_end0
      exact ⟨⟨_, rfl⟩, .inl ⟨_, rfl, hJi⟩⟩

/-- The iterator over those that are meant, as a loop calls it. -/
theorem those_stops {w w0 : World} {Bl Bf b B : Nat} {v : Value} {xs : List En} {K : Nat} {lb : Array Value} {P : En → Bool} (hBl : Boxed w Bl 24 (.pointer (some ⟨B, 0, none⟩))) (hBf : Boxed w Bf 49 (.func (.func K) #[] lb))
    (hL : LogAt w0 b B v xs) (hl : xs.length ≤ 1000) (hx : ∀ x ∈ xs, x.ok) (hM : Meant K lb P w0) (hW : Below w0.heap.size w0 w) :
    SeqStopsK Fence.wide 3 Try.prog 44 #[.pointer (some ⟨Bl, 0, none⟩), .pointer (some ⟨Bf, 0, none⟩)] (fun x : En => #[x.val]) (KeepT [24, 49] w0.heap.size) (fun ys => ys = xs.filter P) (fun pre => pre <+: xs.filter P) 1000 w :=
  fun l J Jx W hW2 hJ _ hY h0 => those1_in 3 (by omega) l Bl Bf b B v xs K lb P w0 J Jx hY W ((But.of_below hW2 []).boxed hBl (by simp)) ((But.of_below hW2 []).boxed hBf (by simp))
    ((hL.below hW).below hW2) hL.lt (fun g hg => (hL.rowB hg).1) hl hx hM (below_nx hW hW2 (Nat.le_refl _)) hJ h0
end Go.Proofs.Ytnngkpggejmdkaa
