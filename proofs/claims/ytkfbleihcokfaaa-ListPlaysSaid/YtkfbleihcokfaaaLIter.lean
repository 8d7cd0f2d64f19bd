/-
  The iterator list.numbers: its contract: the numbers of the queue, in order, whatever the body of the loop does that leaves the queue alone.
-/
import Derived.RangeFuncNested
import Derived.RangeFuncBound
import Derived.RangeFuncCalls
import Derived.RangeFuncLeaves
import Derived.RangeFuncBox
import Derived.Shelf.Abstract
import Derived.Shelf.RegionOpen
import Derived.OwnWalkIn
import Derived.TacticsInMore
import Derived.LoopNIn
import Derived.LoopIn
import Derived.Maps.AppendAt
import Derived.WalkSmall
import Derived.Test.YtkfbleihcokfaaaLDo
namespace Go.Proofs.Ytkfbleihcokfaaa
open Go.RowKit Go.Shelf

attribute [local go_sem] Oper.semAt_some

theorem But.grown0 {W W' : World} (h : But [] W W') : W.grownBy W' none := ⟨h.os, h.tape, h.output, h.size, fun k hk _ => h.block k hk (by simp)⟩
/-- What a round keeps: all that lay below n, and each variable that points to a queue. -/
def KeepQ (n : Nat) (W W' : World) : Prop := Below n W W' ∧ ∀ (k : Nat) (cs : Array Value) (z : Nat × Nat), W.heap[k]? = some (Obj.cells cs 24 z) → W'.heap[k]? = W.heap[k]?
theorem KeepQ.trans {n : Nat} {A B C : World} (h : KeepQ n A B) (k : KeepQ n B C) : KeepQ n A C :=
  ⟨h.1.trans k.1, fun i cs z hi => (k.2 i cs z ((h.2 i cs z hi).trans hi)).trans (h.2 i cs z hi)⟩
theorem Que.same {W W' : World} {B M : Nat} {xs : List Int} (h : Que W B M xs) (hB : W'.heap[B]? = W.heap[B]?) (hM : W'.heap[M]? = W.heap[M]?) : Que W' B M xs := by
  obtain ⟨g, f, l, h, k⟩ := h
  exact ⟨g, f, l, ⟨hB.trans h.head, h.map.of_block hM⟩, k⟩
theorem KeepQ.que {n : Nat} {W W' : World} (h : KeepQ n W W') {B M : Nat} {xs : List Int} (hQ : Que W B M xs) (hB : B < n) (hM : M < n) : Que W' B M xs :=
  hQ.same (h.1.block B hB) (h.1.block M hM)
theorem KeepQ.box {n : Nat} {W W' : World} (h : KeepQ n W W') {B : Nat} {v : Value} (hr : Boxed W B 24 v) : Boxed W' B 24 v :=
  (h.2 _ _ _ hr).trans hr
theorem KeepQ.grown {n : Nat} {W W' : World} {row : Option Nat} (hb : Below n W W') (h : W.grownBy W' row) (hr : ∀ (k : Nat) (cs : Array Value) (z : Nat × Nat), row = some k → W.heap[k]? = some (Obj.cells cs 24 z) → False) : KeepQ n W W' :=
  ⟨hb, fun k cs z hk => h.block k (Array.getElem?_eq_some_iff.1 hk).1 (fun e => hr k cs z e.symm hk)⟩
theorem KeepQ.putObj {n : Nat} {w : World} (hn : n ≤ w.heap.size) (W : World) (l : Nat) (o o' : Obj) (hl : w.heap.size ≤ l) (h : W.heap[l]? = some o) (ho : o.isCells = false) (hw : o.isWalk = false) : KeepQ n W (W.putObj l o') :=
  KeepQ.grown (belowK_b hn W l o o' hl h ho hw) (grownBy_putObj' W l o') (fun k cs z e hk => by cases e; rw [hk] at h; cases h; cases ho)

theorem nextE_get {xs : List Int} (hn : xs.Nodup) {j : Nat} {i : Int} (hj : xs[j]? = some i) : nextE xs i = xs[j + 1]? := by
  have : xs.idxOf? i = some j := by
    obtain ⟨h1, h2⟩ := List.getElem?_eq_some_iff.1 hj
    rw [List.idxOf?, List.findIdx?_eq_some_iff_getElem]
    refine ⟨h1, by simp [h2], fun k hk => ?_⟩
    have hlt : k < xs.length := by omega
    have := (List.pairwise_iff_getElem.1 hn) k j hlt h1 hk
    simp only [beq_iff_eq]
    rw [← h2]
    exact fun e => this e
  rw [nextE, this]

theorem numbers_any (p : Option Addr) (w : World) :
    Calls Try.prog 27 #[.pointer p] w fun e w' => e = .returned (.func (.func 30) #[] #[.pointer (some ⟨w.heap.size, 0, none⟩)]) ∧ w' = w.alloc (.cells #[.pointer p] 24) := by
  go_enter Try.func27, Try.ntmps27
  go_wp2_with fail
  go_ret
  exact ⟨rfl, rfl⟩

theorem take_snocI (xs : List Int) (k : Nat) (hk : k < xs.length) : xs.take (k + 1) = xs.take k ++ [xs[k]?.getD 0] := by
  rw [List.take_add_one, List.getElem?_eq_getElem hk]; rfl

/-- The measure of the iterator's loop. -/
def measQ (xs : List Int) (iv bv : Value) : Nat := match bv with
  | .bool true => xs.length - (xs.idxOf? (intOf iv)).getD 0
  | _ => 0
theorem measQ_less {xs : List Int} (hn : xs.Nodup) {j : Nat} {i : Int} (hj : xs[j]? = some i) : measQ xs (.int .i64 ((xs[j + 1]?).getD 0)) (.bool (decide (j + 1 < xs.length))) < measQ xs (.int .i64 i) (.bool true) := by
  have idx : ∀ {j : Nat} {i : Int}, xs[j]? = some i → xs.idxOf? i = some j := fun {j i} hj => by
    obtain ⟨h1, h2⟩ := List.getElem?_eq_some_iff.1 hj
    rw [List.idxOf?, List.findIdx?_eq_some_iff_getElem]
    refine ⟨h1, by simp [h2], fun k hk => ?_⟩
    have hlt : k < xs.length := by omega
    have := (List.pairwise_iff_getElem.1 hn) k j hlt h1 hk
    simp only [beq_iff_eq]
    rw [← h2]
    exact fun e => this e
  have hlt := (List.getElem?_eq_some_iff.1 hj).1
  by_cases h : j + 1 < xs.length
  · have h2 := List.getElem?_eq_getElem h
    simp only [measQ, intOf, h, decide_true, idx hj, h2, Option.getD_some, idx h2]
    omega
  · simp only [measQ, intOf, h, decide_false, idx hj, Option.getD_some]
    omega

set_option maxRecDepth 100000 in
set_option maxHeartbeats 1000000 in
theorem numbers1_in (n : Nat) (hn : 2 ≤ n) (m l Bn B M : Nat) (xs : List Int) (J Jx : List Int → World → Prop)
    (hY : ∀ pre (x : Int) W, J pre W → pre.length < 1024 → YieldAt Fence.wide (n - 1) Try.prog l #[.int .i64 x] W fun e W' =>
      (e = .returned (.bool true) ∧ J (pre ++ [x]) W' ∧ KeepQ m W W') ∨ (e = .returned (.bool false) ∧ Jx (pre ++ [x]) W'))
    (W : World) (hBn : Boxed W Bn 24 (.pointer (some ⟨B, 0, none⟩))) (hQ : Que W B M xs) (hBm : B < m) (hMm : M < m) (hJ : AbidesFrom W.heap.size J) (h0 : J [] W) :
    CallsIn Fence.wide n Try.prog 30 #[.func (.yield l) #[] #[], .pointer (some ⟨Bn, 0, none⟩)] W fun e W' => (∃ v, e = .returned v) ∧
      ((∃ ys, ys = xs ∧ J ys W') ∨ (∃ pre, pre <+: xs ∧ Jx pre W')) := by
  have hBc := hBn.cell
  have hcall := front_any W hQ
  have HL := Lib.hid hQ.le
  have HN := Lib.hid hQ.nd
  have HR := Lib.hid hQ.rng
  have e0 : (xs[0]?).isSome = decide (0 < xs.length) := by cases xs <;> simp
  rw [e0] at hcall
  clear e0
  refine callsIn_of_wp Try.func30 rfl trivial ?_ rfl
  simp only [Try.ntmps30, List.size_toArray, List.length_cons, List.length_nil, Nat.reduceAdd, Nat.reduceSub, Array.replicate_succ, Array.replicate_zero, List.push_toArray, List.append_toArray, List.nil_append, List.cons_append]
  generalize hx0 : (xs[0]?).getD 0 = x0 at hcall
  generalize hb0 : decide (0 < xs.length) = b0 at hcall
  gi_wp2_with (first | (refine ⟨trivial, fun _ => by omega, ?_⟩; gi_at_call 16; refine (callsIn_wide.2 hcall).mono ?_; rintro e w' ⟨rfl, rfl⟩))
  subst hx0 hb0
  gi_loopw [3, 4] (fun iv bv wr => ∃ j : Nat, j ≤ xs.length ∧ iv = .int .i64 ((xs[j]?).getD 0) ∧ bv = .bool (decide (j < xs.length)) ∧ J (xs.take j) wr ∧ Que wr B M xs ∧ Boxed wr Bn 24 (.pointer (some ⟨B, 0, none⟩))) (fun iv bv _ => measQ xs iv bv)
  case atStart => exact ⟨0, Nat.zero_le _, rfl, rfl, h0, hQ, hBn⟩
  case round =>
    obtain ⟨j, hj, rfl, rfl, hJi, hQr, hB⟩ := hrel
    clear hBc hcall hQ hBn h0
    by_cases hlt : j < xs.length
    · have hd : decide (j < xs.length) = true := by simpa using hlt
      obtain ⟨x, hx⟩ : ∃ x, xs[j]? = some x := ⟨_, List.getElem?_eq_getElem hlt⟩
      have hM := Lib.hid (measQ_less HN.out hx)
      have HT : Hid (xs.take (j + 1) = xs.take j ++ [x]) := Lib.hid (by rw [take_snocI xs j hlt, hx]; rfl)
      have HNx := Lib.hid (nextE_get HN.out hx)
      have hxr := HR.out x (List.mem_of_getElem? hx)
      have hxb : I64b x := by unfold I64b; omega
      have hle := HL.out
      rw [hx]
      simp only [Option.getD_some]
      obtain ⟨fn, tmps, assign, body, hy, hR⟩ := hY (xs.take j) x wr hJi (by simp; omega)
      clear hx hxr hle
      gi_wp2
      refine ⟨fun _ => by omega, hR.mono ?_⟩
      clear hy hR hJi
      rintro e W3 (⟨rfl, hJ3, hK⟩ | ⟨rfl, hJx3⟩)
      · have hQ3 := hK.que hQr hBm hMm
        have hB3 := hK.box hB
        have hBc3 := hB3.cell
        have hnext := next_any x hxb W3 hQ3
        rw [HNx.out] at hnext
        have e1 : (xs[j + 1]?).isSome = decide (j + 1 < xs.length) := by
          by_cases h : j + 1 < xs.length
          · rw [List.getElem?_eq_getElem h]; simp [h]
          · rw [List.getElem?_eq_none (by omega)]; simp [h]
        rw [e1] at hnext
        clear hQr hB hK hxb e1
        generalize hx1 : (xs[j + 1]?).getD 0 = x1 at hnext hM
        generalize hb1 : decide (j + 1 < xs.length) = b1 at hnext hM
        have HX := Lib.hid hx1
        have HB := Lib.hid hb1
        clear hx1 hb1
        gi_wp2_with (first | (refine ⟨trivial, fun _ => by omega, ?_⟩; gi_at_call 17; refine (callsIn_wide.2 hnext).mono ?_; rintro e W4 ⟨rfl, hb4⟩))
        have hg4 := hb4.grown0
        clear hnext
        go_roundw
        case rel => exact ⟨j + 1, by omega, by rw [HX.out], by rw [HB.out], by rw [HT.out]; exact hJ _ W3 W4 none hJ3 hg4 (fun r e => by cases e), hQ3.fresh hb4, hb4.boxed hB3 (by simp)⟩
        case measure => rw [hd]; exact hM.out
      · gi_wp2
        refine bodyPost_ret (results_none rfl _ _ _) rfl ?_
        exact ⟨⟨_, rfl⟩, .inr ⟨_, by rw [← HT.out]; exact List.take_prefix _ _, hJx3⟩⟩
    · obtain rfl : j = xs.length := by omega
      have hd : decide (xs.length < xs.length) = false := by simp
      rw [List.take_length] at hJi
      rw [hd]
      gi_wp2
      go_end0
      exact ⟨⟨_, rfl⟩, .inl (by first | exact hJi | exact ⟨_, rfl, hJi⟩)⟩

set_option maxHeartbeats 400000 in
theorem numbers1_none (n : Nat) (hn : 2 ≤ n) (l Bn : Nat) (J Jx : List Int → World → Prop) (W : World) (hBn : Boxed W Bn 24 (.pointer none)) (h0 : J [] W) :
    CallsIn Fence.wide n Try.prog 30 #[.func (.yield l) #[] #[], .pointer (some ⟨Bn, 0, none⟩)] W fun e W' => (∃ v, e = .returned v) ∧
      ((∃ ys, ys = [] ∧ J ys W') ∨ (∃ pre, pre <+: [] ∧ Jx pre W')) := by
  have hBc := hBn.cell
  have hcall := front_nil W
  refine callsIn_of_wp Try.func30 rfl trivial ?_ rfl
  simp only [Try.ntmps30, List.size_toArray, List.length_cons, List.length_nil, Nat.reduceAdd, Nat.reduceSub, Array.replicate_succ, Array.replicate_zero, List.push_toArray, List.append_toArray, List.nil_append, List.cons_append]
  gi_wp2_with (first | (refine ⟨trivial, fun _ => by omega, ?_⟩; gi_at_call 16; refine (callsIn_wide.2 hcall).mono ?_; rintro e w' ⟨rfl, rfl⟩))
  gi_loopw [3, 4] (fun iv bv wr => iv = .int .i64 0 ∧ bv = .bool false ∧ J [] wr) (fun _ _ _ => 0)
  case atStart => exact ⟨rfl, rfl, h0⟩
  case round =>
    obtain ⟨rfl, rfl, hJ⟩ := hrel
    clear hBc hBn hcall h0
    gi_wp2
    go_end0
    exact ⟨⟨_, rfl⟩, .inl ⟨_, rfl, hJ⟩⟩

/-- The iterator over a pointer: the numbers ys, in whatever world stands below w. -/
def IterOf (p : Option Addr) (ys : List Int) (w : World) : Prop := ∀ (W : World) (Bn : Nat), Below w.heap.size w W → Boxed W Bn 24 (.pointer p) →
  SeqStopsK Fence.wide 3 Try.prog 30 #[.pointer (some ⟨Bn, 0, none⟩)] (fun x : Int => #[Value.int .i64 x]) (KeepQ w.heap.size) (fun xs => xs = ys) (fun pre => pre <+: ys) 1024 W
theorem iter_que {B M : Nat} {xs : List Int} {w : World} (hQ : Que w B M xs) : IterOf (some ⟨B, 0, none⟩) xs w := fun W0 Bn hw hBn l J Jx W hW hJ _ hY h0 =>
  numbers1_in 3 (by omega) w.heap.size l Bn B M xs J Jx hY W ((hW.block Bn hBn.lt).trans hBn) (by
    have h1 := hQ.same (hw.block B hQ.ltB) (hw.block M hQ.ltM)
    exact h1.same (hW.block B h1.ltB) (hW.block M h1.ltM)) hQ.ltB hQ.ltM hJ h0
theorem iter_none (w : World) : IterOf none [] w := fun _ Bn _ hBn l J Jx W hW _ _ _ h0 =>
  numbers1_none 3 (by omega) l Bn J Jx W ((hW.block Bn hBn.lt).trans hBn) h0
end Go.Proofs.Ytkfbleihcokfaaa
