/-
  The iterator pool.taken: its contract: the slots that are taken, rising, whatever the body of the loop does that leaves the pool alone.
-/
import Derived.RangeFuncNested
import Derived.RangeFuncBound
import Derived.RangeFuncCalls
import Derived.RangeFuncLeaves
import Derived.RangeFuncBox
import Derived.Shelf.Abstract
import Derived.Shelf.RegionOpen
import Derived.OwnWalkIn
import Derived.TacticsInMore
import Derived.LoopNIn
import Derived.LoopIn
import Derived.Maps.AppendAt
import Derived.WalkSmall
import Derived.Test.YtmllalmdaobboaaPNew
namespace Go.Proofs.Ytmllalmdaobboaa
open Go.RowKit Go.Shelf

attribute [local go_sem] Oper.semAt_some

/-- What a round keeps: each pool, its slots, and each variable that points to one. -/
def KeepP (W W' : World) : Prop := ∀ (k : Nat) (cs : Array Value) (t : TypeId) (z : Nat × Nat), W.heap[k]? = some (Obj.cells cs t z) → (t = 24 ∨ t = 52 ∨ t = 54) → W'.heap[k]? = W.heap[k]?
theorem KeepP.trans {A B C : World} (h : KeepP A B) (k : KeepP B C) : KeepP A C := fun i cs t z hi ht => by
  have h1 := h i cs t z hi ht
  exact (k i cs t z (h1.trans hi) ht).trans h1
theorem KeepP.pol {W W' : World} (h : KeepP W W') {B V cap : Nat} {l : List Slo} {f n : Nat} (hr : Pol W B V cap l f n) : Pol W' B V cap l f n := by
  obtain ⟨cs, z, hv⟩ := hr.row.block
  exact ⟨(h _ _ _ _ hr.head (.inr (.inl rfl))).trans hr.head, hr.row.of_block (h _ _ _ _ hv (.inr (.inr rfl))), hr.first, hr.cnt, hr.len⟩
theorem Pol.below {W W' : World} {B V cap : Nat} {l : List Slo} {f n : Nat} (h : Pol W B V cap l f n) (hb : Below W.heap.size W W') : Pol W' B V cap l f n :=
  ⟨(hb.block B h.ltB).trans h.head, h.row.of_block (hb.block V h.ltV), h.first, h.cnt, h.len⟩
theorem PoolAt.below {W W' : World} {B V cap : Nat} {T : List (Option Sud)} {F : List Nat} (h : PoolAt W B V cap T F) (hb : Below W.heap.size W W') : PoolAt W' B V cap T F := h.but (But.of_below hb []) (by simp) (by simp)
theorem KeepP.box {W W' : World} (h : KeepP W W') {B : Nat} {v : Value} (hr : Boxed W B 24 v) : Boxed W' B 24 v :=
  (h _ _ _ _ hr (.inl rfl)).trans hr
theorem KeepP.grown {W W' : World} {row : Option Nat} (h : W.grownBy W' row) (hr : ∀ (k : Nat) (cs : Array Value) (t : TypeId) (z : Nat × Nat), row = some k → W.heap[k]? = some (Obj.cells cs t z) → t ≠ 24 ∧ t ≠ 52 ∧ t ≠ 54) : KeepP W W' := fun k cs t z hk ht =>
  h.block k (Array.getElem?_eq_some_iff.1 hk).1 (fun e => by have := hr k cs t z e.symm hk; rcases ht with rfl | rfl | rfl <;> simp_all)
theorem KeepP.putObj (W : World) (l : Nat) (o o' : Obj) (h : W.heap[l]? = some o) (ho : o.isCells = false) : KeepP W (W.putObj l o') :=
  KeepP.grown (grownBy_putObj' W l o') (fun k cs t z e hk => by cases e; rw [hk] at h; cases h; cases ho)

theorem taken_any (p : Option Addr) (w : World) :
    Calls Try.prog 25 #[.pointer p] w fun e w' => e = .returned (.func (.func 26) #[] #[.pointer (some ⟨w.heap.size, 0, none⟩)]) ∧ w' = w.alloc (.cells #[.pointer p] 24) := by
  go_enter Try.func25, Try.ntmps25
  go_wp2_with fail
  go_ret
  exact ⟨rfl, rfl⟩

set_option maxRecDepth 100000 in
set_option maxHeartbeats 1000000 in
theorem taken1_in (n : Nat) (hn : 2 ≤ n) (l Bn B V cap : Nat) (T : List (Option Sud)) (ls : List Slo) (f c : Nat) (J Jx : List Nat → World → Prop)
    (hY : ∀ pre (x : Nat) W, J pre W → pre.length < 1024 → YieldAt Fence.wide (n - 1) Try.prog l #[.int .i64 (x : Int)] W fun e W' =>
      (e = .returned (.bool true) ∧ J (pre ++ [x]) W' ∧ KeepP W W') ∨ (e = .returned (.bool false) ∧ Jx (pre ++ [x]) W'))
    (W : World) (hBn : Boxed W Bn 24 (.pointer (some ⟨B, 0, none⟩))) (hR : Pol W B V cap ls f c) (hT : ls.map (·.1) = T) (h0 : J [] W) :
    CallsIn Fence.wide n Try.prog 26 #[.func (.yield l) #[] #[], .pointer (some ⟨Bn, 0, none⟩)] W fun e W' => (∃ v, e = .returned v) ∧
      ((∃ xs, xs = idx T ∧ J xs W') ∨ (∃ pre, pre <+: idx T ∧ Jx pre W')) := by
  have hBc := hBn.cell
  have hcS := hR.cellS
  have hlen := hR.len
  have hTl := Lib.hid (map_len hT)
  refine callsIn_of_wp Try.func26 rfl trivial ?_ rfl
  simp only [Try.ntmps26, List.size_toArray, List.length_cons, List.length_nil, Nat.reduceAdd, Nat.reduceSub, Array.replicate_succ, Array.replicate_zero, List.push_toArray, List.append_toArray, List.nil_append, List.cons_append]
  gi_wp2
  gi_loopw [11] (fun iv wr => ∃ i : Nat, i ≤ ls.length ∧ iv = .int .i64 i ∧ J (idxTo T i) wr ∧ Pol wr B V cap ls f c ∧ Boxed wr Bn 24 (.pointer (some ⟨B, 0, none⟩))) (fun iv _ => ls.length - (intOf iv).toNat)
  case atStart => exact ⟨0, Nat.zero_le _, rfl, h0, hR, hBn⟩
  case round =>
    obtain ⟨i, hi, rfl, hJi, hP, hB⟩ := hrel
    clear hBc hcS hR hBn h0
    by_cases hlt : i < ls.length
    · have hlt' : (i : Int) < (ls.length : Int) := by omega
      have hBc := hB.cell
      obtain ⟨⟨o, k⟩, hs⟩ : ∃ s, ls[i]? = some s := ⟨_, List.getElem?_eq_getElem hlt⟩
      have hcall := has_there i _ wr hP hs
      have htk : tk T i = o.isSome := by rw [tk, map_get hT, hs]; rfl
      have HT : Hid (idxTo T (i + 1) = idxTo T i ++ if o.isSome then [i] else []) := Lib.hid (by rw [idxTo, htk])
      have hpl : (idxTo T i).length < 1024 := by have := cntTo_le T i; rw [idxTo_len]; omega
      have hpre : Hid (idxTo T (i + 1) <+: idx T) := Lib.hid (idxTo_pre T (by have := hTl.out; omega))
      clear htk hs
      cases o with
      | none =>
        simp only [Option.isSome_none] at hcall HT
        gi_wp2_with (first | (refine ⟨trivial, fun _ => by omega, ?_⟩; gi_at_call 23; refine (callsIn_wide.2 hcall).mono ?_; rintro e w' ⟨rfl, rfl⟩))
        refine ⟨fun _ h => (by cases h), ?_⟩
        gi_wp2
        go_roundw
        case rel => exact ⟨i + 1, by omega, by go_num, by rw [HT.out]; simpa using hJi, hP, hB⟩
        case measure => simp [intOf]; omega
      | some x =>
        simp only [Option.isSome_some] at hcall HT
        obtain ⟨fn, tmps, assign, body, hy, hR⟩ := hY (idxTo T i) i wr hJi hpl
        gi_wp2_with (first | (refine ⟨trivial, fun _ => by omega, ?_⟩; gi_at_call 23; refine (callsIn_wide.2 hcall).mono ?_; rintro e w' ⟨rfl, rfl⟩))
        refine ⟨fun _ => by omega, hR.mono ?_⟩
        have HT' : Hid (idxTo T (i + 1) = idxTo T i ++ [i]) := Lib.hid (by rw [HT.out]; simp)
        clear hcall hy hR HT
        rintro e W3 (⟨rfl, hJ3, hK⟩ | ⟨rfl, hJx3⟩)
        · have hP3 := hK.pol hP
          have hB3 := hK.box hB
          clear hP hB hK
          gi_wp2
          go_roundw
          case rel => exact ⟨i + 1, by omega, by go_num, by rw [HT'.out]; exact hJ3, hP3, hB3⟩
          case measure => simp [intOf]; omega
        · gi_wp2
          refine bodyPost_ret (results_none rfl _ _ _) rfl ?_
          exact ⟨⟨_, rfl⟩, .inr ⟨_, by rw [← HT'.out]; exact hpre.out, hJx3⟩⟩
    · obtain rfl : i = ls.length := by omega
      have hlt' : ¬ ((ls.length : Int) < (ls.length : Int)) := by omega
      gi_wp2
      go_end0
      exact ⟨⟨_, rfl⟩, .inl (by first | (rw [idx, ← hTl.out]; exact hJi) | exact ⟨_, by rw [idx, ← hTl.out], hJi⟩)⟩

set_option maxHeartbeats 400000 in
theorem taken1_none (n l Bn : Nat) (J Jx : List Nat → World → Prop) (W : World) (hBn : Boxed W Bn 24 (.pointer none)) (h0 : J [] W) :
    CallsIn Fence.wide n Try.prog 26 #[.func (.yield l) #[] #[], .pointer (some ⟨Bn, 0, none⟩)] W fun e W' => (∃ v, e = .returned v) ∧
      ((∃ xs, xs = [] ∧ J xs W') ∨ (∃ pre, pre <+: [] ∧ Jx pre W')) := by
  have hBc := hBn.cell
  refine callsIn_of_wp Try.func26 rfl trivial ?_ rfl
  simp only [Try.ntmps26, List.size_toArray, List.length_cons, List.length_nil, Nat.reduceAdd, Nat.reduceSub, Array.replicate_succ, Array.replicate_zero, List.push_toArray, List.append_toArray, List.nil_append, List.cons_append]
  gi_wp2
  refine bodyPost_ret (results_none rfl _ _ _) rfl ?_
  exact ⟨⟨_, rfl⟩, .inl ⟨_, rfl, h0⟩⟩

/-- The iterator over a pointer: the slots ys, in whatever world stands below w. -/
def IterOf (p : Option Addr) (ys : List Nat) (w : World) : Prop := ∀ (W : World) (Bn : Nat), Below w.heap.size w W → Boxed W Bn 24 (.pointer p) →
  SeqStopsK Fence.wide 3 Try.prog 26 #[.pointer (some ⟨Bn, 0, none⟩)] (fun x : Nat => #[Value.int .i64 (x : Int)]) KeepP (fun xs => xs = ys) (fun pre => pre <+: ys) 1024 W

theorem iter_pool {B V cap : Nat} {T : List (Option Sud)} {F : List Nat} {w : World} (hR : PoolAt w B V cap T F) : IterOf (some ⟨B, 0, none⟩) (idx T) w := fun w1 Bn hw hBn l J Jx W hW _ _ hY h0 => by
  obtain ⟨ls, f, h1, h2, _⟩ := hR.raw
  exact taken1_in 3 (by omega) l Bn B V cap T ls f _ J Jx hY W ((hW.block Bn hBn.lt).trans hBn) ((h1.below hw).below hW) h2 h0
theorem iter_none (w : World) : IterOf none [] w := fun _ Bn _ hBn l J Jx W hW _ _ _ h0 =>
  taken1_none 3 l Bn J Jx W ((hW.block Bn hBn.lt).trans hBn) h0
end Go.Proofs.Ytmllalmdaobboaa
