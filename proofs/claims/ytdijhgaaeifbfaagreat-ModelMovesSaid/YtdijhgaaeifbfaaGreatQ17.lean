/-
  ModelMoves: its walks, part 17: MDel MBase MIter MFirst.
-/
import Derived.Lib.SlicesDelete
import Derived.RangeFuncNested
import Derived.RangeFuncBound
import Derived.RangeFuncCalls
import Derived.RangeFuncLeaves
import Derived.RangeFuncBox
import Derived.Shelf.Abstract
import Derived.Shelf.RegionOpen
import Derived.OwnWalkIn
import Derived.TacticsInMore
import Derived.LoopNIn
import Derived.LoopIn
import Derived.Maps.AppendAt
import Derived.WalkSmall
import Derived.Test.YtdijhgaaeifbfaaGreatQ00
import Derived.Test.YtdijhgaaeifbfaaGreatQ15
set_option maxRecDepth 100000
set_option maxHeartbeats 12800000
namespace Go.Proofs.YtdijhgaaeifbfaaGreat.Mch
open Go.RowKit
theorem setCells_heap (g : Nat) (e : TypeId) (z : Nat × Nat) : ∀ (vs : List Value) (o : Nat) (W : World) (cur : Array Value), W.heap[g]? = some (.cells cur e z) -> (W.setCells g o vs).heap[g]? = some (.cells (Lib.lay cur o vs) e z)
  | [], _, _, _, h => h
  | v :: r, o, _, _, h => setCells_heap g e z r (o + 1) _ _ (heap_setCell_same (k := o) v h)
theorem setCells_grown (g : Nat) : ∀ (vs : List Value) (o : Nat) (W : World), W.grownBy (W.setCells g o vs) (some g)
  | [], _, _ => ⟨rfl, rfl, rfl, Nat.le_refl _, fun _ _ _ => rfl⟩
  | v :: r, o, W => (grownBy_setCell W ⟨g, o, none⟩ v).trans (setCells_grown g r (o + 1) _)
theorem run_clear_one (w : World) (t e ty : TypeId) (z : Value) (zs : List Value) (ht : Tryz.prog.underlying t = some (.slice e)) (hv : ∀ w, (zeroValue e).run Tryz.prog w = .ok z w) (hz : (Builtin.zeroCells z.cells 1).toList = zs) (h1 : ∀ u ∈ zs, u.oneCell' = true) (b o c : Nat)
    (hc : ∀ j, j < zs.length -> (w.cell? ⟨b, o + j, none⟩).isSome = true) (hf : ∀ j, j < zs.length -> w.frozen? ⟨b, o + j, none⟩ = false) :
    (Builtin.clear_ #[t] ty #[.slice (some ⟨b, o, none⟩) 1 c]).run Tryz.prog w = .ok (.tuple #[]) (w.setCells b o zs) := by
  have hst := run_storeCells_cells (P := Tryz.prog) b o zs 0 w (by simpa using hc) (by simpa using hf) h1
  simp only [Nat.add_zero] at hst
  simp [Builtin.clear_, run_underlying ht, hv, hz, hst]
def zero3 : List Value := [.int .i64 0, .int .i64 0, .int .i64 0]
theorem delete_first {b : Nat} {v : Value} {x : Wt} {t : List Wt} (w : World) (hrow : w.ownsRow b 134 3 v (t.length + 1) (flatW (x :: t))) :
    Calls Tryz.prog 172 #[v, .int .i64 0, .int .i64 1] w fun e w' => ∃ v', e = .returned v' /\ v'.ownBlock = v.ownBlock /\ w'.ownsRow b 134 3 v' t.length (flatW t) /\ w.grownBy w' v.ownBlock := by
  obtain ⟨i0, hi, hz0, hz1, hz2⟩ := info_parts infoWait
  obtain ⟨hlen, hr⟩ := hrow
  rcases hr with ⟨_, h0⟩ | ⟨g, cap, cur, rfl, hg, hb, hn, hm, hcs, ht⟩
  · omega
  obtain ⟨n, hnt⟩ : ∃ n, n = t.length := ⟨_, rfl⟩
  obtain ⟨news, hnews⟩ : ∃ news, news = flatW t := ⟨_, rfl⟩
  have hnl : news.length = n * 3 := by rw [hnews, flatW_len, hnt]
  have hbd : w.drew.heap[g]? = some (.cells cur 134 (0, 0)) := hb
  have hcell : ∀ k, w.drew.cell? ⟨g, k, none⟩ = cur[k]? := fun k => by simp only [World.cell?, hbd]; rfl
  have hfro : ∀ k, w.drew.frozen? ⟨g, k, none⟩ = false := fun k => by simp only [World.frozen?, hbd]; rfl
  have hold : ∀ k, k < n * 3 -> cur[3 + k]? = news[k]? := fun k hk => by
    have h1 : (cur.toList.take ((t.length + 1) * 3))[3 + k]? = (flatW (x :: t))[3 + k]? := by rw [ht]
    rw [List.getElem?_take, if_pos (by omega)] at h1
    rw [<- Array.getElem?_toList, h1, hnews]
    rw [Nat.add_comm 3 k]
    rfl
  obtain ⟨A, hA, hsrc⟩ : ∃ A : Addr, (if cap = 1 then (some ⟨g, 0, none⟩ : Option Addr) else some ⟨g, 3, none⟩) = some A /\ Hid (∀ j u, news[j]? = some u -> w.drew.cell? (A.add j) = some u) := by
    by_cases h : cap = 1
    · refine ⟨⟨g, 0, none⟩, by simp [h], Lib.hid fun j u hu => ?_⟩
      have hj : j < news.length := (List.getElem?_eq_some_iff.1 hu).1
      omega
    · refine ⟨⟨g, 3, none⟩, by simp [h], Lib.hid fun j u hu => ?_⟩
      have hj : j < news.length := (List.getElem?_eq_some_iff.1 hu).1
      rw [Addr.add_lit, hcell, hold j (by omega)]
      exact hu
  have s1 : Hid (∀ u ∈ news, u.oneCell' = true) := Lib.hid (by rw [hnews]; exact flatW_one t)
  have s2 : Hid (∀ j, j < news.length -> (w.drew.cell? ⟨g, 0 + 0 * 3 + j, none⟩).isSome = true /\ w.drew.frozen? ⟨g, 0 + 0 * 3 + j, none⟩ = false) := Lib.hid fun j hj => ⟨by rw [hcell, Array.getElem?_eq_getElem (by omega)]; rfl, hfro _⟩
  obtain ⟨W1, hW1⟩ : ∃ W1, W1 = w.drew.setCells g (0 + 0 * 3) news := ⟨_, rfl⟩
  have hb1 : W1.heap[g]? = some (.cells (Lib.lay cur 0 news) 134 (0, 0)) := by rw [hW1]; exact setCells_heap g _ _ news _ _ _ hbd
  have hg1 : w.grownBy W1 (some g) := by
    rw [hW1]
    have := setCells_grown g news (0 + 0 * 3) w.drew
    exact ⟨this.os, this.tape, this.output, this.size, this.block⟩
  have hcl : ∀ ty, (Builtin.clear_ #[109] ty #[.slice (some ⟨g, n * 3, none⟩) 1 (cap - n)]).run Tryz.prog W1 = .ok (.tuple #[]) (W1.setCells g (n * 3) zero3) := fun ty =>
    run_clear_one W1 _ 134 ty (.agg #[.int .i64 0, .int .i64 0, .int .i64 0]) zero3 Tryz.underlying109 (fun _ => by kernel_rfl) (by kernel_rfl) (by simp [zero3, Value.oneCell']) g (n * 3) (cap - n)
      (fun j hj => by simp only [World.cell?, hb1]; show (Lib.lay cur 0 news)[n * 3 + j]?.isSome = true; rw [Array.getElem?_eq_getElem (by rw [Lib.lay_size]; simp [zero3] at hj; omega)]; rfl) (fun j hj => by simp only [World.frozen?, hb1]; rfl)
  have H2 : Hid ((W1.setCells g (n * 3) zero3).ownsRow b 134 3 (.slice (some ⟨g, 0, none⟩) n cap) n news /\ w.grownBy (W1.setCells g (n * 3) zero3) (some g)) := Lib.hid (by
    refine ⟨⟨hnl, .inr ⟨g, cap, _, rfl, hg, setCells_heap g _ _ zero3 _ _ _ hb1, by omega, hm, by rw [Lib.lay_size, Lib.lay_size, hcs], ?_⟩⟩, hg1.trans (setCells_grown g _ _ _)⟩
    apply List.ext_getElem?
    intro k
    rw [List.getElem?_take]
    split
    · rw [Array.getElem?_toList, Lib.lay_get? _ _ _ _ (by rw [Lib.lay_size]; simp [zero3]; omega), if_neg (by omega), Lib.lay_get? _ _ _ _ (by omega), if_pos (by omega)]
      rfl
    · rw [List.getElem?_eq_none (by omega)])
  have HW : Hid (W1 = w.drew.setCells g (0 + 0 * 3) news) := Lib.hid hW1
  rw [<- hnt] at hn ⊢
  rw [<- hnews]
  have hj1 : (1 : Int) <= (n : Int) + 1 := by omega
  have hc1 : (n : Int) + 1 <= (cap : Int) := by omega
  have hm1 : cap <= 9223372036854775807 := by unfold maxLen at hm; omega
  clear hlen hb hcs ht hnt hnews hbd hcell hfro hold hW1 hb1 hg1 hm
  go_enter Tryz.func172, Tryz.ntmps172
  go_wp2_with fail
  go_region_law (refine step_append_room rfl (.tmp 22) (.tmp 25) 109 rfl 134 i0 3 Tryz.underlying109 hi hz1 g 0 0 cap (by simp [Act.eval, Act.put]) A n (cap - 1) news (by simp [Act.eval, Act.put]) hnl hsrc.out s1.out (by omega) s2.out ?_; rw [<- HW.out])
  go_wp2_with fail
  go_ret
  exact ⟨_, rfl, rfl, H2.out.1, H2.out.2⟩
open Go.RowKit
structure ChAt (W : World) (C B m : Nat) (cl : Bool) (v0 v1 : Value) (buf : List Int) (S R : List Wt) : Prop where
  head : W.heap[C]? = some (.cells #[.pointer (some ⟨B, 0, none⟩), .bool cl, v0, v1] 112 (0, 0))
  ring : Rng W B m buf
  sends : W.ownsRow 0 134 3 v0 S.length (flatW S)
  recvs : W.ownsRow 0 134 3 v1 R.length (flatW R)
  apart : ∀ g, v0.ownBlock = some g -> v1.ownBlock ≠ some g
section
variable {W W' : World} {C B m : Nat} {cl : Bool} {v0 v1 : Value} {buf : List Int} {S R : List Wt}
theorem ChAt.lt (h : ChAt W C B m cl v0 v1 buf S R) : C < W.heap.size := (Array.getElem?_eq_some_iff.1 h.head).1
theorem ChAt.b (h : ChAt W C B m cl v0 v1 buf S R) : W.cell? ⟨C, 0, none⟩ = some (.pointer (some ⟨B, 0, none⟩)) := by simp [World.cell?, h.head]
theorem ChAt.c (h : ChAt W C B m cl v0 v1 buf S R) : W.cell? ⟨C, 1, none⟩ = some (.bool cl) := by simp [World.cell?, h.head]
theorem ChAt.s (h : ChAt W C B m cl v0 v1 buf S R) : W.cell? ⟨C, 2, none⟩ = some v0 := by simp [World.cell?, h.head]
theorem ChAt.r (h : ChAt W C B m cl v0 v1 buf S R) : W.cell? ⟨C, 3, none⟩ = some v1 := by simp [World.cell?, h.head]
theorem ChAt.frozen (h : ChAt W C B m cl v0 v1 buf S R) (k : Nat) : W.frozen? ⟨C, k, none⟩ = false := by simp [World.frozen?, h.head]
theorem ChAt.w (h : ChAt W C B m cl v0 v1 buf S R) (s : Bool) : W.cell? ⟨C, 2 + ix s, none⟩ = some (if s then v0 else v1) := by
  cases s
  · exact h.r
  · exact h.s
theorem ChAt.row (h : ChAt W C B m cl v0 v1 buf S R) (s : Bool) : W.ownsRow 0 134 3 (if s then v0 else v1) (if s then S else R).length (flatW (if s then S else R)) := by
  cases s
  · exact h.recvs
  · exact h.sends
theorem own_at {e : TypeId} {v : Value} {n k : Nat} {xs : List Value} (h : W.ownsRow n e 3 v k xs) {g : Nat} (hg : v.ownBlock = some g) : ∃ cs, W.heap[g]? = some (.cells cs e (0, 0)) := by
  rcases h.2 with ⟨rfl, _⟩ | ⟨g', cap, cur, rfl, _, hgb, _⟩
  · simp [Value.ownBlock] at hg
  · obtain rfl : g' = g := by simpa [Value.ownBlock] using hg
    exact ⟨_, hgb⟩
theorem ChAt.ne_ring (h : ChAt W C B m cl v0 v1 buf S R) : C ≠ B := by
  rintro rfl
  obtain ⟨vs, f, hr, _⟩ := h.ring
  have := h.head.symm.trans hr.2
  simp at this
theorem ChAt.ne_s (h : ChAt W C B m cl v0 v1 buf S R) : v0.ownBlock ≠ some C /\ v0.ownBlock ≠ some B := by
  obtain ⟨vs, f, hr, _⟩ := h.ring
  refine ⟨fun e => ?_, fun e => ?_⟩
  · obtain ⟨cs, hc⟩ := own_at h.sends e
    have := hc.symm.trans h.head
    simp at this
  · obtain ⟨cs, hc⟩ := own_at h.sends e
    have := hc.symm.trans hr.2
    simp at this
theorem ChAt.ne_r (h : ChAt W C B m cl v0 v1 buf S R) : v1.ownBlock ≠ some C /\ v1.ownBlock ≠ some B := by
  obtain ⟨vs, f, hr, _⟩ := h.ring
  refine ⟨fun e => ?_, fun e => ?_⟩
  · obtain ⟨cs, hc⟩ := own_at h.recvs e
    have := hc.symm.trans h.head
    simp at this
  · obtain ⟨cs, hc⟩ := own_at h.recvs e
    have := hc.symm.trans hr.2
    simp at this
theorem ChAt.below (h : ChAt W C B m cl v0 v1 buf S R) (hb : Below W.heap.size W W') : ChAt W' C B m cl v0 v1 buf S R :=
  have hg := grownBy_of_below hb
  ⟨(hb.block C h.lt).trans h.head, h.ring.below hb, h.sends.kept hg (by cases v0.ownBlock <;> simp), h.recvs.kept hg (by cases v1.ownBlock <;> simp), h.apart⟩
theorem ChAt.drew (h : ChAt W C B m cl v0 v1 buf S R) : ChAt W.drew C B m cl v0 v1 buf S R := h.below (Below.refl _ _).drew
end
def Chn (W : World) (F : Nat -> Prop) (C m : Nat) (cl : Bool) (buf : List Int) (S R : List Wt) : Prop :=
  ∃ B v0 v1, ChAt W C B m cl v0 v1 buf S R /\ F C /\ F B /\ (∀ g, v0.ownBlock = some g -> F g) /\ (∀ g, v1.ownBlock = some g -> F g)
section
variable {W W' : World} {F G : Nat -> Prop} {C m : Nat} {cl : Bool} {buf : List Int} {S R : List Wt}
theorem Chn.mono (h : Chn W F C m cl buf S R) (hG : ∀ k, F k -> G k) : Chn W G C m cl buf S R := by
  obtain ⟨B, v0, v1, h, h1, h2, h3, h4⟩ := h
  exact ⟨B, v0, v1, h, hG _ h1, hG _ h2, fun g e => hG _ (h3 g e), fun g e => hG _ (h4 g e)⟩
theorem Chn.below (h : Chn W F C m cl buf S R) (hb : Below W.heap.size W W') : Chn W' F C m cl buf S R := by
  obtain ⟨B, v0, v1, h, r⟩ := h
  exact ⟨B, v0, v1, h.below hb, r⟩
end
theorem rowOf_any (s : Bool) (w : World) :
    Calls Tryz.prog 91 #[.bool s] w fun e w' => e = .returned (.int .i64 (ix s : Int)) /\ w' = w := by
  go_enter Tryz.func91, Tryz.ntmps91
  cases s
  · go_wp2_with fail
    go_ret
    exact ⟨rfl, rfl⟩
  · go_wp2_with fail
    go_ret
    exact ⟨rfl, rfl⟩
theorem row_any (p : Option Addr) (k : Int) (w : World) :
    Calls Tryz.prog 90 #[.pointer p, .int .i64 k] w fun e w' => e = .returned (.func (.func 124) #[] #[.pointer (some ⟨w.heap.size, 0, none⟩), .pointer (some ⟨w.heap.size + 1, 0, none⟩)]) /\ w' = (w.alloc (.cells #[.pointer p] 63)).alloc (.cells #[.int .i64 k] 3) := by
  go_enter Tryz.func90, Tryz.ntmps90
  go_wp2_with fail
  go_ret
  exact ⟨rfl, rfl⟩
section
variable {C B m : Nat} {cl : Bool} {v0 v1 : Value} {buf : List Int} {S R : List Wt}
theorem ccap_any (w : World) (h : ChAt w C B m cl v0 v1 buf S R) :
    Calls Tryz.prog 165 #[.pointer (some ⟨C, 0, none⟩)] w fun e w' => e = .returned (.int .i64 (m : Int)) /\ w' = w := by
  have hb := h.b
  have hc := cap_ring w h.ring
  clear h
  go_enter Tryz.func165, Tryz.ntmps165
  go_wp2_with fail
  refine hc.mono ?_
  rintro e w ⟨rfl, rfl⟩
  go_wp2_with fail
  go_ret
  exact ⟨rfl, rfl⟩
end
theorem cnew_ok (m : Nat) (w : World) (h : m <= 8) :
    Calls Tryz.prog 26 #[.int .i64 (m : Int)] w fun e w' => ∃ C, e = .returned (.tuple #[.pointer (some ⟨C, 0, none⟩), .int .i64 0]) /\ Chn w' (fun k => w.heap.size <= k) C m false [] [] [] /\ Below w.heap.size w w' := by
  have hc := new_ok m w h
  clear h
  go_enter Tryz.func26, Tryz.ntmps26
  go_wp2_with fail
  refine hc.mono ?_
  rintro e w1 ⟨rfl, hR, hg⟩
  have hb : Below w.heap.size w w1 := (Below.refl _ _).grown hg (Nat.le_refl _) (fun _ e => by cases e)
  have hR1 : ∀ o, Rng (w1.alloc o) w.heap.size m [] := fun o => hR.below (below1 w1 o)
  clear hg hc
  go_wp2_with fail
  go_ret2
  refine ⟨w1.heap.size, rfl, ⟨w.heap.size, .slice none 0 0, .slice none 0 0, ⟨World.alloc_heap_new w1 _, hR1 _, World.ownsRow_nil _ _ _ _, World.ownsRow_nil _ _ _ _, fun g e => by simp [Value.ownBlock] at e⟩, hb.size, Nat.le_refl _, fun g e => by simp [Value.ownBlock] at e, fun g e => by simp [Value.ownBlock] at e⟩, Below.al hb hb.size _⟩
open Go.RowKit Go.Shelf
attribute [local go_sem] Oper.semAt_some
theorem grown_below {n : Nat} {W W' : World} (h : Below n W W') (hn : n = W.heap.size := by rfl) : W.grownBy W' none := ⟨h.os, h.tape, h.output, h.size, fun k hk _ => h.block k (by omega)⟩
theorem below_drewN {n : Nat} {w w1 : World} (h : Below n w w1) (q : Nat) : Below n w (w1.drewN q) := ⟨h.os, h.tape, h.output, h.size, h.block⟩
theorem hcell_below {w0 w W : World} {p : Addr} {v : Value} (h : w0.cell? p = some v) (hW : Below w0.heap.size w0 w) (hW2 : Below w.heap.size w W) : W.cell? p = some v :=
  World.grownBy.cell (grown_below (below_nx hW hW2 (Nat.le_refl _))) h (by simp)
theorem take_snocW (xs : List Wt) (j : Nat) (x : Wt) (h : xs[j]? = some x) : xs.take (j + 1) = xs.take j ++ [x] := by
  rw [List.take_add_one, h]; rfl
theorem row1_in (n : Nat) (hn : 2 <= n) (l Bc Bw C : Nat) (s : Bool) (v : Value) (xs : List Wt) (w0 : World) (J Jx : List Wt -> World -> Prop)
    (hY : ∀ pre (x : Wt) W, J pre W -> pre.length < 1000 -> YieldAt Fence.wide (n - 1) Tryz.prog l #[x.val] W fun e W' =>
      (e = .returned (.bool true) /\ J (pre ++ [x]) W' /\ Below w0.heap.size W W') \/ (e = .returned (.bool false) /\ Jx (pre ++ [x]) W'))
    (W : World) (hBc : Boxed W Bc 63 (.pointer (some ⟨C, 0, none⟩))) (hBw : Boxed W Bw 3 (.int .i64 (ix s : Int)))
    (hcell : W.cell? ⟨C, 2 + ix s, none⟩ = some v) (hrow : w0.ownsRow 0 134 3 v xs.length (flatW xs)) (hl : xs.length <= 1000)
    (hW : Below w0.heap.size w0 W) (hJ : AbidesFrom W.heap.size J) (h0 : J [] W) :
    CallsIn Fence.wide n Tryz.prog 124 #[.func (.yield l) #[] #[], .pointer (some ⟨Bc, 0, none⟩), .pointer (some ⟨Bw, 0, none⟩)] W fun e W' => (∃ v, e = .returned v) /\
      ((∃ ys, ys = xs /\ J ys W') \/ (∃ pre, pre <+: xs /\ Jx pre W')) := by
  have hcc := hBc.cell
  have hwc := hBw.cell
  have hi0 : (0 : Int) <= (ix s : Int) := by omega
  have hi2 : (ix s : Int) < 2 := by have := ix_lt s; omega
  obtain ⟨a, c, rfl⟩ := owns_slice' hrow
  refine callsIn_of_wp Tryz.func124 rfl trivial ?_ rfl
  simp only [Tryz.ntmps124, List.size_toArray, List.length_cons, List.length_nil, Nat.reduceAdd, Nat.reduceSub, Array.replicate_succ, Array.replicate_zero, List.push_toArray, List.append_toArray, List.nil_append, List.cons_append]
  gi_wp2
  gi_quiet (fail)
  gi_wp2
  gi_loopw [15] (fun iv wr => ∃ j : Nat, j <= xs.length /\ iv = .int .i64 j /\ J (xs.take j) wr /\ Below w0.heap.size w0 wr) (fun iv _ => xs.length - (intOf iv).toNat)
  case atStart =>
    exact ⟨0, Nat.zero_le _, rfl, hJ _ _ _ none h0 (grown_below (below_drewN (Below.refl _ W) _)) (fun r e => by cases e), below_drewN hW _⟩
  case round =>
    clear hcc hwc hcell h0 hW
    obtain ⟨j, hj, rfl, hJi, hWr⟩ := hrel
    by_cases hlt : j < xs.length
    · have hlt' : (j : Int) < (xs.length : Int) := by omega
      have q0 : (0 : Int) <= (j : Int) := by omega
      obtain ⟨x, hxj⟩ : ∃ x, xs[j]? = some x := ⟨_, List.getElem?_eq_getElem hlt⟩
      have hrw := hrow.kept (grown_below hWr) (by cases (Value.slice a xs.length c).ownBlock <;> simp)
      obtain ⟨g, cap, he, x0, x1, x2⟩ := row_at hrw hxj
      obtain ⟨rfl, rfl⟩ : a = some ⟨g, 0, none⟩ /\ c = cap := by cases he; exact ⟨rfl, rfl⟩
      have HT := Lib.hid (take_snocW xs j x hxj)
      have HP : Hid (xs.take (j + 1) <+: xs) := Lib.hid (List.take_prefix _ _)
      have hb1 := below1 wr (.cells #[.int .i64 x.t, .int .i64 x.c, .int .i64 x.v] 134)
      have hJ1 := hJ _ _ _ none hJi (grown_below hb1) (fun r e => by cases e)
      have hW1 := below_nx hWr hb1 (Nat.le_refl _)
      have hlen : (xs.take j).length < 1000 := by rw [List.length_take]; omega
      obtain ⟨fn, tmps, assign, body, hy, hR⟩ := hY _ x _ hJ1 hlen
      unfold Wt.val at hy
      clear hxj hJi hrw he hlen hJ1 hb1
      gi_wp2
      refine ⟨fun _ => by omega, hR.mono ?_⟩
      clear hy hR
      rintro e W3 (⟨rfl, hJ3, hK⟩ | ⟨rfl, hJx3⟩)
      · have hW3 := hW1.trans hK
        gi_wp2
        go_roundw
        case rel => exact ⟨j + 1, by omega, by go_num, by rw [HT.out]; exact hJ3, hW3⟩
        case measure => simp [intOf]; omega
      · gi_wp2
        refine bodyPost_ret (results_none rfl _ _ _) rfl ?_
        exact ⟨⟨_, rfl⟩, .inr ⟨_, by rw [<- HT.out]; exact HP.out, hJx3⟩⟩
    · obtain rfl : j = xs.length := by omega
      rw [List.take_length] at hJi
      gi_wp2
      go_end0
      exact ⟨⟨_, rfl⟩, .inl ⟨_, rfl, hJi⟩⟩
theorem row_stops {w w0 : World} {Bc Bw C : Nat} {s : Bool} {v : Value} {xs : List Wt} (hBc : Boxed w Bc 63 (.pointer (some ⟨C, 0, none⟩))) (hBw : Boxed w Bw 3 (.int .i64 (ix s : Int)))
    (hcell : w0.cell? ⟨C, 2 + ix s, none⟩ = some v) (hrow : w0.ownsRow 0 134 3 v xs.length (flatW xs)) (hl : xs.length <= 1000) (hW : Below w0.heap.size w0 w) :
    SeqStopsK Fence.wide 3 Tryz.prog 124 #[.pointer (some ⟨Bc, 0, none⟩), .pointer (some ⟨Bw, 0, none⟩)] (fun x : Wt => #[x.val]) (Below w0.heap.size) (fun ys => ys = xs) (fun pre => pre <+: xs) 1000 w :=
  fun l J Jx W hW2 hJ _ hY h0 => row1_in 3 (by omega) l Bc Bw C s v xs w0 J Jx hY W (boxed_below hBc hW2) (boxed_below hBw hW2)
    ((hcell_below hcell hW hW2)) hrow hl (below_nx hW hW2 (Nat.le_refl _)) hJ h0
open Go.RowKit Go.Shelf
attribute [local go_sem] Oper.semAt_some
theorem wtAt_abides {β : Type} (B : Nat) (f : β -> Wt) (m : Nat) : OwnFrom m (fun (s : β) W => WtAt W B (f s)) :=
  Own.from (I := fun (s : β) (W : World) => WtAt W B (f s)) (fun sx A W' row hs hg hr => hs.of_block (hg.block B hs.lt (fun e => by
    obtain ⟨o, ho, hn⟩ := hr B e.symm
    rw [show A.heap[B]? = _ from hs] at ho
    cases ho
    cases hn))) m
structure Fst (W : World) (n : Nat) (x : Wt) (b : Bool) : Prop where
  it : WtAt W n x
  is : Boxed W (n + 1) 4 (.bool b)
theorem Fst.below {W W' : World} {n : Nat} {x : Wt} {b : Bool} (h : Fst W n x b) (hb : Below W.heap.size W W') : Fst W' n x b := ⟨h.it.below hb, boxed_below h.is hb⟩
def setFst (W : World) (n : Nat) (y : Wt) (c : Bool) : World := (((W.setCell ⟨n, 0, none⟩ (.int .i64 y.t)).setCell ⟨n, 1, none⟩ (.int .i64 y.c)).setCell ⟨n, 2, none⟩ (.int .i64 y.v)).setCell ⟨n + 1, 0, none⟩ (.bool c)
theorem Fst.set {W : World} {n : Nat} {x : Wt} {b : Bool} (h : Fst W n x b) (y : Wt) (c : Bool) : Fst (setFst W n y c) n y c := by
  have h1 := h.it.set y
  have g1 := grownBy_setCell W ⟨n, 0, none⟩ (.int .i64 y.t)
  have g2 := grownBy_setCell (W.setCell ⟨n, 0, none⟩ (.int .i64 y.t)) ⟨n, 1, none⟩ (.int .i64 y.c)
  have g3 := grownBy_setCell ((W.setCell ⟨n, 0, none⟩ (.int .i64 y.t)).setCell ⟨n, 1, none⟩ (.int .i64 y.c)) ⟨n, 2, none⟩ (.int .i64 y.v)
  have h2 := ((h.is.kept g1 (by simp)).kept g2 (by simp)).kept g3 (by simp)
  exact ⟨h1.of_block (Below.heap_setCell _ _ _ _ (by simp)), h2.set _⟩
theorem fst_below {W w0 : World} {m n : Nat} (hb : Below m w0 W) (hm : m <= n) (y : Wt) (c : Bool) : Below m w0 (setFst W n y c) :=
  (((hb.setCell (p := ⟨n, 0, none⟩) hm _).setCell (p := ⟨n, 1, none⟩) hm _).setCell (p := ⟨n, 2, none⟩) hm _).setCell (p := ⟨n + 1, 0, none⟩) (by simp; omega) _
theorem fst_others (W : World) (n : Nat) (y : Wt) (c : Bool) : KeepsOthers W (setFst W n y c) :=
  (((KeepsOthers.setCell W ⟨n, 0, none⟩ _).trans (KeepsOthers.setCell _ ⟨n, 1, none⟩ _)).trans (KeepsOthers.setCell _ ⟨n, 2, none⟩ _)).trans (KeepsOthers.setCell _ ⟨n + 1, 0, none⟩ _)
theorem fst_abides {β : Type} (n : Nat) (f : β -> Wt) (b : Bool) (m : Nat) : OwnFrom m (fun (s : β) W => Fst W n (f s) b) := fun s W W' row hs hg hr =>
  ⟨wtAt_abides n f m s W W' row hs.it hg hr, boxed_abides (n + 1) 4 (fun _ : β => .bool b) m s W W' row hs.is hg hr⟩
theorem first_end (F0 : Value) (w W : World) (D : Nat) (hD : w.heap.size + 1 <= D) (x : Wt) (b : Bool) (t0 t1 t2 t3 t6 t7 t8 t9 t10 t11 t12 t13 : Value)
    (hF : Fst W w.heap.size x b) (hB : Below w.heap.size w W) (hK : W.heap[D]? = some (.deferred (some [])))
    (HE : Hid (Value.tuple #[x.val, .bool b] = F0)) :
    bodyPostM Fence.wide 4 Tryz.prog Tryz.f60 (fun e w' => e = .returned F0 /\ Below w.heap.size w w') .ret
      { tmps := #[t0, t1, t2, t3, .pointer (some ⟨w.heap.size, 0, none⟩), .pointer (some ⟨w.heap.size + 1, 0, none⟩), t6, t7, t8, t9, t10, t11, t12, t13], defers := [{ target := Target.collected D, args := #[] }] } W := by
  refine ⟨by simp, .inl ⟨_, _, rfl, run_takeDeferred hK, ?_⟩⟩
  have hg := grownBy_putObj' W D (.deferred none)
  have hr : ∀ r, some D = some r -> ∃ o, W.heap[r]? = some o /\ o.isCells = false := fun r e => by cases e; exact ⟨_, hK, rfl⟩
  have a1 := cell_kept hF.is.cell hg hr
  have c0 := cell_kept hF.it.c0 hg hr
  have c1 := cell_kept hF.it.c1 hg hr
  have c2 := cell_kept hF.it.c2 hg hr
  refine ⟨.tuple #[x.val, .bool b], ?_, by rw [HE.out], hB.trans (belowK_b (w := w) (Nat.le_refl _) _ D _ _ (by omega) hK rfl rfl)⟩
  unfold Wt.val
  simp [results, Tryz.f60, go_sem, a1, c0, c1, c2]
def headW (xs : List Wt) : Wt := xs.head?.getD .zero
theorem first_any {C : Nat} {s : Bool} {v : Value} {xs : List Wt} (w : World) (hcell : w.cell? ⟨C, 2 + ix s, none⟩ = some v) (hrow : w.ownsRow 0 134 3 v xs.length (flatW xs)) (hl : xs.length <= 1000) :
    Calls Tryz.prog 60 #[.pointer (some ⟨C, 0, none⟩), .bool s] w fun e w' => e = .returned (.tuple #[(headW xs).val, .bool xs.head?.isSome]) /\ Below w.heap.size w w' := by
  obtain ⟨F0, hF0⟩ : ∃ F0, F0 = Value.tuple #[(headW xs).val, .bool xs.head?.isSome] := ⟨_, rfl⟩
  rw [<- hF0]
  obtain ⟨w2, hw2⟩ : ∃ w2, w2 = (w.alloc (.cells #[.int .i64 0, .int .i64 0, .int .i64 0] 134)).alloc (.cells #[.bool false] 4) := ⟨_, rfl⟩
  have hF2 : Fst w2 w.heap.size .zero false := by
    rw [hw2]
    have h1 := Boxed.new (w.alloc (.cells #[.int .i64 0, .int .i64 0, .int .i64 0] 134)) 4 (.bool false)
    rw [World.size_alloc] at h1
    exact ⟨(wtAt_new w .zero).alloc _, h1⟩
  have hB2 : Below w.heap.size w w2 := by rw [hw2]; exact Below.al (below1 w _) (by simp) _
  obtain ⟨w4, hw4⟩ : ∃ w4, w4 = (w2.alloc (.cells #[.pointer (some ⟨C, 0, none⟩)] 63)).alloc (.cells #[.int .i64 (ix s : Int)] 3) := ⟨_, rfl⟩
  have hb24 : Below w2.heap.size w2 w4 := by rw [hw4]; exact Below.al (below1 w2 _) (by simp) _
  have hc4 : Boxed w4 w2.heap.size 63 (.pointer (some ⟨C, 0, none⟩)) := by rw [hw4]; exact (Boxed.new w2 _ _).alloc _
  have hi4 : Boxed w4 (w2.heap.size + 1) 3 (.int .i64 (ix s : Int)) := by
    have h1 := Boxed.new (w2.alloc (.cells #[.pointer (some ⟨C, 0, none⟩)] 63)) 3 (.int .i64 (ix s : Int))
    rw [World.size_alloc] at h1
    rw [hw4]; exact h1
  have hB4 := below_nx hB2 hb24 (Nat.le_refl _)
  have hF4 := hF2.below hb24
  have hcell4 := World.grownBy.cell (grown_below hB4) hcell (by simp)
  have hrow4 := hrow.kept (grown_below hB4) (by cases v.ownBlock <;> simp)
  have hsz : w.heap.size + 1 < w4.heap.size := hF4.is.lt
  have hra := row_any (some ⟨C, 0, none⟩) (ix s : Int) w2
  rw [<- hw4] at hra
  refine (callsIn_wide (n := 4)).1 ?_
  refine callsIn_of_wp_marks Tryz.func60 rfl trivial ?_ rfl
  simp only [Tryz.ntmps60, List.size_toArray, List.length_cons, List.length_nil, Nat.reduceAdd, Nat.reduceSub, Array.replicate_succ, Array.replicate_zero, List.push_toArray, List.append_toArray, List.nil_append, List.cons_append]
  clear hcell hrow hF2
  gi_wp2_with (first | (refine ⟨trivial, ?_⟩; gi_at_call 91; refine (callsIn_wide.2 (rowOf_any s _)).mono ?_; rintro e w' ⟨rfl, rfl⟩; rw [<- hw2]; clear hw2) | (refine ⟨trivial, ?_⟩; gi_at_call 90; refine (callsIn_wide.2 hra).mono ?_; rintro e w4 ⟨rfl, rfl⟩))
  rw [<- hw4]
  clear hra hw4
  refine wpIn_rangeFunc_ownH rfl (by omega) (gf := 124) (lb := #[.pointer (some ⟨w2.heap.size, 0, none⟩), .pointer (some ⟨w2.heap.size + 1, 0, none⟩)]) rfl trivial (enters_of Tryz.func124 (by kernel_rfl) rfl)
    (row_stops hc4 hi4 hcell4 hrow4 hl (Below.refl _ _)) (fun h k => h.trans k) (fun W l o o' hl ho hc hw => belowK_b (Nat.le_refl _) W l o o' hl ho hc hw) (Below.refl _ _) (fun _ => rfl)
    (fun pre W => Below w4.heap.size w4 W /\ pre = [])
    (fun c pre W => Fst W w.heap.size (headW pre) true /\ Below w.heap.size w W /\ c = .ret /\ pre ≠ [])
    (OwnFrom.and (ownFrom_below (Nat.le_refl _) (Nat.le_refl _)) (fun _ _ _ _ h _ _ => h))
    (fun c => OwnFrom.and (fst_abides w.heap.size headW true _) (OwnFrom.and (ownFrom_below (Nat.le_refl _) hB4.size) (fun _ _ _ _ h _ _ => h)))
    ⟨Below.refl _ _, rfl⟩
    (fun x a' W => ∃ X, a' = { tmps := #[.pointer (some ⟨C, 0, none⟩), .bool s, undef, undef, .pointer (some ⟨w.heap.size, 0, none⟩), .pointer (some ⟨w.heap.size + 1, 0, none⟩), .pointer (some ⟨X, 0, none⟩), .pointer (some ⟨C, 0, none⟩), .bool s, .int .i64 (ix s : Int), .func (.func 124) #[] #[.pointer (some ⟨w2.heap.size, 0, none⟩), .pointer (some ⟨w2.heap.size + 1, 0, none⟩)], x.val, undef, undef], defers := [] } /\ WtAt W X x /\ w4.heap.size <= X) ?abides ?assign ?body ?done ?stop
  case abides =>
    intro x a' u W W' row hs hg hr
    obtain ⟨X, h1, h2, h3⟩ := hs
    exact ⟨X, h1, wtAt_abides X (fun _ : Unit => x) _ () W W' row h2 hg hr, h3⟩
  case assign =>
    rintro l pre x W K ⟨hB, HN⟩ hK
    unfold Wt.val at hK ⊢
    gi_wp2
    exact hK _ _ ((KeepsOthers.alloc W _).from _) ((below1 W _).mono hB.size) ⟨Below.al hB hB.size _, HN⟩ ⟨_, rfl, wtAt_new W x, hB.size⟩
  case body =>
    rintro l pre x a' W hl2 hr ⟨hB, rfl⟩ ⟨X, rfl, hX, hXl⟩ hlt
    have hF := hF4.below hB
    have hBw := below_nx hB4 hB (Nat.le_refl _)
    have c0 := hX.c0
    have c1 := hX.c1
    have c2 := hX.c2
    have k0 := hF.it.c0
    have k1 := hF.it.c1
    have k2 := hF.it.c2
    have k3 := hF.is.cell
    have f0 := hF.it.frozen 0
    have f1 := hF.it.frozen 1
    have f2 := hF.it.frozen 2
    have f3 := hF.is.frozen
    have hn0 : X ≠ w.heap.size := by omega
    have hn1 : X ≠ w.heap.size + 1 := by omega
    unfold Wt.val
    gi_wp2
    exact ⟨(fst_others W w.heap.size x true).from _, ⟨hF.set x true, fst_below hBw (Nat.le_refl _) x true, rfl, by simp⟩⟩
  case done =>
    rintro D ys W hD hys ⟨hB, he⟩ hK
    have HE : Hid (Value.tuple #[Wt.zero.val, .bool false] = F0) := Lib.hid (by rw [hF0, <- show ys = xs from hys, he]; rfl)
    clear hys he hF0
    have hF := hF4.below hB
    have hBw := below_nx hB4 hB (Nat.le_refl _)
    have k0 := hF.it.c0
    have k1 := hF.it.c1
    have k2 := hF.it.c2
    have k3 := hF.is.cell
    have f0 := hF.it.frozen 0
    have f1 := hF.it.frozen 1
    have f2 := hF.it.frozen 2
    have f3 := hF.is.frozen
    gi_wp2
    exact first_end F0 w _ D (by omega) .zero false _ _ _ _ _ _ _ _ _ _ _ _ (hF.set .zero false) (fst_below hBw (Nat.le_refl _) .zero false) ((fst_others W w.heap.size .zero false).same D _ hK rfl) HE
  case stop =>
    rintro D c pre W hD hpre ⟨hF, hB, rfl, hne⟩ hK
    have HE : Hid (Value.tuple #[(headW pre).val, .bool true] = F0) := Lib.hid (by
      rw [hF0]
      cases pre with
      | nil => exact absurd rfl hne
      | cons x t => obtain ⟨r, hr⟩ := hpre; rw [<- hr]; rfl)
    clear hpre hne hF0
    gi_wp2
    exact first_end F0 w W D (by omega) _ _ _ _ _ _ _ _ _ _ _ _ _ _ hF hB hK HE
end Go.Proofs.YtdijhgaaeifbfaaGreat.Mch
