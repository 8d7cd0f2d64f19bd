/-
  append of any row onto a row of the call's own, at the operation; what stays beside it.
-/
import Derived.Laws.AppendOwn
import Derived.Laws.OwnMore
import Derived.Test.YtbbgeopgigeioaaGMore
namespace Go.Proofs.Ytbbgeopgigeioaa
open Go.RowKit

theorem run_app_none {P : Program} (w : World) (base : Nat) (t ty e : TypeId) (i : TypeInfo) (size : Nat) (ht : P.underlying t = some (.slice e)) (hi : P.info? e = some i)
    (v : Value) (n c : Nat) (xs : List Value) (hown : w.ownsRow base e size v n xs) : (Builtin.append_ #[t, t] ty #[v, .slice none 0 c]).run P w = .ok v w := by
  rcases hown.2 with ⟨rfl, rfl⟩ | ⟨g, cap, cur, rfl, _, _, hnc, _⟩
  · simp [Builtin.append_, run_underlying ht, sizeOf, typeInfo, hi, Builtin.lenOf, Builtin.firstCells]
  · simp [Builtin.append_, run_underlying ht, sizeOf, typeInfo, hi, Builtin.lenOf, Builtin.firstCells, hnc, storeCells]
theorem wp_app {P : Program} {w : World} {lo hi : Nat} {o : Oper} {a : Act} {K : Act → World → Prop} {Q : Exit → Act → World → Prop} (s x : Operand) (t : TypeId)
    (ho : o.op = .call { callee := .builtin .append, args := #[s, x], argTypes := #[t, t] })
    (base : Nat) (e : TypeId) {i : TypeInfo} {z : Value} {size bytes : Nat} (ht : P.underlying t = some (.slice e)) (hi' : P.info? e = some i) (hz : i.zero = some z)
    (hsize : i.size = size) (hby : i.bytes = bytes) (hzs : z.cells.size = size) (hsz : 0 < size) (hb64 : bytes ≤ 64)
    {v : Value} {n : Nat} {xs : List Value} (hs : a.eval s = v) (hown : w.ownsRow base e size v n xs)
    {m : Nat} {xv : Value} {news : List Value} (hx : a.eval x = xv) (hf : Flat lo hi w size m xv news) (h1 : ∀ u ∈ news, u.oneCell' = true) (hn : n ≤ 1000000) (hm : m ≤ 1000000) (hbase : base ≤ w.heap.size)
    (h : ∀ v' w', w'.ownsRow base e size v' (n + m) (xs ++ news) → w.grownBy w' v.ownBlock → K (a.put o.dst v') w') : o.wp P a w K Q := by
  obtain ⟨hl, ad, cap, rfl, hc⟩ := hf
  cases ad with
  | none =>
    obtain rfl : m = 0 := by
      rcases hc with hc | ⟨b, off, hc, _⟩
      · exact hc
      · cases hc
    obtain rfl : news = [] := List.eq_nil_of_length_eq_zero (by simpa using hl)
    have hr := run_app_none (P := P) w base t o.type e i size ht hi' v n cap xs hown
    unfold Oper.wp execOp
    simp only [ho, resolve, invoke, builtin, Sem.run_bind, Sem.run_pure, Result.andThen_ok, List.map_toArray, List.map_cons, List.map_nil, hs, hx, hr]
    exact h v w (by simpa using hown) ⟨rfl, rfl, rfl, Nat.le_refl _, fun _ _ _ => rfl⟩
  | some ad =>
    have hm63 : n + m ≤ maxLen := by unfold maxLen; omega
    have hbb : (n + m) * bytes ≤ 140737488355328 := Nat.le_trans (Nat.mul_le_mul_left (n + m) hb64) (by omega)
    refine wp_append_own w s x t ho base e i z size bytes ht hi' hz hsize hby hzs hsz v n xs hs hown ad m cap news hx hl (fun j u hj => ?_) h1 hm63 hbb hbase (fun v' w' h2 h3 _ => h v' w' h2 h3)
    rcases hc with rfl | ⟨b, off, he, _, _, hc⟩
    · have := (List.getElem?_eq_some_iff.1 hj).1; omega
    · simp only [Option.some.injEq] at he
      subst he
      rw [show Addr.add ⟨b, off, none⟩ j = ⟨b, off + j, none⟩ by simp [Addr.add]]
      exact hc j u hj

/-- The same as one step of a region that draws; d: the slot that it fills. -/
theorem step_app {P : Program} {ops : Array Oper} {E : Prop} {w : World} {lo hi : Nat} {o : Oper} {a : Act} {K : Act → World → Prop} {Q : Exit → Act → World → Prop} (d : Option Tmp) (s x : Operand) (t : TypeId)
    (hg : o.guard = none) (hd : o.dst = d) (ho : o.op = .call { callee := .builtin .append, args := #[s, x], argTypes := #[t, t] })
    (base : Nat) (e : TypeId) {i : TypeInfo} {z : Value} {size bytes : Nat} (ht : P.underlying t = some (.slice e)) (hi' : P.info? e = some i) (hz : i.zero = some z)
    (hsize : i.size = size) (hby : i.bytes = bytes) (hzs : z.cells.size = size) (hsz : 0 < size) (hb64 : bytes ≤ 64)
    {v : Value} {n : Nat} {xs : List Value} (hs : a.eval s = v) (hown : w.ownsRow base e size v n xs)
    {m : Nat} {xv : Value} {news : List Value} (hx : a.eval x = xv) (hf : Flat lo hi w size m xv news) (h1 : ∀ u ∈ news, u.oneCell' = true) (hn : n ≤ 1000000) (hm : m ≤ 1000000) (hbase : base ≤ w.heap.size)
    (h : ∀ v' w', w'.ownsRow base e size v' (n + m) (xs ++ news) → w.grownBy w' v.ownBlock → K (a.put d v') w') : if Region.wanted o (yielded ops a.tmps) = true then Oper.wp P o a w K Q else E := by
  have hw : Region.wanted o (yielded ops a.tmps) = true := by simp [Region.wanted, hg]
  rw [if_pos hw]
  subst hd
  exact wp_app s x t ho base e ht hi' hz hsize hby hzs hsz hb64 hs hown hx hf h1 hn hm hbase h

section
variable {w w' : World} {base n s : Nat} {e : TypeId} {v : Value} {xs : List Value}
theorem grown_below (hown : w.ownsRow base e s v n xs) (hg : w.grownBy w' v.ownBlock) (hb : base ≤ w.heap.size) : Below base w w' :=
  ⟨hg.os, hg.tape, hg.output, hg.size, fun k hk => hg.block k (by omega) (fun e1 => by have := (hown.lt k e1.symm).1; omega)⟩
/-- A block of another type stays where a row grows. -/
theorem grown_other {B : Nat} {t : TypeId} {cs : Array Value} (hown : w.ownsRow base e s v n xs) (hg : w.grownBy w' v.ownBlock) (hb : Blk w B t cs) (ht : t ≠ e) : Blk w' B t cs :=
  (hg.block B hb.lt (fun e1 => by
    rcases hown.2 with ⟨rfl, _⟩ | ⟨g, cap, cur, rfl, _, hc, _⟩
    · cases e1
    · simp only [Value.ownBlock, Option.some.injEq] at e1
      subst e1
      rw [show w.heap[B]? = _ from hb] at hc
      simp only [Option.some.injEq, Obj.cells.injEq] at hc
      exact ht hc.2.1)).trans hb
end
/-- A row of the call's own, and one of one thing, as a row that may be appended. -/
theorem flat_one {W : World} {B s : Nat} {t : TypeId} {cs : List Value} (h : Blk W B t cs.toArray) (hl : cs.length = s) : Flat 0 W.heap.size W s 1 (.slice (some ⟨B, 0, none⟩) 1 1) cs :=
  ⟨by omega, _, _, rfl, .inr ⟨B, 0, rfl, Nat.zero_le _, h.lt, fun j u hj => by
    rw [Nat.zero_add]
    exact h.cell (by simpa using hj)⟩⟩
end Go.Proofs.Ytbbgeopgigeioaa
