/-
  append of any row of ints onto none, at the operation.
-/
import Derived.Laws.AppendOwn
import Derived.Test.YtbjfongjdlankaaUBase
namespace Go.Proofs.Ytbjfongjdlankaa
open Go.RowKit

theorem run_app_none {P : Program} (w : World) (t ty e : TypeId) (i : TypeInfo) (ht : P.underlying t = some (.slice e)) (hi : P.info? e = some i) (c : Nat) :
    (Builtin.append_ #[t, t] ty #[.slice none 0 0, .slice none 0 c]).run P w = .ok (.slice none 0 0) w := by
  simp [Builtin.append_, run_underlying ht, sizeOf, typeInfo, hi, Builtin.lenOf, Builtin.firstCells]
theorem wp_app_nil {w : World} {o : Oper} {a : Act} {K : Act → World → Prop} {Q : Exit → Act → World → Prop} (s x : Operand) (ho : o.op = .call { callee := .builtin .append, args := #[s, x], argTypes := #[23, 23] })
    {b : Option Addr} {kap : Nat} {l : List Int} (hs : a.eval s = .slice none 0 0) (hx : a.eval x = .slice b l.length kap) (hr : RowA w b l) (hl : l.length ≤ 4096)
    (h : ∀ b' kap' w', RowT w' b' kap' l → But [] w w' → K (a.put o.dst (.slice b' l.length kap')) w') : o.wp Try.prog a w K Q := by
  obtain ⟨i0, hi, hz0, hz1, hz2⟩ := info_parts infoInt
  cases b with
  | none =>
    have h0 : l = [] := by
      rcases Nat.eq_zero_or_pos l.length with h0 | h0
      · exact List.length_eq_zero_iff.1 h0
      · obtain ⟨b, off, he, _⟩ := hr h0; cases he
    subst h0
    have hrun := run_app_none (P := Try.prog) w 23 o.type 3 i0 Try.underlying23 hi kap
    rw [List.length_nil] at hx
    unfold Oper.wp execOp
    simp only [ho, resolve, invoke, builtin, Sem.run_bind, Sem.run_pure, Result.andThen_ok, List.map_toArray, List.map_cons, List.map_nil, hs, hx, hrun]
    exact h none 0 w (RowT.nil _ _ _) (But.refl _ _)
  | some ad =>
    have hcs : ∀ j u, (I64 l)[j]? = some u → w.cell? (ad.add j) = some u := fun j u hj => by
      have hjl : j < l.length := by have := (List.getElem?_eq_some_iff.1 hj).1; rwa [I64_len] at this
      obtain ⟨b, off, he, hc⟩ := hr (by omega)
      obtain rfl := Option.some.inj he
      rw [show Addr.add ⟨b, off, none⟩ j = ⟨b, off + j, none⟩ by simp [Addr.add], hc j hjl, ← hj, I64_at hjl]
    refine wp_append_own w s x 23 ho w.heap.size 3 i0 (.int .i64 0) 1 8 Try.underlying23 hi hz0 hz1 hz2 rfl (by decide) (.slice none 0 0) 0 [] hs (World.ownsRow_nil _ _ _ _) ad l.length kap (I64 l) hx (by rw [I64_len]; omega) hcs I64_one (by unfold maxLen; omega) (by omega) (Nat.le_refl _) ?_
    intro v' w' hown hg _
    have hown' : w'.ownsRow w.heap.size 3 1 v' l.length (I64 l) := by simpa using hown
    obtain ⟨b', kap', rfl, hR⟩ := RowT.of_owns hown'
    exact h b' kap' w' hR (But.of_none hg [])
theorem step_app_nil {ops : Array Oper} {E : Prop} {w : World} {o : Oper} {a : Act} {K : Act → World → Prop} {Q : Exit → Act → World → Prop} (s x : Operand) (hg : o.guard = none) (ho : o.op = .call { callee := .builtin .append, args := #[s, x], argTypes := #[23, 23] })
    {b : Option Addr} {kap : Nat} {l : List Int} (hs : a.eval s = .slice none 0 0) (hx : a.eval x = .slice b l.length kap) (hr : RowA w b l) (hl : l.length ≤ 4096)
    (h : ∀ b' kap' w', RowT w' b' kap' l → But [] w w' → K (a.put o.dst (.slice b' l.length kap')) w') : if Region.wanted o (yielded ops a.tmps) = true then Oper.wp Try.prog o a w K Q else E := by
  have hw : Region.wanted o (yielded ops a.tmps) = true := by simp [Region.wanted, hg]
  rw [if_pos hw]
  exact wp_app_nil s x ho hs hx hr hl h
theorem wpList_app_nil {ops : Array Oper} {rest : List Oper} {w : World} {o : Oper} {a : Act} {Q : Exit → Act → World → Prop} (hgd : o.guard = none) (s x : Operand) (ho : o.op = .call { callee := .builtin .append, args := #[s, x], argTypes := #[23, 23] })
    {b : Option Addr} {kap : Nat} {l : List Int} (hs : a.eval s = .slice none 0 0) (hx : a.eval x = .slice b l.length kap) (hr : RowA w b l) (hl : l.length ≤ 4096)
    (h : ∀ b' kap' w', RowT w' b' kap' l → But [] w w' → wpList Try.prog ops Q rest (a.put o.dst (.slice b' l.length kap')) w') : wpList Try.prog ops Q (o :: rest) a w := by
  refine wpList_plain hgd fun K' hK' => ?_
  exact wp_app_nil s x ho hs hx hr hl fun b' kap' w' h1 h2 => hK' _ _ (h b' kap' w' h1 h2)
end Go.Proofs.Ytbjfongjdlankaa
