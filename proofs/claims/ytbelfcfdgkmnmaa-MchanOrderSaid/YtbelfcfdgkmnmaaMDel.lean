/-
  The walk of slices.Delete of the first one of a row.
-/
import Derived.Lib.SlicesDelete
import Derived.Test.YtbelfcfdgkmnmaaMPure
namespace Go.Proofs.Ytbelfcfdgkmnmaa
open Go.RowKit

theorem setCells_heap (g : Nat) (e : TypeId) (z : Nat × Nat) : ∀ (vs : List Value) (o : Nat) (W : World) (cur : Array Value), W.heap[g]? = some (.cells cur e z) → (W.setCells g o vs).heap[g]? = some (.cells (Lib.lay cur o vs) e z)
  | [], _, _, _, h => h
  | v :: r, o, _, _, h => setCells_heap g e z r (o + 1) _ _ (heap_setCell_same (k := o) v h)
theorem setCells_grown (g : Nat) : ∀ (vs : List Value) (o : Nat) (W : World), W.grownBy (W.setCells g o vs) (some g)
  | [], _, _ => ⟨rfl, rfl, rfl, Nat.le_refl _, fun _ _ _ => rfl⟩
  | v :: r, o, W => (grownBy_setCell W ⟨g, o, none⟩ v).trans (setCells_grown g r (o + 1) _)

theorem run_clear_one (w : World) (t e ty : TypeId) (z : Value) (zs : List Value) (ht : Try.prog.underlying t = some (.slice e)) (hv : ∀ w, (zeroValue e).run Try.prog w = .ok z w) (hz : (Builtin.zeroCells z.cells 1).toList = zs) (h1 : ∀ u ∈ zs, u.oneCell' = true) (b o c : Nat)
    (hc : ∀ j, j < zs.length → (w.cell? ⟨b, o + j, none⟩).isSome = true) (hf : ∀ j, j < zs.length → w.frozen? ⟨b, o + j, none⟩ = false) :
    (Builtin.clear_ #[t] ty #[.slice (some ⟨b, o, none⟩) 1 c]).run Try.prog w = .ok (.tuple #[]) (w.setCells b o zs) := by
  have hst := run_storeCells_cells (P := Try.prog) b o zs 0 w (by simpa using hc) (by simpa using hf) h1
  simp only [Nat.add_zero] at hst
  simp [Builtin.clear_, run_underlying ht, hv, hz, hst]

def zero3 : List Value := [.int .i64 0, .int .i64 0, .int .i64 0]

set_option maxRecDepth 100000 in
set_option maxHeartbeats 1000000 in
theorem delete_first {b : Nat} {v : Value} {x : Wt} {t : List Wt} (w : World) (hrow : w.ownsRow b 31 3 v (t.length + 1) (flatW (x :: t))) :
    Calls Try.prog 35 #[v, .int .i64 0, .int .i64 1] w fun e w' => ∃ v', e = .returned v' ∧ v'.ownBlock = v.ownBlock ∧ w'.ownsRow b 31 3 v' t.length (flatW t) ∧ w.grownBy w' v.ownBlock := by
  obtain ⟨i0, hi, hz0, hz1, hz2⟩ := info_parts infoWait
  obtain ⟨hlen, hr⟩ := hrow
  rcases hr with ⟨_, h0⟩ | ⟨g, cap, cur, rfl, hg, hb, hn, hm, hcs, ht⟩
  · omega
  obtain ⟨n, hnt⟩ : ∃ n, n = t.length := ⟨_, rfl⟩
  obtain ⟨news, hnews⟩ : ∃ news, news = flatW t := ⟨_, rfl⟩
  have hnl : news.length = n * 3 := by rw [hnews, flatW_len, hnt]
  have hbd : w.drew.heap[g]? = some (.cells cur 31 (0, 0)) := hb
  have hcell : ∀ k, w.drew.cell? ⟨g, k, none⟩ = cur[k]? := fun k => by simp only [World.cell?, hbd]; rfl
  have hfro : ∀ k, w.drew.frozen? ⟨g, k, none⟩ = false := fun k => by simp only [World.frozen?, hbd]; rfl
  have hold : ∀ k, k < n * 3 → cur[3 + k]? = news[k]? := fun k hk => by
    have h1 : (cur.toList.take ((t.length + 1) * 3))[3 + k]? = (flatW (x :: t))[3 + k]? := by rw [ht]
    rw [List.getElem?_take, if_pos (by omega)] at h1
    rw [← Array.getElem?_toList, h1, hnews]
    rw [Nat.add_comm 3 k]
    rfl
  obtain ⟨A, hA, hsrc⟩ : ∃ A : Addr, (if cap = 1 then (some ⟨g, 0, none⟩ : Option Addr) else some ⟨g, 3, none⟩) = some A ∧ Hid (∀ j u, news[j]? = some u → w.drew.cell? (A.add j) = some u) := by
    by_cases h : cap = 1
    · refine ⟨⟨g, 0, none⟩, by simp [h], Lib.hid fun j u hu => ?_⟩
      have hj : j < news.length := (List.getElem?_eq_some_iff.1 hu).1
      omega
    · refine ⟨⟨g, 3, none⟩, by simp [h], Lib.hid fun j u hu => ?_⟩
      have hj : j < news.length := (List.getElem?_eq_some_iff.1 hu).1
      rw [Addr.add_lit, hcell, hold j (by omega)]
      exact hu
  have s1 : Hid (∀ u ∈ news, u.oneCell' = true) := Lib.hid (by rw [hnews]; exact flatW_one t)
  have s2 : Hid (∀ j, j < news.length → (w.drew.cell? ⟨g, 0 + 0 * 3 + j, none⟩).isSome = true ∧ w.drew.frozen? ⟨g, 0 + 0 * 3 + j, none⟩ = false) := Lib.hid fun j hj => ⟨by rw [hcell, Array.getElem?_eq_getElem (by omega)]; rfl, hfro _⟩
  obtain ⟨W1, hW1⟩ : ∃ W1, W1 = w.drew.setCells g (0 + 0 * 3) news := ⟨_, rfl⟩
  have hb1 : W1.heap[g]? = some (.cells (Lib.lay cur 0 news) 31 (0, 0)) := by rw [hW1]; exact setCells_heap g _ _ news _ _ _ hbd
  have hg1 : w.grownBy W1 (some g) := by
    rw [hW1]
    have := setCells_grown g news (0 + 0 * 3) w.drew
    exact ⟨this.os, this.tape, this.output, this.size, this.block⟩
  have hcl : ∀ ty, (Builtin.clear_ #[38] ty #[.slice (some ⟨g, n * 3, none⟩) 1 (cap - n)]).run Try.prog W1 = .ok (.tuple #[]) (W1.setCells g (n * 3) zero3) := fun ty =>
    run_clear_one W1 _ 31 ty (.agg #[.int .i64 0, .int .i64 0, .int .i64 0]) zero3 Try.underlying38 (fun _ => by kernel_rfl) (by kernel_rfl) (by simp [zero3, Value.oneCell']) g (n * 3) (cap - n)
      (fun j hj => by simp only [World.cell?, hb1]; show (Lib.lay cur 0 news)[n * 3 + j]?.isSome = true; rw [Array.getElem?_eq_getElem (by rw [Lib.lay_size]; simp [zero3] at hj; omega)]; rfl) (fun j hj => by simp only [World.frozen?, hb1]; rfl)
  have H2 : Hid ((W1.setCells g (n * 3) zero3).ownsRow b 31 3 (.slice (some ⟨g, 0, none⟩) n cap) n news ∧ w.grownBy (W1.setCells g (n * 3) zero3) (some g)) := Lib.hid (by
    refine ⟨⟨hnl, .inr ⟨g, cap, _, rfl, hg, setCells_heap g _ _ zero3 _ _ _ hb1, by omega, hm, by rw [Lib.lay_size, Lib.lay_size, hcs], ?_⟩⟩, hg1.trans (setCells_grown g _ _ _)⟩
    apply List.ext_getElem?
    intro k
    rw [List.getElem?_take]
    split
    · rw [Array.getElem?_toList, Lib.lay_get? _ _ _ _ (by rw [Lib.lay_size]; simp [zero3]; omega), if_neg (by omega), Lib.lay_get? _ _ _ _ (by omega), if_pos (by omega)]
      rfl
    · rw [List.getElem?_eq_none (by omega)])
  have HW : Hid (W1 = w.drew.setCells g (0 + 0 * 3) news) := Lib.hid hW1
  rw [← hnt] at hn ⊢
  rw [← hnews]
  have hj1 : (1 : Int) ≤ (n : Int) + 1 := by omega
  have hc1 : (n : Int) + 1 ≤ (cap : Int) := by omega
  have hm1 : cap ≤ 9223372036854775807 := by unfold maxLen at hm; omega
  clear hlen hb hcs ht hnt hnews hbd hcell hfro hold hW1 hb1 hg1 hm
  go_enter Try.func35, Try.ntmps35
  go_wp2_with fail
  go_region_law (refine step_append_room rfl (.tmp 22) (.tmp 25) 38 rfl 31 i0 3 Try.underlying38 hi hz1 g 0 0 cap (by simp [Act.eval, Act.put]) A n (cap - 1) news (by simp [Act.eval, Act.put]) hnl hsrc.out s1.out (by omega) s2.out ?_; rw [← HW.out])
  go_wp2_with fail
  go_ret
  exact ⟨_, rfl, rfl, H2.out.1, H2.out.2⟩
end Go.Proofs.Ytbelfcfdgkmnmaa
