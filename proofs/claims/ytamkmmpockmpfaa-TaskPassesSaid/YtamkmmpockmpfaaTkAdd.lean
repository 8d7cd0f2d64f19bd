/-
  The walk of task.Add.
-/
import Derived.Deep.RegionHeld3
import Derived.Deep.RegionLaw
import Derived.Test.YtamkmmpockmpfaaTkNew
namespace Go.Proofs.Ytamkmmpockmpfaa
open Go.RowKit

theorem infoTk : (Try.prog.info? 61).map (fun i => (i.zero, i.size, i.bytes)) = some (some (.pointer none), 1, 8) := by kernel_rfl
/-- append(l, p), as one step of a region that draws. -/
theorem step_app_tk {ops : Array Oper} {E : Prop} {w : World} {o : Oper} {a : Act} {K : Act → World → Prop} {Q : Exit → Act → World → Prop} (s x : Operand) (hg : o.guard = none) (ho : o.op = .call { callee := .builtin .append, args := #[s, x], argTypes := #[57, 57] })
    {v : Value} {n : Nat} {xs : List Value} (hs : a.eval s = v) (hown : w.ownsRow 0 61 1 v n xs) {ad : Addr} (hx : a.eval x = .slice (some ad) 1 1) {y : Option Addr} (hc : w.cell? ad = some (.pointer y)) (hn : n ≤ 32)
    (h : ∀ v' w', w'.ownsRow 0 61 1 v' (n + 1) (xs ++ [.pointer y]) → w.grownBy w' v.ownBlock → (v'.ownBlock = v.ownBlock ∨ v'.ownBlock = some w.heap.size) → K (a.put o.dst v') w') : if Region.wanted o (yielded ops a.tmps) = true then Oper.wp Try.prog o a w K Q else E := by
  have hw : Region.wanted o (yielded ops a.tmps) = true := by simp [Region.wanted, hg]
  rw [if_pos hw]
  obtain ⟨i, hi, hz0, hz1, hz2⟩ := info_parts infoTk
  obtain ⟨v', w', hr, h2, h3, _, h5⟩ := run_append_own_at (P := Try.prog) w 0 57 o.type 61 i (.pointer none) 1 8 Try.underlying57 hi hz0 hz1 hz2 rfl (by decide) v n xs hown ad 1 1 [.pointer y] rfl
    (fun j u hj => by
      have : j = 0 := by have := (List.getElem?_eq_some_iff.1 hj).1; simpa using this
      subst this
      simp only [List.getElem?_cons_zero, Option.some.injEq] at hj
      subst hj
      have e0 : ad.add 0 = ad := by simp [Addr.add]
      rw [e0]; exact hc) (by intro u hu; simp only [List.mem_singleton] at hu; subst hu; rfl) (by unfold maxLen; omega) (by omega) (Nat.zero_le _)
  unfold Oper.wp execOp
  simp only [ho, resolve, invoke, builtin, Sem.run_bind, Sem.run_pure, Result.andThen_ok, List.map_toArray, List.map_cons, List.map_nil, hs, hx, hr]
  exact h v' w' h2 h3 h5

def newTk (p : Prg) (f : Fra) : Tk := ⟨1, f, 0, [], p.sites.map fun x => Od.rise x.cs.length⟩
/-- One task more. -/
theorem Tab.add {W W' : World} {A : Ad} {s : Tb} {R' : Value} {a' : Ta} {k' : Tk} (h : Tab W A s) (hb : But (A.T :: A.R.ownBlock.toList) W W') (hT : Blk W' A.T 59 #[A.v1, A.v2, A.v3, R'])
    (hrow : W'.ownsRow 0 61 1 R' (s.ts.length + 1) (A.ks.map ptrT ++ [ptrT a'])) (hR : ∀ g, R'.ownBlock = some g → A.R.ownBlock = some g ∨ W.heap.size ≤ g)
    (hk : TkAt W' a' k') (hnew : ∀ x ∈ a'.foot, W.heap.size ≤ x) (hl : s.ts.length < 32) :
    Tab W' { A with R := R', ks := A.ks ++ [a'] } { s with ts := s.ts ++ [k'] } ∧ Turn W W' A { A with R := R', ks := A.ks ++ [a'] } := by
  have hold : ∀ (i : Nat) (a : Ta), A.ks[i]? = some a → ∃ k, s.ts[i]? = some k ∧ TkAt W a k := fun i a ha => by
    have hi : i < s.ts.length := by rw [← h.len]; exact (List.getElem?_eq_some_iff.1 ha).1
    exact ⟨_, List.getElem?_eq_getElem hi, h.each i a _ ha (List.getElem?_eq_getElem hi)⟩
  have hS : ∀ (i : Nat) (a : Ta), A.ks[i]? = some a → ∀ x ∈ a.foot, x ∉ A.T :: A.R.ownBlock.toList := fun i a ha x hx hm => by
    obtain ⟨k, _, hK⟩ := hold i a ha
    rcases List.mem_cons.1 hm with rfl | hm
    · exact hK.ne hx h.blk (by decide) rfl
    · obtain ⟨cur, hc⟩ := owns_lt h.row (by simpa using hm)
      exact hK.ne hx hc (by decide) rfl
  have hout : ∀ x ∈ A.T :: A.R.ownBlock.toList, x < A.lo ∨ A.hi ≤ x := fun x hx => by
    rcases List.mem_cons.1 hx with rfl | hx
    · exact h.out _ A.foot_T
    · exact h.out x (Ad.foot_R (by simpa using hx))
  have hget : ∀ (j : Nat) (b : Ta), (A.ks ++ [a'])[j]? = some b → (j = A.ks.length ∧ b = a') ∨ (j < A.ks.length ∧ A.ks[j]? = some b) := fun j b hj => by
    by_cases e : j < A.ks.length
    · rw [List.getElem?_append_left e] at hj; exact .inr ⟨e, hj⟩
    · have := (List.getElem?_eq_some_iff.1 hj).1
      simp only [List.length_append, List.length_singleton] at this
      have e2 : j = A.ks.length := by omega
      rw [List.getElem?_append_right (by omega), e2, Nat.sub_self] at hj
      exact .inl ⟨e2, (Option.some.inj hj).symm⟩
  have hfoot : ∀ x ∈ ({ A with R := R', ks := A.ks ++ [a'] } : Ad).foot, x ∈ A.foot ∨ W.heap.size ≤ x := fun x hx => by
    rcases Ad.of_foot hx with rfl | hg | ⟨j, b, hb', hx'⟩
    · exact .inl A.foot_T
    · rcases hR x hg with q | q
      · exact .inl (Ad.foot_R q)
      · exact .inr q
    · rcases hget j b hb' with ⟨_, rfl⟩ | ⟨_, hj⟩
      · exact .inr (hnew x hx')
      · exact .inl (Ad.foot_k hj hx')
  have hlt : ∀ (j : Nat) (b : Ta), A.ks[j]? = some b → ∀ x ∈ b.foot, x < W.heap.size := fun j b hj x hx => h.lt (Ad.foot_k hj hx)
  refine ⟨⟨hT, h.prg.stay (fun b h1 h2 => hb.block b (Nat.lt_of_lt_of_le h2 h.prg.top) (fun hbs => by have := hout b hbs; omega)) (Nat.le_trans h.prg.top hb.size), h.small, h.may, ?_, by simp [h.len], by simp; omega, ?_, ?_, ?_⟩, rfl, hb.mono fun x hx => ?_, hfoot⟩
  · simpa using hrow
  · intro j b q hj hq
    rcases hget j b hj with ⟨e, rfl⟩ | ⟨e, hj⟩
    · rw [List.getElem?_append_right (by rw [e, h.len]; exact Nat.le_refl _), e, h.len, Nat.sub_self] at hq
      obtain rfl := Option.some.inj hq
      exact hk
    · rw [List.getElem?_append_left (by rw [← h.len]; exact e)] at hq
      exact (h.each j b q hj hq).but hb (hS j b hj)
  · intro j1 j2 b1 b2 hne h1 h2 x hx1 hx2
    rcases hget j1 b1 h1 with ⟨e1, q1⟩ | ⟨e1, g1⟩
    · rcases hget j2 b2 h2 with ⟨e2, q2⟩ | ⟨e2, g2⟩
      · exact hne (e1.trans e2.symm)
      · rw [q1] at hx1; have := hnew x hx1; have := hlt j2 b2 g2 x hx2; omega
    · rcases hget j2 b2 h2 with ⟨e2, q2⟩ | ⟨e2, g2⟩
      · rw [q2] at hx2; have := hnew x hx2; have := hlt j1 b1 g1 x hx1; omega
      · exact h.apart j1 j2 b1 b2 hne g1 g2 x hx1 hx2
  · intro x hx
    rcases hfoot x hx with q | q
    · exact h.out x q
    · have := h.prg.top; exact .inr (by show A.hi ≤ x; omega)
  · rcases List.mem_cons.1 hx with rfl | hx
    · exact A.foot_T
    · exact Ad.foot_R (by simpa using hx)

theorem add_nil (f : Fra) (w : World) :
    Calls Try.prog 7 #[.pointer none, fraV f] w fun e w' => e = .returned (.tuple #[.int .i64 0, .int .i64 1]) ∧ But [] w w' := by
  have hb := (But.refl [] w).alloc (.cells (fraA f) 38)
  go_enter Try.func7, Try.ntmps7
  go_wp2_with fail
  go_ret2
  exact ⟨rfl, hb⟩
end Go.Proofs.Ytamkmmpockmpfaa
