/-
  Queues of the reference: the walks of tollbarref07's Drop, Pop.
-/
import Derived.Deep.RegionLaw
import Derived.Test.YtkpnkhakjgfgfaaLRef
namespace Go.Proofs.Ytkpnkhakjgfgfaa.Lq
open Go.RowKit

/-- append onto a row of the call's own, as one step of a region that draws. -/
theorem step_append_own {P : Program} {ops : Array Oper} {o : Oper} {a : Act} {w : World} {K : Act → World → Prop} {Q : Exit → Act → World → Prop} {E : Prop}
    (hg : o.guard = none) (s x : Operand) (t : TypeId) (ho : o.op = .call { callee := .builtin .append, args := #[s, x], argTypes := #[t, t] })
    (base : Nat) (e : TypeId) (i : TypeInfo) (z : Value) (size bytes : Nat) (ht : P.underlying t = some (.slice e)) (hi : P.info? e = some i) (hz : i.zero = some z)
    (hsize : i.size = size) (hby : i.bytes = bytes) (hzs : z.cells.size = size) (hsz : 0 < size)
    (v : Value) (n : Nat) (xs : List Value) (hs : a.eval s = v) (hown : w.ownsRow base e size v n xs)
    (ad : Addr) (m c : Nat) (news : List Value) (hx : a.eval x = .slice (some ad) m c) (hl : news.length = m * size) (hnews : ∀ j u, news[j]? = some u → w.cell? (ad.add j) = some u) (h1 : ∀ u ∈ news, u.oneCell' = true)
    (h63 : n + m ≤ maxLen) (hbytes : (n + m) * bytes ≤ 140737488355328) (hbase : base ≤ w.heap.size)
    (h : ∀ v' w', w'.ownsRow base e size v' (n + m) (xs ++ news) → w.grownBy w' v.ownBlock → K (a.put o.dst v') w') :
    if Region.wanted o (yielded ops a.tmps) = true then Oper.wp P o a w K Q else E := by
  have hw : Region.wanted o (yielded ops a.tmps) = true := by simp [Region.wanted, hg]
  rw [if_pos hw]
  exact wp_append_own w s x t ho base e i z size bytes ht hi hz hsize hby hzs hsz v n xs hs hown ad m c news hx hl hnews h1 h63 hbytes hbase (fun v' w' h2 h3 _ => h v' w' h2 h3)

/-- A row of the call's own has grown: all that is older is as it was. -/
theorem but_own {w W W' : World} {n size : Nat} {e : TypeId} {v : Value} {xs : List Value} (h : But [] w W) (ho : W.ownsRow w.heap.size e size v n xs) (hg : W.grownBy W' v.ownBlock) : But [] w W' := by
  cases hv : v.ownBlock with
  | none => rw [hv] at hg; exact h.next (But.of_none hg [])
  | some g =>
    rw [hv] at hg
    exact h.own (But.of_some (S := [g]) hg (by simp)) (by have := (ho.lt g hv).1; simpa using this)
theorem own_turn {W : World} {base : Nat} {e : TypeId} {size n m : Nat} {v : Value} {xs ys : List Value} (h : W.ownsRow base e size v n xs) (hn : n = m) (hx : xs = ys) : W.ownsRow 0 e size v m ys := by
  subst hn hx; exact ownsRow_low h
theorem rdrop_not {R : Nat} {xs : List Int} (i : Int) (w : World) (h : RefL w R xs) (hl : xs.length ≤ 1024) (hm : i ∉ xs) :
    Calls Try.prog 26 #[.pointer (some ⟨R, 0, none⟩), .int .i64 i] w fun e w' => e = .returned (.int .i64 3) ∧ w' = w := by
  have hat := at_any i w h hl
  rw [atV_not hm] at hat
  clear h hm hl
  go_enter Try.func26, Try.ntmps26
  go_wp2_with fail
  refine hat.mono ?_
  rintro e w ⟨rfl, rfl⟩
  go_wp2_with fail
  go_ret
  exact ⟨rfl, rfl⟩

set_option maxHeartbeats 1000000 in
theorem rdrop_row {R g cap : Nat} {p q : List Int} (i : Int) (w : World) (hat : Calls Try.prog 43 #[.pointer (some ⟨R, 0, none⟩), .int .i64 i] w fun e w' => e = .returned (.int .i64 (p.length : Int)) ∧ w' = w)
    (c0 : w.cell? ⟨R, 0, none⟩ = some (.slice (some ⟨g, 0, none⟩) (p.length + (q.length + 1)) cap)) (f0 : w.frozen? ⟨R, 0, none⟩ = false) (hR : R < w.heap.size)
    (hp : ∀ j u, (I64 p)[j]? = some u → w.cell? ((⟨g, 0, none⟩ : Addr).add j) = some u) (hq : ∀ j u, (I64 q)[j]? = some u → w.cell? ((⟨g, p.length + 1, none⟩ : Addr).add j) = some u)
    (hm : p.length + (q.length + 1) ≤ 1024) (hcap : p.length + (q.length + 1) ≤ cap) (hc1 : p.length + 1 < cap) :
    Calls Try.prog 26 #[.pointer (some ⟨R, 0, none⟩), .int .i64 i] w fun e w' => e = .returned (.int .i64 0) ∧ ∃ w1 sv', w' = w1.setCell ⟨R, 0, none⟩ sv' ∧ w1.ownsRow 0 3 1 sv' (p.length + q.length) (I64 p ++ I64 q) ∧ But [] w w1 := by
  obtain ⟨i0, hi, hz0, hz1, hz2⟩ := info_parts infoInt
  have hw : IntKind.i64.wrap ((p.length : Int) + 1) = (p.length : Int) + 1 := by rw [IntKind.wrap_i64]; omega
  have k0 : decide ((p.length : Int) < 0) = false := by simp
  have k1 : (0 : Int) ≤ (p.length : Int) := by omega
  have k2 : (p.length : Int) ≤ (p.length : Int) + ((q.length : Int) + 1) := by omega
  have k3 : (p.length : Int) ≤ (cap : Int) := by omega
  have k4 : (0 : Int) ≤ (p.length : Int) + 1 := by omega
  have k5 : (p.length : Int) + 1 ≤ (p.length : Int) + ((q.length : Int) + 1) := by omega
  have k6 : (p.length : Int) + 1 ≤ (cap : Int) := by omega
  have k7 : (p.length : Int) + ((q.length : Int) + 1) ≤ (cap : Int) := by omega
  have k8 : ¬ cap = p.length + 1 := by omega
  have k9 : ¬ (cap : Int) = (p.length : Int) + 1 := by omega
  have s1 := Lib.hid hp
  have s2 := Lib.hid hq
  clear hp hq
  go_enter Try.func26, Try.ntmps26
  go_wp2_with fail
  refine hat.mono ?_
  clear hat
  rintro e w ⟨rfl, rfl⟩
  go_wp2_with fail
  go_region_law (first
    | (refine step_append_own rfl (.const (.slice none 0 0)) (.tmp 17) 61 rfl w.heap.size 3 i0 (.int .i64 0) 1 8 Try.underlying61 hi hz0 hz1 hz2 rfl (by decide) (.slice none 0 0) 0 [] rfl (World.ownsRow_nil _ _ _ _) ⟨g, 0, none⟩ p.length cap (I64 p) rfl (by rw [I64_len]; omega) s1.out I64_one (by unfold maxLen; omega) (by omega) (Nat.le_refl _) ?_
       intro v1 w1 hown1 hg1
       have hB1 : But [] w w1 := (But.refl [] w).drew.next (But.of_none hg1 [])
       have c1 := hB1.cell c0 (by simp))
    | (refine step_append_own rfl (.tmp 18) (.tmp 25) 61 rfl w.heap.size 3 i0 (.int .i64 0) 1 8 Try.underlying61 hi hz0 hz1 hz2 rfl (by decide) v1 _ _ rfl hown1 ⟨g, p.length + 1, none⟩ _ _ (I64 q) rfl (by rw [I64_len]; omega) (fun j u hj => hB1.cell (s2.out j u hj) (by simp)) I64_one (by unfold maxLen; omega) (by omega) hB1.size ?_
       intro v2 w2 hown2 hg2
       obtain ⟨va, vn, vc, rfl⟩ := owns_slice hown2
       have hB2 : But [] w w2 := but_own hB1 hown1 hg2
       have c2 := hB2.cell c0 (by simp)
       have f2 := hB2.frozen f0 hR (by simp)
       have HO := Lib.hid hown2))
  all_goals go_wp2_with fail
  all_goals go_ret
  all_goals exact ⟨rfl, w2, _, rfl, own_turn HO.out (by omega) (by simp), hB2⟩

set_option maxHeartbeats 1000000 in
theorem rdrop_end {R g : Nat} {p : List Int} (i : Int) (w : World) (hat : Calls Try.prog 43 #[.pointer (some ⟨R, 0, none⟩), .int .i64 i] w fun e w' => e = .returned (.int .i64 (p.length : Int)) ∧ w' = w)
    (c0 : w.cell? ⟨R, 0, none⟩ = some (.slice (some ⟨g, 0, none⟩) (p.length + 1) (p.length + 1))) (f0 : w.frozen? ⟨R, 0, none⟩ = false) (hR : R < w.heap.size)
    (hp : ∀ j u, (I64 p)[j]? = some u → w.cell? ((⟨g, 0, none⟩ : Addr).add j) = some u) (hm : p.length + 1 ≤ 1024) :
    Calls Try.prog 26 #[.pointer (some ⟨R, 0, none⟩), .int .i64 i] w fun e w' => e = .returned (.int .i64 0) ∧ ∃ w1 sv', w' = w1.setCell ⟨R, 0, none⟩ sv' ∧ w1.ownsRow 0 3 1 sv' p.length (I64 p) ∧ But [] w w1 := by
  obtain ⟨i0, hi, hz0, hz1, hz2⟩ := info_parts infoInt
  have hw : IntKind.i64.wrap ((p.length : Int) + 1) = (p.length : Int) + 1 := by rw [IntKind.wrap_i64]; omega
  have k0 : decide ((p.length : Int) < 0) = false := by simp
  have k1 : (0 : Int) ≤ (p.length : Int) := by omega
  have k2 : (p.length : Int) ≤ (p.length : Int) + 1 := by omega
  have k4 : (0 : Int) ≤ (p.length : Int) + 1 := by omega
  have s1 := Lib.hid hp
  clear hp
  go_enter Try.func26, Try.ntmps26
  go_wp2_with fail
  refine hat.mono ?_
  clear hat
  rintro e w ⟨rfl, rfl⟩
  go_wp2_with fail
  go_region_law (first
    | (refine step_append_own rfl (.const (.slice none 0 0)) (.tmp 17) 61 rfl w.heap.size 3 i0 (.int .i64 0) 1 8 Try.underlying61 hi hz0 hz1 hz2 rfl (by decide) (.slice none 0 0) 0 [] rfl (World.ownsRow_nil _ _ _ _) ⟨g, 0, none⟩ p.length (p.length + 1) (I64 p) rfl (by rw [I64_len]; omega) s1.out I64_one (by unfold maxLen; omega) (by omega) (Nat.le_refl _) ?_
       intro v1 w1 hown1 hg1
       have hB1 : But [] w w1 := (But.refl [] w).drew.next (But.of_none hg1 [])
       have c1 := hB1.cell c0 (by simp))
    | (refine step_append_own rfl (.tmp 18) (.tmp 25) 61 rfl w.heap.size 3 i0 (.int .i64 0) 1 8 Try.underlying61 hi hz0 hz1 hz2 rfl (by decide) v1 _ _ rfl hown1 ⟨g, 0, none⟩ _ _ ([] : List Value) rfl (by simp) (fun j u hj => by simp at hj) (fun u hu => by cases hu) (by simp; unfold maxLen; omega) (by simp; omega) hB1.size ?_
       intro v2 w2 hown2 hg2
       obtain ⟨va, vn, vc, rfl⟩ := owns_slice hown2
       have hB2 : But [] w w2 := but_own hB1 hown1 hg2
       have c2 := hB2.cell c0 (by simp)
       have f2 := hB2.frozen f0 hR (by simp)
       have HO := Lib.hid hown2))
  all_goals go_wp2_with fail
  all_goals go_ret
  all_goals exact ⟨rfl, w2, _, rfl, own_turn HO.out (by simp) (by simp), hB2⟩

theorem atV_mid {p q : List Int} {i : Int} (h : i ∉ p) : atV (p ++ i :: q) i = (p.length : Int) := by
  have h1 : (p ++ i :: q)[p.length]? = some i := by simp
  rw [atV, idx_first h1 (by simpa using h)]
theorem I64_app (p q : List Int) : I64 (p ++ q) = I64 p ++ I64 q := by simp [I64]
theorem rdrop_ok {R : Nat} {p q : List Int} (i : Int) (w : World) (h : RefL w R (p ++ i :: q)) (hi : i ∉ p) (hl : (p ++ i :: q).length ≤ 1024) :
    Calls Try.prog 26 #[.pointer (some ⟨R, 0, none⟩), .int .i64 i] w fun e w' => e = .returned (.int .i64 0) ∧ RefL w' R (p ++ q) ∧ But [R] w w' := by
  have hat := at_any i w h hl
  rw [atV_mid hi] at hat
  obtain ⟨sv, h3, h4⟩ := id h
  obtain ⟨c0, f0⟩ := cell1 h3
  have hn : (p ++ i :: q).length = p.length + (q.length + 1) := by simp
  rw [hn] at h4 hl
  rcases id h4.2 with ⟨_, h0⟩ | ⟨g, cap, cur, rfl, _, _, hcap, _⟩
  · omega
  have hcell := h4.cells (g := g) rfl
  have hp : ∀ j u, (I64 p)[j]? = some u → w.cell? ((⟨g, 0, none⟩ : Addr).add j) = some u := fun j u hj => hcell j u (by
    rw [I64_app, List.getElem?_append_left (by have := I64_get hj; rw [I64_len]; exact this)]; exact hj)
  by_cases hc : cap = p.length + 1
  · obtain rfl : q = [] := List.length_eq_zero_iff.mp (by omega)
    subst hc
    refine (rdrop_end i w hat c0 f0 h.lt hp (by simpa using hl)).mono ?_
    rintro e w' ⟨rfl, w1, sv', h5, h6, h7⟩
    exact ⟨rfl, h.of_set h5 (by simpa using h6) h7⟩
  · have hq : ∀ j u, (I64 q)[j]? = some u → w.cell? ((⟨g, p.length + 1, none⟩ : Addr).add j) = some u := fun j u hj => by
      have := hcell (p.length + 1 + j) u (by
        rw [show p ++ i :: q = (p ++ [i]) ++ q by simp, I64_app, List.getElem?_append_right (by rw [I64_len, List.length_append, List.length_singleton]; omega), I64_len]
        simpa using hj)
      have h0 : ¬ p.length + 1 + j = 0 := by omega
      simp only [Addr.add] at this ⊢
      first | simpa using this | (by_cases hj0 : j = 0 <;> simp_all)
    refine (rdrop_row i w hat c0 f0 h.lt hp hq hl hcap (by omega)).mono ?_
    rintro e w' ⟨rfl, w1, sv', h5, h6, h7⟩
    exact ⟨rfl, h.of_set h5 (by rw [I64_app]; simpa using h6) h7⟩
theorem rdrop_any {R : Nat} {xs : List Int} (i : Int) (w : World) (h : RefL w R xs) (hn : xs.Nodup) (hl : xs.length ≤ 1024) :
    Calls Try.prog 26 #[.pointer (some ⟨R, 0, none⟩), .int .i64 i] w fun e w' => e = .returned (.int .i64 (dropE xs i)) ∧ RefL w' R (xs.erase i) ∧ But [R] w w' := by
  unfold dropE
  by_cases h2 : i ∈ xs
  · rw [if_pos h2]
    obtain ⟨p, q, rfl⟩ := List.append_of_mem h2
    rw [List.nodup_append] at hn
    have hip : i ∉ p := fun hm => hn.2.2 i hm i (by simp) rfl
    rw [erase_mid hip]
    exact rdrop_ok i w h hip hl
  · rw [if_neg h2, List.erase_of_not_mem h2]
    refine (rdrop_not i w h hl h2).mono ?_
    rintro e w' ⟨rfl, rfl⟩
    exact ⟨rfl, h, But.refl _ _⟩

end Go.Proofs.Ytkpnkhakjgfgfaa.Lq
