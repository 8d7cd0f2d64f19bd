/-
  Rows of the reference: the walks of tollbarref08's Drop, Push, Pop.
-/
import Derived.Deep.RegionLaw
import Derived.Test.YtcllnblmcdgkiaaFOrder
namespace Go.Proofs.Ytcllnblmcdgkiaa
open Go.RowKit

theorem I64_get {xs : List Int} {j : Nat} {u : Value} (h : (I64 xs)[j]? = some u) : j < xs.length := by
  have := (List.getElem?_eq_some_iff.mp h).1
  simpa [I64] using this
theorem I64_one {xs : List Int} : ∀ u ∈ I64 xs, u.oneCell' = true := by intro x hx; simp [I64] at hx; obtain ⟨y, _, rfl⟩ := hx; rfl
/-- append onto a row of the call's own, as one step of a region that draws. -/
theorem step_append_own {P : Program} {ops : Array Oper} {o : Oper} {a : Act} {w : World} {K : Act → World → Prop} {Q : Exit → Act → World → Prop} {E : Prop}
    (hg : o.guard = none) (s x : Operand) (t : TypeId) (ho : o.op = .call { callee := .builtin .append, args := #[s, x], argTypes := #[t, t] })
    (base : Nat) (e : TypeId) (i : TypeInfo) (z : Value) (size bytes : Nat) (ht : P.underlying t = some (.slice e)) (hi : P.info? e = some i) (hz : i.zero = some z)
    (hsize : i.size = size) (hby : i.bytes = bytes) (hzs : z.cells.size = size) (hsz : 0 < size)
    (v : Value) (n : Nat) (xs : List Value) (hs : a.eval s = v) (hown : w.ownsRow base e size v n xs)
    (ad : Addr) (m c : Nat) (news : List Value) (hx : a.eval x = .slice (some ad) m c) (hl : news.length = m * size) (hnews : ∀ j u, news[j]? = some u → w.cell? (ad.add j) = some u) (h1 : ∀ u ∈ news, u.oneCell' = true)
    (h63 : n + m ≤ maxLen) (hbytes : (n + m) * bytes ≤ 140737488355328) (hbase : base ≤ w.heap.size)
    (h : ∀ v' w', w'.ownsRow base e size v' (n + m) (xs ++ news) → w.grownBy w' v.ownBlock → K (a.put o.dst v') w') :
    if Region.wanted o (yielded ops a.tmps) = true then Oper.wp P o a w K Q else E := by
  have hw : Region.wanted o (yielded ops a.tmps) = true := by simp [Region.wanted, hg]
  rw [if_pos hw]
  exact wp_append_own w s x t ho base e i z size bytes ht hi hz hsize hby hzs hsz v n xs hs hown ad m c news hx hl hnews h1 h63 hbytes hbase (fun v' w' h2 h3 _ => h v' w' h2 h3)

/-- A row of the call's own has grown: all that is older is as it was. -/
theorem but_own {w W W' : World} {n size : Nat} {e : TypeId} {v : Value} {xs : List Value} (h : But [] w W) (ho : W.ownsRow w.heap.size e size v n xs) (hg : W.grownBy W' v.ownBlock) : But [] w W' := by
  cases hv : v.ownBlock with
  | none => rw [hv] at hg; exact h.next (But.of_none hg [])
  | some g =>
    rw [hv] at hg
    exact h.own (But.of_some (S := [g]) hg (by simp)) (by have := (ho.lt g hv).1; simpa using this)
theorem own_turn {W : World} {base : Nat} {e : TypeId} {size n m : Nat} {v : Value} {xs ys : List Value} (h : W.ownsRow base e size v n xs) (hn : n = m) (hx : xs = ys) : W.ownsRow 0 e size v m ys := by
  subst hn hx; exact ownsRow_low h
theorem rdrop_not {R m : Nat} {xs : List Int} (i : Int) (w : World) (h : RefF w R m xs) (hl : xs.length ≤ 1024) (hm : i ∉ xs) :
    Calls Try.prog 14 #[.pointer (some ⟨R, 0, none⟩), .int .i64 i] w fun e w' => e = .returned (.int .i64 3) ∧ w' = w := by
  have hat := rat_any i w h hl
  rw [atV_not hm] at hat
  clear h hm hl
  go_enter Try.func14, Try.ntmps14
  go_wp2_with fail
  refine hat.mono ?_
  rintro e w ⟨rfl, rfl⟩
  go_wp2_with fail
  go_ret
  exact ⟨rfl, rfl⟩

set_option maxHeartbeats 1000000 in
theorem rdrop_row {R g cap : Nat} {p q : List Int} (i : Int) (w : World) (hat : Calls Try.prog 25 #[.pointer (some ⟨R, 0, none⟩), .int .i64 i] w fun e w' => e = .returned (.int .i64 (p.length : Int)) ∧ w' = w)
    (c0 : w.cell? ⟨R, 1, none⟩ = some (.slice (some ⟨g, 0, none⟩) (p.length + (q.length + 1)) cap)) (f0 : w.frozen? ⟨R, 1, none⟩ = false) (hR : R < w.heap.size)
    (hp : ∀ j u, (I64 p)[j]? = some u → w.cell? ((⟨g, 0, none⟩ : Addr).add j) = some u) (hq : ∀ j u, (I64 q)[j]? = some u → w.cell? ((⟨g, p.length + 1, none⟩ : Addr).add j) = some u)
    (hm : p.length + (q.length + 1) ≤ 1024) (hcap : p.length + (q.length + 1) ≤ cap) (hc1 : p.length + 1 < cap) :
    Calls Try.prog 14 #[.pointer (some ⟨R, 0, none⟩), .int .i64 i] w fun e w' => e = .returned (.int .i64 0) ∧ ∃ w1 sv', w' = w1.setCell ⟨R, 1, none⟩ sv' ∧ w1.ownsRow 0 3 1 sv' (p.length + q.length) (I64 p ++ I64 q) ∧ But [] w w1 := by
  obtain ⟨i0, hi, hz0, hz1, hz2⟩ := info_parts infoInt
  have hw : IntKind.i64.wrap ((p.length : Int) + 1) = (p.length : Int) + 1 := by rw [IntKind.wrap_i64]; omega
  have k0 : decide ((p.length : Int) < 0) = false := by simp
  have k1 : (0 : Int) ≤ (p.length : Int) := by omega
  have k2 : (p.length : Int) ≤ (p.length : Int) + ((q.length : Int) + 1) := by omega
  have k3 : (p.length : Int) ≤ (cap : Int) := by omega
  have k4 : (0 : Int) ≤ (p.length : Int) + 1 := by omega
  have k5 : (p.length : Int) + 1 ≤ (p.length : Int) + ((q.length : Int) + 1) := by omega
  have k6 : (p.length : Int) + 1 ≤ (cap : Int) := by omega
  have k7 : (p.length : Int) + ((q.length : Int) + 1) ≤ (cap : Int) := by omega
  have k8 : ¬ cap = p.length + 1 := by omega
  have k9 : ¬ (cap : Int) = (p.length : Int) + 1 := by omega
  have s1 := Lib.hid hp
  have s2 := Lib.hid hq
  clear hp hq
  go_enter Try.func14, Try.ntmps14
  go_wp2_with fail
  refine hat.mono ?_
  clear hat
  rintro e w ⟨rfl, rfl⟩
  go_wp2_with fail
  go_region_law (first
    | (refine step_append_own rfl (.const (.slice none 0 0)) (.tmp 17) 29 rfl w.heap.size 3 i0 (.int .i64 0) 1 8 Try.underlying29 hi hz0 hz1 hz2 rfl (by decide) (.slice none 0 0) 0 [] rfl (World.ownsRow_nil _ _ _ _) ⟨g, 0, none⟩ p.length cap (I64 p) rfl (by rw [I64_len]; omega) s1.out I64_one (by unfold maxLen; omega) (by omega) (Nat.le_refl _) ?_
       intro v1 w1 hown1 hg1
       have hB1 : But [] w w1 := (But.refl [] w).drew.next (But.of_none hg1 [])
       have c1 := hB1.cell c0 (by simp))
    | (refine step_append_own rfl (.tmp 18) (.tmp 25) 29 rfl w.heap.size 3 i0 (.int .i64 0) 1 8 Try.underlying29 hi hz0 hz1 hz2 rfl (by decide) v1 _ _ rfl hown1 ⟨g, p.length + 1, none⟩ _ _ (I64 q) rfl (by rw [I64_len]; omega) (fun j u hj => hB1.cell (s2.out j u hj) (by simp)) I64_one (by unfold maxLen; omega) (by omega) hB1.size ?_
       intro v2 w2 hown2 hg2
       obtain ⟨va, vn, vc, rfl⟩ := owns_slice hown2
       have hB2 : But [] w w2 := but_own hB1 hown1 hg2
       have c2 := hB2.cell c0 (by simp)
       have f2 := hB2.frozen f0 hR (by simp)
       have HO := Lib.hid hown2))
  all_goals go_wp2_with fail
  all_goals go_ret
  all_goals exact ⟨rfl, w2, _, rfl, own_turn HO.out (by omega) (by simp), hB2⟩

set_option maxHeartbeats 1000000 in
theorem rdrop_end {R g : Nat} {p : List Int} (i : Int) (w : World) (hat : Calls Try.prog 25 #[.pointer (some ⟨R, 0, none⟩), .int .i64 i] w fun e w' => e = .returned (.int .i64 (p.length : Int)) ∧ w' = w)
    (c0 : w.cell? ⟨R, 1, none⟩ = some (.slice (some ⟨g, 0, none⟩) (p.length + 1) (p.length + 1))) (f0 : w.frozen? ⟨R, 1, none⟩ = false) (hR : R < w.heap.size)
    (hp : ∀ j u, (I64 p)[j]? = some u → w.cell? ((⟨g, 0, none⟩ : Addr).add j) = some u) (hm : p.length + 1 ≤ 1024) :
    Calls Try.prog 14 #[.pointer (some ⟨R, 0, none⟩), .int .i64 i] w fun e w' => e = .returned (.int .i64 0) ∧ ∃ w1 sv', w' = w1.setCell ⟨R, 1, none⟩ sv' ∧ w1.ownsRow 0 3 1 sv' p.length (I64 p) ∧ But [] w w1 := by
  obtain ⟨i0, hi, hz0, hz1, hz2⟩ := info_parts infoInt
  have hw : IntKind.i64.wrap ((p.length : Int) + 1) = (p.length : Int) + 1 := by rw [IntKind.wrap_i64]; omega
  have k0 : decide ((p.length : Int) < 0) = false := by simp
  have k1 : (0 : Int) ≤ (p.length : Int) := by omega
  have k2 : (p.length : Int) ≤ (p.length : Int) + 1 := by omega
  have k4 : (0 : Int) ≤ (p.length : Int) + 1 := by omega
  have s1 := Lib.hid hp
  clear hp
  go_enter Try.func14, Try.ntmps14
  go_wp2_with fail
  refine hat.mono ?_
  clear hat
  rintro e w ⟨rfl, rfl⟩
  go_wp2_with fail
  go_region_law (first
    | (refine step_append_own rfl (.const (.slice none 0 0)) (.tmp 17) 29 rfl w.heap.size 3 i0 (.int .i64 0) 1 8 Try.underlying29 hi hz0 hz1 hz2 rfl (by decide) (.slice none 0 0) 0 [] rfl (World.ownsRow_nil _ _ _ _) ⟨g, 0, none⟩ p.length (p.length + 1) (I64 p) rfl (by rw [I64_len]; omega) s1.out I64_one (by unfold maxLen; omega) (by omega) (Nat.le_refl _) ?_
       intro v1 w1 hown1 hg1
       have hB1 : But [] w w1 := (But.refl [] w).drew.next (But.of_none hg1 [])
       have c1 := hB1.cell c0 (by simp))
    | (refine step_append_own rfl (.tmp 18) (.tmp 25) 29 rfl w.heap.size 3 i0 (.int .i64 0) 1 8 Try.underlying29 hi hz0 hz1 hz2 rfl (by decide) v1 _ _ rfl hown1 ⟨g, 0, none⟩ _ _ ([] : List Value) rfl (by simp) (fun j u hj => by simp at hj) (fun u hu => by cases hu) (by simp; unfold maxLen; omega) (by simp; omega) hB1.size ?_
       intro v2 w2 hown2 hg2
       obtain ⟨va, vn, vc, rfl⟩ := owns_slice hown2
       have hB2 : But [] w w2 := but_own hB1 hown1 hg2
       have c2 := hB2.cell c0 (by simp)
       have f2 := hB2.frozen f0 hR (by simp)
       have HO := Lib.hid hown2))
  all_goals go_wp2_with fail
  all_goals go_ret
  all_goals exact ⟨rfl, w2, _, rfl, own_turn HO.out (by simp) (by simp), hB2⟩

theorem erase_mid {p q : List Int} {i : Int} (h : i ∉ p) : (p ++ i :: q).erase i = p ++ q := by
  rw [List.erase_append_right _ h, List.erase_cons_head]
theorem atV_mid {p q : List Int} {i : Int} (h : i ∉ p) : atV (p ++ i :: q) i = (p.length : Int) := by
  have h1 : (p ++ i :: q)[p.length]? = some i := by simp
  rw [atV_first h1 (by simpa using h)]
theorem I64_app (p q : List Int) : I64 (p ++ q) = I64 p ++ I64 q := by simp [I64]
theorem rdrop_ok {R m : Nat} {p q : List Int} (i : Int) (w : World) (h : RefF w R m (p ++ i :: q)) (hi : i ∉ p) (hl : (p ++ i :: q).length ≤ 1024) :
    Calls Try.prog 14 #[.pointer (some ⟨R, 0, none⟩), .int .i64 i] w fun e w' => e = .returned (.int .i64 0) ∧ RefF w' R m (p ++ q) ∧ But [R] w w' := by
  have hat := rat_any i w h hl
  rw [atV_mid hi] at hat
  obtain ⟨sv, h3, h4⟩ := id h
  obtain ⟨-, c0, f0⟩ := cell2 h3
  have hn : (p ++ i :: q).length = p.length + (q.length + 1) := by simp
  rw [hn] at h4 hl
  rcases id h4.2 with ⟨_, h0⟩ | ⟨g, cap, cur, rfl, _, _, hcap, _⟩
  · omega
  have hcell := h4.cells (g := g) rfl
  have hp : ∀ j u, (I64 p)[j]? = some u → w.cell? ((⟨g, 0, none⟩ : Addr).add j) = some u := fun j u hj => hcell j u (by
    rw [I64_app, List.getElem?_append_left (by have := I64_get hj; rw [I64_len]; exact this)]; exact hj)
  by_cases hc : cap = p.length + 1
  · obtain rfl : q = [] := List.length_eq_zero_iff.mp (by omega)
    subst hc
    refine (rdrop_end i w hat c0 f0 h.lt hp (by simpa using hl)).mono ?_
    rintro e w' ⟨rfl, w1, sv', h5, h6, h7⟩
    exact ⟨rfl, h.of_set h5 (by simpa using h6) h7⟩
  · have hq : ∀ j u, (I64 q)[j]? = some u → w.cell? ((⟨g, p.length + 1, none⟩ : Addr).add j) = some u := fun j u hj => by
      have := hcell (p.length + 1 + j) u (by
        rw [show p ++ i :: q = (p ++ [i]) ++ q by simp, I64_app, List.getElem?_append_right (by rw [I64_len, List.length_append, List.length_singleton]; omega), I64_len]
        simpa using hj)
      have h0 : ¬ p.length + 1 + j = 0 := by omega
      simp only [Addr.add] at this ⊢
      first | simpa using this | (by_cases hj0 : j = 0 <;> simp_all)
    refine (rdrop_row i w hat c0 f0 h.lt hp hq hl hcap (by omega)).mono ?_
    rintro e w' ⟨rfl, w1, sv', h5, h6, h7⟩
    exact ⟨rfl, h.of_set h5 (by rw [I64_app]; simpa using h6) h7⟩
theorem rdrop_any {R m : Nat} {xs : List Int} (i : Int) (w : World) (h : RefF w R m xs) (hn : xs.Nodup) (hl : xs.length ≤ 1024) :
    Calls Try.prog 14 #[.pointer (some ⟨R, 0, none⟩), .int .i64 i] w fun e w' => e = .returned (.int .i64 (dropE xs i)) ∧ RefF w' R m (xs.erase i) ∧ But [R] w w' := by
  unfold dropE
  by_cases h2 : i ∈ xs
  · rw [if_pos h2]
    obtain ⟨p, q, rfl⟩ := List.append_of_mem h2
    rw [List.nodup_append] at hn
    have hip : i ∉ p := fun hm => hn.2.2 i hm i (by simp) rfl
    rw [erase_mid hip]
    exact rdrop_ok i w h hip hl
  · rw [if_neg h2, List.erase_of_not_mem h2]
    refine (rdrop_not i w h hl h2).mono ?_
    rintro e w' ⟨rfl, rfl⟩
    exact ⟨rfl, h, But.refl _ _⟩


/-! ### Push -/
theorem rpush_arg {R : Nat} (i : Int) (h : i < 0 ∨ 32 ≤ i) (w : World) :
    Calls Try.prog 10 #[.pointer (some ⟨R, 0, none⟩), .int .i64 i] w fun e w' => e = .returned (.int .i64 2) ∧ w' = w := by
  rcases h with h | h
  · have t1 : decide (i < 0) = true := by simpa using h
    go_enter Try.func10, Try.ntmps10
    go_wp2_with fail
    go_ret
    exact ⟨rfl, rfl⟩
  · have t1 : decide (i < 0) = false := by simp; omega
    have t2 : decide (32 ≤ i) = true := by simpa using h
    have t3 : ¬ i < 0 := by omega
    go_enter Try.func10, Try.ntmps10
    go_wp2_with fail
    go_ret
    exact ⟨rfl, rfl⟩
theorem rpush_have {R m : Nat} {xs : List Int} (i : Int) (w : World) (h : RefF w R m xs) (hl : xs.length ≤ 1024) (hm : i ∈ xs) (h1 : 0 ≤ i) (h2 : i < 32) :
    Calls Try.prog 10 #[.pointer (some ⟨R, 0, none⟩), .int .i64 i] w fun e w' => e = .returned (.int .i64 9) ∧ w' = w := by
  have hat := rat_any i w h hl
  obtain ⟨k, hk, hki, hv, _⟩ := atV_is hm
  rw [hv] at hat
  have t1 : decide (i < 0) = false := by simp; omega
  have t2 : decide (32 ≤ i) = false := by simp; omega
  have t3 : ¬ i < 0 := by omega
  have t4 : ¬ 32 ≤ i := by omega
  have k0 : decide ((0 : Int) ≤ (k : Int)) = true := by simp
  have k00 : (0 : Int) ≤ (k : Int) := by omega
  clear h hk hki hm hv
  go_enter Try.func10, Try.ntmps10
  go_wp2_with fail
  refine hat.mono ?_
  rintro e w ⟨rfl, rfl⟩
  go_wp2_with fail
  go_ret
  exact ⟨rfl, rfl⟩
theorem rpush_full {R m n cap : Nat} {a : Option Addr} (i : Int) (w : World) (hat : Calls Try.prog 25 #[.pointer (some ⟨R, 0, none⟩), .int .i64 i] w fun e w' => e = .returned (.int .i64 (-1)) ∧ w' = w) (h1 : 0 ≤ i) (h2 : i < 32)
    (cm : w.cell? ⟨R, 0, none⟩ = some (.int .i64 (m : Int))) (c0 : w.cell? ⟨R, 1, none⟩ = some (.slice a n cap)) (hf : m ≤ n) :
    Calls Try.prog 10 #[.pointer (some ⟨R, 0, none⟩), .int .i64 i] w fun e w' => e = .returned (.int .i64 4) ∧ But [] w w' := by
  have t1 : decide (i < 0) = false := by simp; omega
  have t2 : decide (32 ≤ i) = false := by simp; omega
  have t3 : ¬ i < 0 := by omega
  have t4 : ¬ 32 ≤ i := by omega
  have t5 : decide ((m : Int) ≤ (n : Int)) = true := by simp; omega
  have t6 : (m : Int) ≤ (n : Int) := by omega
  go_enter Try.func10, Try.ntmps10
  go_wp2_with fail
  refine hat.mono ?_
  clear hat
  rintro e w ⟨rfl, rfl⟩
  go_wp2_with fail
  go_quiet (fail)
  go_wp2_with fail
  go_ret
  exact ⟨rfl, (But.refl _ _).drewN _⟩
set_option maxHeartbeats 400000 in
theorem rpush_nil {R m : Nat} (i : Int) (w : World) (hat : Calls Try.prog 25 #[.pointer (some ⟨R, 0, none⟩), .int .i64 i] w fun e w' => e = .returned (.int .i64 (-1)) ∧ w' = w) (h1 : 0 ≤ i) (h2 : i < 32)
    (cm : w.cell? ⟨R, 0, none⟩ = some (.int .i64 (m : Int))) (c0 : w.cell? ⟨R, 1, none⟩ = some (.slice none 0 0)) (f0 : w.frozen? ⟨R, 1, none⟩ = false) (hR : R < w.heap.size) (hm0 : 0 < m) :
    Calls Try.prog 10 #[.pointer (some ⟨R, 0, none⟩), .int .i64 i] w fun e w' => e = .returned (.int .i64 0) ∧ ∃ w1 sv', w' = w1.setCell ⟨R, 1, none⟩ sv' ∧ w1.ownsRow 0 3 1 sv' 1 [.int .i64 i] ∧ But [] w w1 := by
  obtain ⟨i0, hi, hz0, hz1, hz2⟩ := info_parts infoInt
  have t1 : decide (i < 0) = false := by simp; omega
  have t2 : decide (32 ≤ i) = false := by simp; omega
  have t3 : ¬ i < 0 := by omega
  have t4 : ¬ 32 ≤ i := by omega
  have t5 : decide ((m : Int) ≤ 0) = false := by simp; omega
  have t6 : ¬ (m : Int) ≤ 0 := by omega
  have t7 : ¬ m = 0 := by omega
  have t8 : decide (m = 0) = false := decide_eq_false t7
  go_enter Try.func10, Try.ntmps10
  go_wp2_with fail
  refine hat.mono ?_
  clear hat
  rintro e w ⟨rfl, rfl⟩
  go_wp2_with fail
  go_quiet (fail)
  have c0d : (w.drewN nq).cell? ⟨R, 1, none⟩ = some (.slice none 0 0) := c0
  have f0d : (w.drewN nq).frozen? ⟨R, 1, none⟩ = false := f0
  have hRd : R < (w.drewN nq).heap.size := hR
  have hbd : But [] w (w.drewN nq) := (But.refl _ _).drewN _
  clear c0 f0 hR cm
  generalize w.drewN nq = wd at c0d f0d hRd hbd ⊢
  go_wp2_with (at_builtin; refine wpList_append_own _ rfl _ _ 29 rfl wd.heap.size 3 i0 (.int .i64 0) 1 8 Try.underlying29 hi hz0 hz1 hz2 rfl (by decide) _ 0 [] rfl (World.ownsRow_nil _ _ _ _) ⟨wd.heap.size, 0, none⟩ 1 1 [.int .i64 i] rfl rfl ?c1 ?c2 ?c3 ?c4 ?c5 ?_)
  case c1 => exact cell_one_new _ _ _
  case c2 => first | rfl | (intro x hx; simp at hx; subst hx; rfl)
  case c3 => unfold maxLen; omega
  case c4 => omega
  case c5 => first | exact Nat.le_refl _ | omega | (simp; done) | (simp; omega)
  intro v' w1 hown hgrow _
  obtain ⟨g', cap', rfl⟩ := ownsRow_succ hown
  have hg0 : wd.grownBy w1 none := (World.grownBy_alloc _ _ none).trans hgrow
  have k1 := World.grownBy.cell hg0 c0d (by simp)
  have kf : w1.frozen? ⟨R, 1, none⟩ = false := (World.frozen?_of_block (w := wd) (a := ⟨R, 1, none⟩) (hg0.block R hRd (by simp))).trans f0d
  have HB := Lib.hid (hbd.next (But.of_none hg0 []))
  have HO := Lib.hid (ownsRow_low hown)
  clear hown hgrow hg0 hbd
  go_wp2_with fail
  go_ret
  exact ⟨rfl, w1, _, rfl, HO.out, HB.out⟩
set_option maxHeartbeats 400000 in
theorem rpush_row {R m g cap : Nat} {ys : List Int} (i : Int) (w : World) (hat : Calls Try.prog 25 #[.pointer (some ⟨R, 0, none⟩), .int .i64 i] w fun e w' => e = .returned (.int .i64 (-1)) ∧ w' = w) (h1 : 0 ≤ i) (h2 : i < 32)
    (cm : w.cell? ⟨R, 0, none⟩ = some (.int .i64 (m : Int))) (c0 : w.cell? ⟨R, 1, none⟩ = some (.slice (some ⟨g, 0, none⟩) ys.length cap)) (f0 : w.frozen? ⟨R, 1, none⟩ = false) (hR : R < w.heap.size)
    (hrow : w.ownsRow 0 3 1 (.slice (some ⟨g, 0, none⟩) ys.length cap) ys.length (I64 ys)) (hm : ys.length ≤ 1024) (hm0 : ys.length < m) :
    Calls Try.prog 10 #[.pointer (some ⟨R, 0, none⟩), .int .i64 i] w fun e w' => e = .returned (.int .i64 0) ∧ ∃ w1 sv', w' = w1.setCell ⟨R, 1, none⟩ sv' ∧ w1.ownsRow 0 3 1 sv' (ys.length + 1) (I64 ys ++ [.int .i64 i]) ∧ But [] w w1 := by
  obtain ⟨i0, hi, hz0, hz1, hz2⟩ := info_parts infoInt
  have t1 : decide (i < 0) = false := by simp; omega
  have t2 : decide (32 ≤ i) = false := by simp; omega
  have t3 : ¬ i < 0 := by omega
  have t4 : ¬ 32 ≤ i := by omega
  have t5 : decide ((m : Int) ≤ (ys.length : Int)) = false := by simp; omega
  have t6 : ¬ (m : Int) ≤ (ys.length : Int) := by omega
  have t7 : ¬ m ≤ ys.length := by omega
  have t8 : decide (m ≤ ys.length) = false := decide_eq_false t7
  go_enter Try.func10, Try.ntmps10
  go_wp2_with fail
  refine hat.mono ?_
  clear hat
  rintro e w ⟨rfl, rfl⟩
  go_wp2_with fail
  go_quiet (fail)
  have c0d : (w.drewN nq).cell? ⟨R, 1, none⟩ = some (.slice (some ⟨g, 0, none⟩) ys.length cap) := c0
  have f0d : (w.drewN nq).frozen? ⟨R, 1, none⟩ = false := f0
  have hRd : R < (w.drewN nq).heap.size := hR
  have hbd : But [] w (w.drewN nq) := (But.refl _ _).drewN _
  have hrd : (w.drewN nq).ownsRow 0 3 1 (.slice (some ⟨g, 0, none⟩) ys.length cap) ys.length (I64 ys) := hrow
  clear c0 f0 hR cm hrow
  generalize w.drewN nq = wd at c0d f0d hRd hbd hrd ⊢
  go_wp2_with (at_builtin; refine wpList_append_own _ rfl _ _ 29 rfl wd.heap.size 3 i0 (.int .i64 0) 1 8 Try.underlying29 hi hz0 hz1 hz2 rfl (by decide) _ 0 [] rfl (World.ownsRow_nil _ _ _ _) ⟨g, 0, none⟩ ys.length cap (I64 ys) rfl ?c0 ?c1 ?c2 ?c3 ?c4 ?c5 ?_)
  case c0 => rw [I64_len]; omega
  case c1 =>
    intro j u hj
    have := hrd.cellAt j (by have := I64_get hj; omega)
    by_cases h0 : j = 0
    · subst h0; simpa [Addr.add] using this.trans hj
    · simpa [Addr.add, h0] using this.trans hj
  case c2 => exact I64_one
  case c3 => unfold maxLen; omega
  case c4 => omega
  try (case c5 => first | exact Nat.le_refl _ | omega | (simp; done) | (simp; omega))
  intro v1 w1 hown hgrow _
  have hg0 : wd.grownBy w1 none := hgrow
  clear hgrow
  have hsz := hg0.size
  have hown' : w1.ownsRow wd.heap.size 3 1 v1 ys.length (I64 ys) := by simpa using hown
  replace hown := hown'
  clear hown'
  go_wp2_with (at_builtin; refine wpList_append_own _ rfl _ _ 29 rfl wd.heap.size 3 i0 (.int .i64 0) 1 8 Try.underlying29 hi hz0 hz1 hz2 rfl (by decide) _ ys.length (I64 ys) rfl (hown.alloc _) ⟨w1.heap.size, 0, none⟩ 1 1 [.int .i64 i] rfl rfl ?c1 ?c2 ?c3 ?c4 ?c5 ?_)
  case c1 => exact cell_one_new _ _ _
  case c2 => first | rfl | (intro x hx; simp at hx; subst hx; rfl)
  case c3 => unfold maxLen; omega
  case c4 => omega
  try (case c5 => first | exact Nat.le_refl _ | omega | (simp; done) | (simp; omega))
  intro v2 w2 hown2 hgrow2 _
  obtain ⟨g', cap', rfl⟩ := ownsRow_succ hown2
  have hg1 : wd.grownBy w2 none := by
    refine ⟨hgrow2.os.trans hg0.os, hgrow2.tape.trans hg0.tape, hgrow2.output.trans hg0.output, Nat.le_trans hsz (Nat.le_trans (by simp) hgrow2.size), fun k hk _ => ?_⟩
    refine (hgrow2.block k (by simp; omega) ?_).trans ((Below.heap_alloc w1 _ k (by omega)).trans (hg0.block k hk (by simp)))
    intro e
    rcases hown.2 with ⟨rfl, _⟩ | ⟨q, cp, cur, rfl, hb, _⟩
    · simp [Value.ownBlock] at e
    · simp [Value.ownBlock] at e; omega
  have k1 := World.grownBy.cell hg1 c0d (by simp)
  have kf : w2.frozen? ⟨R, 1, none⟩ = false := (World.frozen?_of_block (w := wd) (a := ⟨R, 1, none⟩) (hg1.block R hRd (by simp))).trans f0d
  have HB := Lib.hid (hbd.next (But.of_none hg1 []))
  have HO := Lib.hid (ownsRow_low hown2)
  clear hown hown2 hgrow2 hg0 hg1 hbd hrd
  go_wp2_with fail
  go_ret
  exact ⟨rfl, w2, _, rfl, HO.out, HB.out⟩
theorem rpush_any {R m : Nat} {xs : List Int} (i : Int) (w : World) (h : RefF w R m xs) (hl : xs.length ≤ m) (hm : m ≤ 32) (hm0 : 1 ≤ m) :
    Calls Try.prog 10 #[.pointer (some ⟨R, 0, none⟩), .int .i64 i] w fun e w' => e = .returned (.int .i64 (pushE m xs i)) ∧ RefF w' R m (pushX m xs i) ∧ But [R] w w' := by
  unfold pushE pushX
  by_cases h1 : i < 0 ∨ 32 ≤ i
  · rw [if_pos h1, if_pos h1]
    refine (rpush_arg i h1 w).mono ?_
    rintro e w ⟨rfl, rfl⟩
    exact ⟨rfl, h, But.refl _ _⟩
  · rw [if_neg h1, if_neg h1]
    by_cases h2 : i ∈ xs
    · rw [if_pos h2, if_pos h2]
      refine (rpush_have i w h (by omega) h2 (by omega) (by omega)).mono ?_
      rintro e w ⟨rfl, rfl⟩
      exact ⟨rfl, h, But.refl _ _⟩
    · rw [if_neg h2, if_neg h2]
      have hat := rat_any i w h (by omega)
      rw [atV_not h2] at hat
      obtain ⟨sv, h3, h4⟩ := id h
      obtain ⟨cm, c0, f0⟩ := cell2 h3
      by_cases h9 : xs.length = m
      · rw [if_pos h9, if_pos h9]
        obtain ⟨p, c, rfl⟩ := (RowI.of_owns (ownsRow_low h4)).slice
        refine (rpush_full i w hat (by omega) (by omega) cm c0 (by omega)).mono ?_
        rintro e w' ⟨rfl, hb⟩
        exact ⟨rfl, h.fresh hb, hb.mono (by simp)⟩
      · rw [if_neg h9, if_neg h9]
        rcases h4.2 with ⟨rfl, h0⟩ | ⟨g, cap, cur, rfl, _⟩
        · obtain rfl : xs = [] := List.length_eq_zero_iff.mp h0
          refine (rpush_nil i w hat (by omega) (by omega) cm c0 f0 h.lt (by omega)).mono ?_
          rintro e w' ⟨rfl, w1, sv', h5, h6, h7⟩
          exact ⟨rfl, h.of_set h5 h6 h7⟩
        · refine (rpush_row i w hat (by omega) (by omega) cm c0 f0 h.lt h4 (by omega) (by omega)).mono ?_
          rintro e w' ⟨rfl, w1, sv', h5, h6, h7⟩
          exact ⟨rfl, h.of_set h5 (by rw [I64_snoc]; simpa using h6) h7⟩

/-! ### Pop -/
set_option maxHeartbeats 400000 in
theorem rpop_raw {R g cap : Nat} {x : Int} {t : List Int} (w : World) (hx : w.cell? ⟨g, 0, none⟩ = some (.int .i64 x))
    (c0 : w.cell? ⟨R, 1, none⟩ = some (.slice (some ⟨g, 0, none⟩) (t.length + 1) cap)) (f0 : w.frozen? ⟨R, 1, none⟩ = false) (hR : R < w.heap.size)
    (ht : ∀ j u, (I64 t)[j]? = some u → w.cell? ((⟨g, 1, none⟩ : Addr).add j) = some u) (hm : t.length + 1 ≤ 1024) (hcap : t.length + 1 ≤ cap) :
    Calls Try.prog 12 #[.pointer (some ⟨R, 0, none⟩)] w fun e w' => e = .returned (.tuple #[.int .i64 x, .int .i64 0]) ∧ ∃ w1 sv', w' = w1.setCell ⟨R, 1, none⟩ sv' ∧ w1.ownsRow 0 3 1 sv' t.length (I64 t) ∧ But [] w w1 := by
  obtain ⟨i0, hi, hz0, hz1, hz2⟩ := info_parts infoInt
  have k0 : ((t.length : Int) + 1 == 0) = false := by simp; omega
  have k1 : (0 : Int) < (t.length : Int) + 1 := by omega
  have k2 : (1 : Int) ≤ (t.length : Int) + 1 := by omega
  have k3 : (t.length : Int) + 1 ≤ (cap : Int) := by omega
  have HT := Lib.hid ht
  clear ht
  by_cases hc : cap = 1
  · obtain rfl : t = [] := List.length_eq_zero_iff.mp (by omega)
    subst hc
    go_enter Try.func12, Try.ntmps12
    go_wp2_with fail
    go_ret2
    exact ⟨rfl, w, .slice none 0 0, rfl, World.ownsRow_nil _ _ _ _, But.refl _ _⟩
  · have hc2 : ¬ (cap : Int) = 1 := by omega
    go_enter Try.func12, Try.ntmps12
    go_wp2_with (at_builtin; refine wpList_append_own _ rfl _ _ 29 rfl w.heap.size 3 i0 (.int .i64 0) 1 8 Try.underlying29 hi hz0 hz1 hz2 rfl (by decide) _ 0 [] rfl (World.ownsRow_nil _ _ _ _) ⟨g, 1, none⟩ t.length _ (I64 t) rfl (by rw [I64_len]; omega) HT.out I64_one (by unfold maxLen; omega) (by omega) (Nat.le_refl _) ?_)
    intro v1 w1 hown hgrow _
    obtain ⟨va, vn, vc, rfl⟩ := owns_slice hown
    have hB : But [] w w1 := But.of_none hgrow []
    have c2 := hB.cell c0 (by simp)
    have f2 := hB.frozen f0 hR (by simp)
    have HO := Lib.hid hown
    clear hown hgrow
    go_wp2_with fail
    go_ret2
    exact ⟨rfl, w1, _, rfl, own_turn HO.out (by simp) (by simp), hB⟩
theorem rpop_any {R m : Nat} {xs : List Int} (w : World) (h : RefF w R m xs) (hl : xs.length ≤ 1024) :
    Calls Try.prog 12 #[.pointer (some ⟨R, 0, none⟩)] w fun e w' => e = .returned (.tuple #[.int .i64 (xs.head?.getD 0), .int .i64 (popE xs)]) ∧ RefF w' R m xs.tail ∧ But [R] w w' := by
  obtain ⟨sv, h3, h4⟩ := id h
  obtain ⟨-, c0, f0⟩ := cell2 h3
  cases xs with
  | nil =>
    obtain ⟨p, c, rfl⟩ := (RowI.of_owns (ownsRow_low h4)).slice
    rw [List.length_nil] at c0
    clear h3 h4
    go_enter Try.func12, Try.ntmps12
    go_wp2_with fail
    go_ret2
    exact ⟨rfl, h, But.refl _ _⟩
  | cons x t =>
    rcases id h4.2 with ⟨_, h0⟩ | ⟨g, cap, cur, rfl, _, _, hcap, _⟩
    · simp at h0
    rw [List.length_cons] at c0 hl hcap h4
    have hcell := h4.cells (g := g) rfl
    have hx : w.cell? ⟨g, 0, none⟩ = some (.int .i64 x) := by
      have := hcell 0 (.int .i64 x) (by simp [I64])
      simpa [Addr.add] using this
    have ht : ∀ j u, (I64 t)[j]? = some u → w.cell? ((⟨g, 1, none⟩ : Addr).add j) = some u := fun j u hj => by
      have := hcell (j + 1) u (by simpa [I64] using hj)
      rw [add_off] at this ⊢
      rw [show 1 + j = 0 + (j + 1) by omega]; exact this
    refine (rpop_raw w hx c0 f0 h.lt ht hl hcap).mono ?_
    rintro e w' ⟨rfl, w1, sv', h5, h6, h7⟩
    exact ⟨by simp [popE], h.of_set h5 h6 h7⟩
end Go.Proofs.Ytcllnblmcdgkiaa
