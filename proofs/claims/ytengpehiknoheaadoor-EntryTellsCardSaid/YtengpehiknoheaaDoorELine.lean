/-
  The walk of Line.
-/
import Derived.Laws.IdiomStrings
import Derived.Test.YtengpehiknoheaaDoorEGet
import Derived.Test.YtengpehiknoheaaDoorELineP
namespace Go.Proofs.YtengpehiknoheaaDoor
open Go.RowKit Go.Shelf Oct

attribute [local go_sem] Oper.semAt_some

theorem itoa_pos (v : Int) : Lib.itoa v ≠ [] := by
  intro h
  have h2 := congrArg List.length h
  by_cases hv : 0 ≤ v
  · obtain ⟨u, rfl⟩ := Int.eq_ofNat_of_zero_le hv
    rw [Lib.itoa_nonneg, Lib.decDigits_length] at h2
    have := Lib.nDigits_pos u
    simp at h2; omega
  · obtain ⟨u, rfl⟩ : ∃ u : Nat, v = -(u : Int) := ⟨v.natAbs, by omega⟩
    rw [Lib.itoa_neg u (by omega)] at h2
    simp at h2
theorem piece_len {x : En} (hx : x.ok) (n : Nat) : (pieceL x n).length ≤ 21 := by
  unfold pieceL
  split
  · exact digits_len hx.s
  · have h := hx.get n
    have := Lib.itoa_length_le (x.get n) h.1 h.2
    omega
theorem lineH_len {x : En} (hx : x.ok) : (lineH x).length ≤ 30 := by
  have h := Lib.itoa_length_le x.a hx.a.1 hx.a.2
  have h2 := wordL_len x.k
  unfold lineH
  simp only [List.length_append, List.length_cons, List.length_nil]
  omega
theorem line_len {x : En} (hx : x.ok) : ∀ (ps : List Nat) (s : List UInt8), (ps.foldl (lineStep x) s).length ≤ s.length + 22 * ps.length
  | [], s => by simp
  | p :: ps, s => by
    have h1 := line_len hx ps (lineStep x s p)
    have h2 := piece_len hx p
    have h3 : (lineStep x s p).length = s.length + 1 + (pieceL x p).length := by simp [lineStep]; omega
    simp only [List.foldl_cons, List.length_cons]
    omega

structure LSt (w W : World) (L K : Nat) (x : En) (wd : ByteArray) (m : Nat) (bv : Value) : Prop where
  x : EnAt W w.heap.size x
  k : KdAt W K wd m
  box : Boxed W L 49 bv
  below : Below w.heap.size w W
  ltk : w.heap.size < K
  ltl : w.heap.size < L
  ne : K ≠ L
section
variable {w W W' : World} {L K : Nat} {x : En} {wd : ByteArray} {m : Nat} {bv : Value}
theorem LSt.fresh (h : LSt w W L K x wd m bv) (hb : But [] W W') : LSt w W' L K x wd m bv :=
  ⟨h.x.but hb (by simp), h.k.but hb (by simp), (hb.block _ (Boxed.lt h.box) (by simp)).trans h.box, h.below.trans (hb.below h.below.size (by simp)), h.ltk, h.ltl, h.ne⟩
theorem LSt.bys (h : LSt w W L K x wd m bv) (hb : Bys w.heap.size W W') : LSt w W' L K x wd m bv :=
  ⟨h.x.of_block (hb.same h.x (by decide)), Two.of_block h.k (hb.same h.k (by decide)), (hb.same h.box (by decide)).trans h.box, h.below.trans (hb.below h.below.size), h.ltk, h.ltl, h.ne⟩
theorem LSt.set (h : LSt w W L K x wd m bv) (v : Value) : LSt w (W.setCell ⟨L, 0, none⟩ v) L K x wd m v := by
  have hb := (But.refl [L] W).set (p := ⟨L, 0, none⟩) (.inl (by simp)) v
  have l1 := h.ltk
  have l2 := h.ltl
  have l3 := h.ne
  exact ⟨h.x.but hb (by simp; omega), h.k.but hb (by simpa using l3), Boxed.set _ h.box, h.below.trans (hb.below h.below.size (by simp; omega)), h.ltk, h.ltl, h.ne⟩
theorem BRow.set {base : Nat} {v bw : Value} {l : List UInt8} (h : BRow W base v l) (hL : Boxed W L 49 bw) (u : Value) : BRow (W.setCell ⟨L, 0, none⟩ u) base v l :=
  h.keep fun k' cs z hk' => ((But.refl [L] W).set (p := ⟨L, 0, none⟩) (.inl (by simp)) u).block k' (Array.getElem?_eq_some_iff.1 hk').1 (fun hm => by
    obtain rfl := List.mem_singleton.1 hm
    rw [show W.heap[k']? = _ from hL] at hk'
    simp only [Option.some.injEq, Obj.cells.injEq] at hk'
    exact absurd hk'.2.1 (by decide))
theorem lst_abides {β : Type} (w : World) (L K N : Nat) (x : En) (wd : ByteArray) (m : Nat) (f : β → List UInt8) (b : Nat) (hb : w.heap.size ≤ b) :
    OwnFrom b (fun (s : β) W => (∃ v, LSt w W L K x wd m v ∧ BRow W w.heap.size v (f s)) ∧ KdAt W N wd m) := fun s A W' row hs hg hr => by
  obtain ⟨⟨v, h, hrow⟩, hN⟩ := hs
  have hk : ∀ {k : Nat} {cs : Array Value} {t : TypeId} {z : Nat × Nat}, A.heap[k]? = some (.cells cs t z) → W'.heap[k]? = A.heap[k]? := fun h => cells_kept hg (fun r e => (hr r e).2) h
  exact ⟨⟨v, ⟨h.x.of_block (hk h.x), Two.of_block h.k (hk h.k), (hk h.box).trans h.box, ownFrom_below (β := Unit) (Nat.le_refl _) hb () A W' row h.below hg hr, h.ltk, h.ltl, h.ne⟩, hrow.keep fun _ _ _ hb => hk hb⟩, Two.of_block hN (hk hN)⟩
end
theorem line_end (w W : World) (D : Nat) (T : Array Value) (x : En) (s : ByteArray) (hs : s = ⟨(lineV x).toArray⟩) (h2 : T[2]?.getD undef = .string s) (h3 : T[3]?.getD undef = .int .i64 (checkE x)) (hB : Below w.heap.size w W) (hw : w.heap.size ≤ D) (hK : W.heap[D]? = some (.deferred (some []))) :
    bodyPostM Fence.wide 4 Tryd.prog Tryd.f7 (fun e w' => e = .returned (.tuple #[.string ⟨(lineV x).toArray⟩, .int .i64 (checkE x)]) ∧ Below w.heap.size w w') .ret
      { tmps := T, defers := [{ target := Target.collected D, args := #[] }] } W := by
  refine ⟨by simp, .inl ⟨_, _, rfl, run_takeDeferred hK, ?_⟩⟩
  refine ⟨.tuple #[.string s, .int .i64 (checkE x)], ?_, by rw [hs], hB.trans (belowK_b (w := w) (Nat.le_refl _) _ D _ _ hw hK rfl rfl)⟩
  simp [results, Tryd.f7, go_sem, h2, h3]

set_option maxRecDepth 100000 in
set_option maxHeartbeats 12800000 in
theorem eline_any (x : En) (hx : x.ok) (w : World) (hv : Vars w) :
    Calls Tryd.prog 7 #[x.val] w fun e w' => e = .returned (.tuple #[.string ⟨(lineV x).toArray⟩, .int .i64 (checkE x)]) ∧ Below w.heap.size w w' := by
  obtain ⟨wf, hwf⟩ : ∃ wf, wf = w.alloc (.cells #[.int .i64 x.a, .int .u8 (x.k : Int), .int .i64 x.w, .int .i64 x.t, .int .i64 x.p, .int .i64 x.c, .int .i64 x.b, .int .i64 x.q, .int .i64 x.v, .int .i64 x.u, .bool x.o, .int .i64 x.e, .int .u64 (x.s : Int)] 26) := ⟨_, rfl⟩
  have hB0 : Below w.heap.size w wf := by rw [hwf]; exact below1 w _
  have hX : EnAt wf w.heap.size x := by rw [hwf]; exact enAt_new w x
  obtain ⟨wd, hwd⟩ : ∃ wd : ByteArray, wd = ⟨(wordL x.k).toArray⟩ := ⟨_, rfl⟩
  obtain ⟨m, hm⟩ : ∃ m, m = maskN x.k := ⟨_, rfl⟩
  have hm64 : m < 18446744073709551616 := by have := maskN_lt x.k; omega
  have HN : Hid ((nsTo 13 m).map (·.val) = namesOf x.k) := Lib.hid (by rw [hm]; exact nsOf_map x.k)
  have hkv : kinV x.k = .agg #[.string wd, .int .u64 (m : Int)] := by rw [hwd, hm]; rfl
  have HWD := Lib.hid hwd
  clear hwd hm
  have hkX : ∀ W, Below wf.heap.size wf W → EnAt W w.heap.size x := fun W hW => hX.of_block (hW.block _ hX.lt)
  have hkS : ∀ W, Below wf.heap.size wf W → W.cell? ⟨w.heap.size, 0, none⟩ = some (.int .i64 x.a) ∧ W.cell? ⟨w.heap.size, 1, none⟩ = some (.int .u8 (x.k : Int)) ∧ W.cell? ⟨w.heap.size, 2, none⟩ = some (.int .i64 x.w) ∧ W.cell? ⟨w.heap.size, 3, none⟩ = some (.int .i64 x.t) ∧ W.cell? ⟨w.heap.size, 4, none⟩ = some (.int .i64 x.p) ∧ W.cell? ⟨w.heap.size, 5, none⟩ = some (.int .i64 x.c) ∧ W.cell? ⟨w.heap.size, 6, none⟩ = some (.int .i64 x.b) ∧ W.cell? ⟨w.heap.size, 7, none⟩ = some (.int .i64 x.q) ∧ W.cell? ⟨w.heap.size, 8, none⟩ = some (.int .i64 x.v) ∧ W.cell? ⟨w.heap.size, 9, none⟩ = some (.int .i64 x.u) ∧ W.cell? ⟨w.heap.size, 10, none⟩ = some (.bool x.o) ∧ W.cell? ⟨w.heap.size, 11, none⟩ = some (.int .i64 x.e) ∧ W.cell? ⟨w.heap.size, 12, none⟩ = some (.int .u64 (x.s : Int)) ∧ Below wf.heap.size wf W := fun W hW => by
    have h := hkX W hW
    exact ⟨h.c0, h.c1, h.c2, h.c3, h.c4, h.c5, h.c6, h.c7, h.c8, h.c9, h.c10, h.c11, h.c12, hW⟩
  have ck : ∀ W M, M = W.heap.size → Below wf.heap.size wf W → Calls Tryd.prog 20 #[] W fun e w' => e = .returned (.map (some M)) ∧ (∀ W', Below w'.heap.size w' W' → KMap W' M kindsL) ∧ Below wf.heap.size wf w' ∧ Below W.heap.size W w' := fun W M hM hW =>
    (kinds_any W).mono fun e w' ⟨h1, h2, h3⟩ => by
      subst hM
      exact ⟨h1, fun W' hW' => h2.fresh (But.of_below hW' []), below_nx hW h3 (Nat.le_refl _), h3⟩
  have co : ∀ W M, Below wf.heap.size wf W → KMap W M kindsL → Calls Tryd.prog 19 #[.map (some M), .agg #[.int .i64 x.a, .int .u8 (x.k : Int), .int .i64 x.w, .int .i64 x.t, .int .i64 x.p, .int .i64 x.c, .int .i64 x.b, .int .i64 x.q, .int .i64 x.v, .int .i64 x.u, .bool x.o, .int .i64 x.e, .int .u64 (x.s : Int)]] W fun e w' => e = .returned (.tuple #[.agg #[.string wd, .int .u64 (m : Int)], .bool (okB x)]) ∧ Below wf.heap.size wf w' ∧ Below W.heap.size W w' := fun W M hW hM => by
    have := kindOf_any M x hx W hM
    rw [hkv] at this
    exact this.mono fun e w' ⟨h1, h2⟩ => ⟨h1, below_nx hW h2 (Nat.le_refl _), h2⟩
  have r0 : Below wf.heap.size wf wf.drew := (Below.refl _ _).drew
  have r1 : ∀ o, Below wf.heap.size wf (wf.alloc o).drew := fun o => ((Below.refl _ _).alloc (Nat.le_refl _) o).drew
  have tw : Two (wf.alloc (.cells #[.string ⟨#[]⟩, .int .u64 0] 44)).drew wf.heap.size 44 (.string ⟨#[]⟩) (.int .u64 0) := two_new wf _ _ _
  have tl := tw.lt
  unfold En.val
  refine (callsIn_wide (n := 4)).1 ?_
  refine callsIn_of_wp_marks Tryd.func7 rfl trivial ?_ rfl
  simp only [Tryd.ntmps7, List.size_toArray, List.length_cons, List.length_nil, Nat.reduceAdd, Nat.reduceSub, Array.replicate_succ, Array.replicate_zero, List.push_toArray, List.append_toArray, List.nil_append, List.cons_append]
  refine wpIn_wide.2 ?_
  go_upto_region 1 with fail
  rw [← hwf]
  clear hwf hkv
  go_cut [4, 5] from 8 to 13 (fun kv bv W => ∃ B, kv = .pointer (some ⟨B, 0, none⟩) ∧ bv = .bool (okB x) ∧ KdAt W B wd m ∧ w.heap.size < B ∧ Below wf.heap.size wf W)
  case first =>
    go_region_held3 (fun w' => w'.cell? ⟨w.heap.size, 0, none⟩ = some (.int .i64 x.a) ∧ w'.cell? ⟨w.heap.size, 1, none⟩ = some (.int .u8 (x.k : Int)) ∧ w'.cell? ⟨w.heap.size, 2, none⟩ = some (.int .i64 x.w) ∧ w'.cell? ⟨w.heap.size, 3, none⟩ = some (.int .i64 x.t) ∧ w'.cell? ⟨w.heap.size, 4, none⟩ = some (.int .i64 x.p) ∧ w'.cell? ⟨w.heap.size, 5, none⟩ = some (.int .i64 x.c) ∧ w'.cell? ⟨w.heap.size, 6, none⟩ = some (.int .i64 x.b) ∧ w'.cell? ⟨w.heap.size, 7, none⟩ = some (.int .i64 x.q) ∧ w'.cell? ⟨w.heap.size, 8, none⟩ = some (.int .i64 x.v) ∧ w'.cell? ⟨w.heap.size, 9, none⟩ = some (.int .i64 x.u) ∧ w'.cell? ⟨w.heap.size, 10, none⟩ = some (.bool x.o) ∧ w'.cell? ⟨w.heap.size, 11, none⟩ = some (.int .i64 x.e) ∧ w'.cell? ⟨w.heap.size, 12, none⟩ = some (.int .u64 (x.s : Int)) ∧ Below wf.heap.size wf w')
      ((refine hkS _ ?_; with_reducible first | exact r0 | exact r1 _ | exact hb2 | exact hb3 | exact Below.al hb2 hb2.size _ | exact Below.al hb3 hb3.size _ | exact below_two hb3 hb2.size _ _ | exact below_two hb3 (Nat.le_refl _) _ _))
      ((first
        | (go_at_call 20; with_reducible refine (ck wf.drew wf.heap.size rfl r0).mono ?_; rintro e w2 ⟨rfl, hK, hb2, hn2⟩)
        | (go_at_call 20; with_reducible refine (ck (wf.alloc _).drew (wf.heap.size + 1) (sz1 _ _).symm (r1 _)).mono ?_; rintro e w2 ⟨rfl, hK, hb2, hn2⟩; have t2 : Two w2 wf.heap.size 44 (.string ⟨#[]⟩) (.int .u64 0) := tw.of_block (hn2.block _ tl))
        | (go_at_call 19; with_reducible refine (co _ _ (by with_reducible first | exact hb2 | exact Below.al hb2 hb2.size _) (hK _ (by with_reducible first | exact Below.refl _ _ | exact below1 _ _))).mono ?_; rintro e w3 ⟨rfl, hb3, hn3⟩; first | (have t3 := (by with_reducible exact t2.of_block (hn3.block _ t2.lt) : Two w3 wf.heap.size 44 (.string ⟨#[]⟩) (.int .u64 0)); have q0 := t3.c0; have q1 := t3.c1; have f0 := t3.frozen 0; have f1 := t3.frozen 1) | (have t3 : Two w3 w2.heap.size 44 (.string ⟨#[]⟩) (.int .u64 0) := (by with_reducible exact (two_new w2 _ _ _).of_block (hn3.block _ (lt_al w2 _))); have q0 := t3.c0; have q1 := t3.c1; have f0 := t3.frozen 0; have f1 := t3.frozen 1) | skip)))
    all_goals go_wp2_with fail
    all_goals go_meet
    all_goals first
      | exact ⟨_, rfl, rfl, t3.set _ _, Nat.lt_of_lt_of_le hX.lt hb2.size, below_two hb3 hb2.size _ _⟩
      | exact ⟨_, rfl, rfl, t3.set _ _, hX.lt, below_two hb3 (Nat.le_refl _) _ _⟩
      | exact ⟨_, rfl, rfl, two_new w3 _ _ _, Nat.lt_of_lt_of_le hX.lt hb3.size, Below.al hb3 hb3.size _⟩
  case rest =>
    obtain ⟨B, rfl, rfl, hKd, hBl, hb⟩ := hcut
    have hB := below_nx hB0 hb (Nat.le_refl _)
    have hXc := hX.of_block (hb.block _ hX.lt)
    have hsw := hX.lt
    clear hkS hkX ck co r0 r1 tw tl
    cases hok : okB x with
    | false =>
      have HE : Hid (checkE x = 2 ∧ lineV x = []) := Lib.hid ⟨by unfold checkE; rw [hok]; rfl, by unfold lineV; rw [hok]; rfl⟩
      clear hok
      go_wp2_with fail
      refine ⟨.tuple #[.string ⟨#[]⟩, .int .i64 2], ?_, by rw [HE.out.1, HE.out.2], hB⟩
      simp [results, Tryd.f7, go_sem]
    | true =>
      have HE : Hid (checkE x = 0 ∧ lineV x = lineL x) := Lib.hid ⟨by unfold checkE; rw [hok]; rfl, by unfold lineV; rw [hok]; rfl⟩
      clear hok
      have ca := appendInt_any (v := x.a) hx.a w.heap.size 0 (.slice none 0 0) [] wc (World.ownsRow_nil _ _ _ _) hB.size (by omega) (hv.tabBelow hB)
      have c0 := hXc.c0
      go_wp2_with fail
      refine ca.mono ?_
      rintro e w5 ⟨v5, rfl, hown5, hb5, hoth5⟩
      rw [List.nil_append, Nat.zero_add] at hown5
      have hrow5 : BRow w5 w.heap.size v5 (Lib.itoa x.a) := of_owns8 hown5 (itoa_pos _)
      have hal := Lib.itoa_length_le x.a hx.a.1 hx.a.2
      have hwl := wordL_len x.k
      have hne5 : ∀ {k : Nat} {cs : Array Value} {t : TypeId} {z : Nat × Nat}, wc.heap[k]? = some (.cells cs t z) → t ≠ 5 → w5.heap[k]? = wc.heap[k]? := fun h ht => (hoth5 _ _ h (by simp) (fun c fz e => ht (by cases e; rfl))).trans h.symm
      have hX5 := hXc.of_block (hne5 hXc (by decide))
      have hK5 := Two.of_block hKd (hne5 hKd (by decide))
      have hB5 := hB.trans hb5
      have hw5s := hB5.size
      have hKl5 := KdAt.lt hK5
      clear hne5 hoth5 hown5 hXc hKd hb hb5 hB ca c0 hB0 hX
      obtain ⟨v6, w6, hrun6, hrow6, hby6'⟩ := bapp (hrow5.fresh ((But.refl [] w5).alloc (.cells #[.int .u8 32] 5))) (by simp; omega) 49 (.slice (some ⟨w5.heap.size, 0, none⟩) 1 1) [32] (Src.ofSlice _ Tryd.underlying49 ⟨w5.heap.size, 0, none⟩ 1 1 _ rfl (by intro j u' hj; match j, hj with | 0, hj => simp [Lib.byteCells] at hj; subst hj; simp [Addr.add]) (bc_one _)) (by simp; omega)
      have hby6 := (Bys.of_but (base := w.heap.size) ((But.refl [] w5).alloc (.cells #[.int .u8 32] 5))).trans hby6'
      obtain ⟨va5, vc5, rfl⟩ := hrow5.slice
      obtain ⟨va6, vc6, rfl⟩ := hrow6.slice
      obtain ⟨n6, hn6⟩ : ∃ n6, n6 = (Lib.itoa x.a ++ [32]).length := ⟨_, rfl⟩
      rw [← hn6] at hrun6 hrow6
      obtain ⟨n5, hn5⟩ : ∃ n5, n5 = (Lib.itoa x.a).length := ⟨_, rfl⟩
      rw [← hn5] at hrun6 hrow5 ⊢
      obtain ⟨w7, hw7⟩ : ∃ w7, w7 = w6.alloc (.cells #[.slice va6 n6 vc6] 49) := ⟨_, rfl⟩
      have hb7 : But [] w6 w7 := by rw [hw7]; exact (But.refl [] w6).alloc _
      have hX7 := (hX5.of_block (hby6.same hX5 (by decide))).but hb7 (by simp)
      have hK7 := KdAt.but (Two.of_block hK5 (hby6.same hK5 (by decide))) hb7 (by simp)
      have hB7 := (hB5.trans (hby6.below hw5s)).trans (hb7.below (by have := hby6.size; omega) (by simp))
      have hL7 : Boxed w7 w6.heap.size 49 (.slice va6 n6 vc6) := by rw [hw7]; exact Boxed.new w6 _ _
      have hrow7 := hrow6.fresh hb7
      have hS7 : LSt w w7 w6.heap.size B x wd m (.slice va6 n6 vc6) := ⟨hX7, hK7, hL7, hB7, hBl, by have := hby6.size; omega, by have := hby6.size; omega⟩
      obtain ⟨L, hL⟩ : ∃ L, L = w6.heap.size := ⟨_, rfl⟩
      obtain ⟨v8, w8, hrun8, hrow8, hby8⟩ := bapp hrow7 hB7.size 9 (.string wd) (wordL x.k) (by rw [HWD.out]; exact Src.ofString w7 Tryd.underlying9 ⟨(wordL x.k).toArray⟩) (by simp; omega)
      have hS8 := hS7.bys hby8
      have hS9 := hS8.set v8
      have hrow9 := hrow8.set hS8.box v8
      obtain ⟨va8, vc8, rfl⟩ := hrow8.slice
      obtain ⟨n8, hn8⟩ : ∃ n8, n8 = ((Lib.itoa x.a ++ [32]) ++ wordL x.k).length := ⟨_, rfl⟩
      rw [← hn8] at hrun8 hrow8 hrow9 hS9
      have b7 := Boxed.cell hL7
      have k07 := Two.c0 hK7
      have k17 := Two.c1 hK7
      have f8 := Boxed.frozen hS8.box
      have b8 := Boxed.cell hS8.box
      have k18 := Two.c1 hS9.k
      have k08 := Two.c0 hS9.k
      have hnm := named_any wd m (w8.setCell ⟨w6.heap.size, 0, none⟩ (.slice va8 n8 vc8))
      rw [hw7] at hrun8 b7 k07 k17
      clear hn5 hn6 hn8 hX5 hK5 hX7 hK7 hL7 hrow7 hrow6 hrow5 hrow8 hS7 hby6' 
      go_wp2_with (first
        | (at_builtin; refine wpList_app _ rfl _ _ _ _ rfl _ _ _ w6 rfl rfl hrun6 ?_; go_frame)
        | (at_builtin; refine wpList_app _ rfl _ _ _ _ rfl _ _ _ w8 rfl rfl hrun8 ?_; go_frame))
      refine hnm.mono ?_
      rintro e w10 ⟨rfl, hw10⟩
      obtain ⟨w9, hw9⟩ : ∃ w9, w9 = w8.setCell ⟨w6.heap.size, 0, none⟩ (.slice va8 n8 vc8) := ⟨_, rfl⟩
      rw [← hw9] at hw10 hS9 hrow9 ⊢
      have hb10 : But [] w9 w10 := by rw [hw10]; exact (But.refl [] w9).alloc _
      have hN10 : KdAt w10 w9.heap.size wd m := by rw [hw10]; exact two_new w9 _ _ _
      have hS10 := hS9.fresh hb10
      have hrow10 := hrow9.fresh hb10
      have hNl := KdAt.lt hN10
      have hwn : w.heap.size ≤ w9.heap.size := hS9.below.size
      have hLl : L < w9.heap.size := by rw [hL]; exact Boxed.lt hS9.box
      rw [← hL] at hS10 ⊢
      clear hnm hw10 hb10 hS9 hrow9 hw9 b7 k07 k17 f8 b8 k18 k08 hrun6 hrun8 hS8 hby8 hL hw7 hb7 hB7 hby6 hB5 hw5s hKl5
      go_wp2_with fail
      refine (wpIn_wide (n := 4)).1 ?_
      refine wpIn_rangeFunc_ownG rfl (by omega) (gf := 42) (lb := #[.pointer (some ⟨w9.heap.size, 0, none⟩)]) rfl trivial (enters_of Tryd.func42 (by kernel_rfl) rfl)
        (iter_named hm64 hN10) (fun h k => KeepK.trans h k) (fun W l o o' hl ho hc _ => keepK_putObj W l o o' (by omega) ho hc) (Below.refl _ _) (fun _ => rfl)
        (fun ps W => (∃ v, LSt w W L B x wd m v ∧ BRow W w.heap.size v ((ps.map (·.val)).foldl (lineStep x) (lineH x))) ∧ KdAt W w9.heap.size wd m)
        (fun _ _ _ => False)
        (lst_abides w L B w9.heap.size x wd m (fun ps : List (Fin 13) => (ps.map (·.val)).foldl (lineStep x) (lineH x)) _ (by omega))
        (fun _ _ _ _ _ hs _ _ => hs)
        ⟨⟨_, hS10, hrow10⟩, hN10⟩ ?a1 ?assign ?body ?done ?stop
      case assign =>
        intro l p W K hK
        gi_wp2
        exact hK
      case body =>
        rintro lp ps p W ⟨⟨v, hG, hrow⟩, hN⟩ hlt2
        obtain ⟨s, hs⟩ : ∃ s, s = (ps.map (·.val)).foldl (lineStep x) (lineH x) := ⟨_, rfl⟩
        have hsl : s.length ≤ 320 := by
          have h1 := line_len hx (ps.map (·.val)) (lineH x)
          have h2 := lineH_len hx
          rw [List.length_map] at h1
          rw [hs]; omega
        obtain ⟨pc, hpc⟩ : ∃ pc, pc = pieceL x p.val := ⟨_, rfl⟩
        have HY : Hid (((ps ++ [p]).map (·.val)).foldl (lineStep x) (lineH x) = (s ++ [32]) ++ pc) := Lib.hid (by rw [hs, hpc]; simp [lineStep])
        rw [← hs] at hrow
        clear hs
        have hWs := hG.below.size
        obtain ⟨v1, w1, hrun1, hrow1, hby'⟩ := bapp (hrow.fresh ((But.refl [] W).alloc (.cells #[.int .u8 32] 5))) (by simp; omega) 49 (.slice (some ⟨W.heap.size, 0, none⟩) 1 1) [32] (Src.ofSlice _ Tryd.underlying49 ⟨W.heap.size, 0, none⟩ 1 1 _ rfl (by intro j u' hj; match j, hj with | 0, hj => simp [Lib.byteCells] at hj; subst hj; simp [Addr.add]) (bc_one _)) (by simp; omega)
        have hby1 := (Bys.of_but (base := w.heap.size) ((But.refl [] W).alloc (.cells #[.int .u8 32] 5))).trans hby'
        have hG1 := hG.bys hby1
        have hN1 : KdAt w1 w9.heap.size wd m := Two.of_block hN (hby1.same hN (by decide))
        have hK1 : KeepK w9.heap.size W w1 := hby1.same hN (by decide)
        obtain ⟨va0, vc0, rfl⟩ := hrow.slice
        obtain ⟨va1, vc1, rfl⟩ := hrow1.slice
        obtain ⟨n1, hn1⟩ : ∃ n1, n1 = (s ++ [32]).length := ⟨_, rfl⟩
        rw [← hn1] at hrun1 hrow1
        obtain ⟨n0, hn0⟩ : ∃ n0, n0 = s.length := ⟨_, rfl⟩
        rw [← hn0] at hrun1 hrow hG hG1
        clear hn0 hn1
        obtain ⟨W2, hW2⟩ : ∃ W2, W2 = w1.setCell ⟨L, 0, none⟩ (.slice va1 n1 vc1) := ⟨_, rfl⟩
        have hk2 : But [L] w1 W2 := by rw [hW2]; exact (But.refl [L] w1).set (p := ⟨L, 0, none⟩) (.inl (by simp)) _
        have hG2 : LSt w W2 L B x wd m (.slice va1 n1 vc1) := by rw [hW2]; exact hG1.set _
        have hrow2 : BRow W2 w.heap.size (.slice va1 n1 vc1) (s ++ [32]) := by rw [hW2]; exact hrow1.set hG1.box _
        have hN2 : KdAt W2 w9.heap.size wd m := hN1.but hk2 (by simp; omega)
        have hK2 : KeepK w9.heap.size W W2 := KeepK.trans hK1 (hN1.keeps hk2 (by simp; omega))
        have hF2 : KeepsFrom w10.heap.size W W2 := hby1.keepsFrom.trans (keepsFrom_but hk2 (by simp; omega))
        have hend : ∀ (v6 : Value) (w2 w6 : World) (cs : Array Value), But [] W2 w2 → Bys w.heap.size w2 w6 → BRow w6 w.heap.size v6 ((s ++ [32]) ++ pc) →
            ownPostG w10.heap.size (KeepK w9.heap.size) (fun ps W => (∃ v, LSt w W L B x wd m v ∧ BRow W w.heap.size v ((ps.map (·.val)).foldl (lineStep x) (lineH x))) ∧ KdAt W w9.heap.size wd m) (fun _ _ _ => False) (ps ++ [p]) W .normal { tmps := cs, defers := [] } (w6.setCell ⟨L, 0, none⟩ v6) := fun v6 w2 w6 cs hb2 hby6 hrow6 => by
          have hG6 := (hG2.fresh hb2).bys hby6
          have hk6 : But [L] w6 (w6.setCell ⟨L, 0, none⟩ v6) := (But.refl [L] w6).set (p := ⟨L, 0, none⟩) (.inl (by simp)) _
          have hN5 : KdAt w2 w9.heap.size wd m := hN2.but hb2 (by simp)
          have hN6 : KdAt w6 w9.heap.size wd m := Two.of_block hN5 (hby6.same hN5 (by decide))
          refine ⟨((hF2.trans (keepsFrom_but hb2 (by simp))).trans hby6.keepsFrom).trans (keepsFrom_but hk6 (by simp; omega)), KeepK.trans (KeepK.trans (KeepK.trans hK2 (hN2.keeps hb2 (by simp))) (hby6.same hN5 (by decide))) (hN6.keeps hk6 (by simp; omega)), ⟨_, hG6.set _, ?_⟩, hN6.but hk6 (by simp; omega)⟩
          rw [HY.out]
          exact hrow6.set hG6.box _
        have b0 := Boxed.cell hG.box
        have b1 := Boxed.cell hG1.box
        have f1 := Boxed.frozen hG1.box
        have b0a := ((But.refl [] W).alloc (.cells #[.int .u8 32] 5)).cell b0 (by simp)
        have hp := p.isLt
        have htab := (hv.below hG2.below).tab
        have hbx2 : Boxed W2 L 49 (.slice va1 n1 vc1) := hG2.box
        have HW2 := Lib.hid hW2
        clear hW2
        by_cases h12 : p.val = 12
        · obtain rfl : pc = Lib.decDigits x.s := by rw [hpc]; unfold pieceL; rw [if_pos h12]
          have h12' : (p.val : Int) = 12 := by omega
          have ha : Calls Tryd.prog 23 #[.slice va1 n1 vc1, .int .u64 (x.s : Int), .int .i64 10] W2 fun e w' => ∃ p' q' n', e = .returned (.slice p' n' q') ∧ BRow w' w.heap.size (.slice p' n' q') ((s ++ [32]) ++ Lib.decDigits x.s) ∧ Bys w.heap.size W2 w' :=
            (appUint_any hx.s W2 hrow2 hG2.below.size (by simp; omega) htab).mono fun e w' ⟨v', h1, h2, h3⟩ => by
              obtain ⟨a, c, rfl⟩ := h2.slice
              exact ⟨a, c, _, h1, h2, h3⟩
          have y12 := hG2.x.c12
          have b2 := Boxed.cell hbx2
          rw [HW2.out] at y12 b2
          clear hpc
          gi_wp2_with (first
            | (gi_at_builtin; refine wpListIn_app _ rfl _ _ _ _ rfl _ _ _ w1 rfl rfl hrun1 ?_; go_frame)
            | (refine ⟨trivial, ?_⟩; gi_at_call 23; rw [← HW2.out]; refine (callsIn_wide.2 ha).mono ?_; rintro e w3 ⟨p3, q3, n3, rfl, hrow3, hby3⟩; have hG3 := hG2.bys hby3; have b3 := Boxed.cell hG3.box; have f3 := Boxed.frozen hG3.box))
          exact hend _ _ _ _ (But.refl [] W2) hby3 hrow3
        · obtain rfl : pc = Lib.itoa (x.get p.val) := by rw [hpc]; unfold pieceL; rw [if_neg h12]
          have h12' : ¬ (p.val : Int) = 12 := by omega
          obtain ⟨vp, hvp⟩ : ∃ vp, vp = x.get p.val := ⟨_, rfl⟩
          have hvb : I64b vp := by rw [hvp]; exact hx.get p.val
          have ct : Calls Tryd.prog 24 #[.agg #[.int .i64 x.a, .int .u8 (x.k : Int), .int .i64 x.w, .int .i64 x.t, .int .i64 x.p, .int .i64 x.c, .int .i64 x.b, .int .i64 x.q, .int .i64 x.v, .int .i64 x.u, .bool x.o, .int .i64 x.e, .int .u64 (x.s : Int)], .int .i64 (p.val : Int)] W2.drew fun e w' => e = .returned (.int .i64 vp) ∧ But [] W2 w' := by
            rw [hvp]
            exact (tell_any x p.val hx p.isLt W2.drew).mono fun e w' ⟨h1, h2⟩ => ⟨h1, (But.refl [] W2).drew.next (But.of_below h2 [])⟩
          have cp : ∀ W3, But [] W2 W3 → Calls Tryd.prog 21 #[.slice va1 n1 vc1, .int .i64 vp, .int .i64 10] W3 fun e w' => ∃ p' q' n', e = .returned (.slice p' n' q') ∧ But [] W2 W3 ∧ BRow w' w.heap.size (.slice p' n' q') ((s ++ [32]) ++ Lib.itoa (x.get p.val)) ∧ Bys w.heap.size W3 w' := fun W3 hb => by
            have hG3 := hG2.fresh hb
            refine (appInt_any hvb W3 (hrow2.fresh hb) hG3.below.size (by simp; omega) (hv.tabBelow hG3.below)).mono fun e w' ⟨v', h1, h2, h3⟩ => ?_
            rw [← hvp]
            obtain ⟨a, c, rfl⟩ := h2.slice
            exact ⟨a, c, _, h1, hb, h2, h3⟩
          have b2 := Boxed.cell hbx2
          rw [HW2.out] at b2
          clear hpc hvp
          gi_wp2_with (first
            | (gi_at_builtin; refine wpListIn_app _ rfl _ _ _ _ rfl _ _ _ w1 rfl rfl hrun1 ?_; go_frame))
          rw [← HW2.out]
          refine wpIn_region_any (by kernel_rfl) ?_
          change wpAnyIn _ _ _ _ _ _ _ _ _ (World.drew _)
          refine wpAnyIn_cut (f' := 1) (l' := #[true, true, true, true, true, false]) (fun A W' => ∃ (p' : Option Addr) (q' : Nat) (n' : Nat) (w3 : World) (c0 c2 c3 c4 c5 c8 c9 c10 c11 c12 c13 c14 c15 c16 c17 c18 c19 c20 c21 c22 c23 c24 c25 c26 c27 c28 c29 c30 c31 c32 c33 c34 c35 c36 c42 c43 : Value), A = { tmps := #[c0, .pointer (some ⟨w.heap.size, 0, none⟩), c2, c3, c4, c5, .pointer (some ⟨L, 0, none⟩), .int .i64 (p.val : Int), c8, c9, c10, c11, c12, c13, c14, c15, c16, c17, c18, c19, c20, c21, c22, c23, c24, c25, c26, c27, c28, c29, c30, c31, c32, c33, c34, c35, c36, .slice va1 n1 vc1, .agg #[.int .i64 x.a, .int .u8 (x.k : Int), .int .i64 x.w, .int .i64 x.t, .int .i64 x.p, .int .i64 x.c, .int .i64 x.b, .int .i64 x.q, .int .i64 x.v, .int .i64 x.u, .bool x.o, .int .i64 x.e, .int .u64 (x.s : Int)], .int .i64 (p.val : Int), .int .i64 vp, .slice p' n' q', c42, c43], defers := [] } ∧ But [] W2 w3 ∧ BRow W' w.heap.size (.slice p' n' q') ((s ++ [32]) ++ Lib.itoa (x.get p.val)) ∧ Bys w.heap.size w3 W') ?_ ?_
          · rintro A W' ⟨p', q', n', w3, c0, c2, c3, c4, c5, c8, c9, c10, c11, c12, c13, c14, c15, c16, c17, c18, c19, c20, c21, c22, c23, c24, c25, c26, c27, c28, c29, c30, c31, c32, c33, c34, c35, c36, c42, c43, rfl, hb2, hrow6, hby6⟩
            refine wpAnyIn_ready (rs := [5]) (by kernel_rfl) (by simp) ?_
            refine AllReadyIn.cons rfl (fun K hK => ?_) ?_
            · have hG6 := (hG2.fresh hb2).bys hby6
              have b6 := Boxed.cell hG6.box
              have f6 := Boxed.frozen hG6.box
              go_simp
              refine hK _ _ (wpAnyIn_done (by kernel_rfl) ?_ _)
              exact hend _ _ _ #[] hb2 hby6 hrow6
            exact AllReadyIn.nil
          intro h_01234
          refine wpAnyIn_cut (f' := 2) (l' := #[true, true, true, true, false, false]) (fun A W' => ∃ (c0 c2 c3 c4 c5 c8 c9 c10 c11 c12 c13 c14 c15 c16 c17 c18 c19 c20 c21 c22 c23 c24 c25 c26 c27 c28 c29 c30 c31 c32 c33 c34 c35 c36 c41 c42 c43 : Value), A = { tmps := #[c0, .pointer (some ⟨w.heap.size, 0, none⟩), c2, c3, c4, c5, .pointer (some ⟨L, 0, none⟩), .int .i64 (p.val : Int), c8, c9, c10, c11, c12, c13, c14, c15, c16, c17, c18, c19, c20, c21, c22, c23, c24, c25, c26, c27, c28, c29, c30, c31, c32, c33, c34, c35, c36, .slice va1 n1 vc1, .agg #[.int .i64 x.a, .int .u8 (x.k : Int), .int .i64 x.w, .int .i64 x.t, .int .i64 x.p, .int .i64 x.c, .int .i64 x.b, .int .i64 x.q, .int .i64 x.v, .int .i64 x.u, .bool x.o, .int .i64 x.e, .int .u64 (x.s : Int)], .int .i64 (p.val : Int), .int .i64 vp, c41, c42, c43], defers := [] } ∧ But [] W2 W') ?_ ?_
          · rintro A W' ⟨c0, c2, c3, c4, c5, c8, c9, c10, c11, c12, c13, c14, c15, c16, c17, c18, c19, c20, c21, c22, c23, c24, c25, c26, c27, c28, c29, c30, c31, c32, c33, c34, c35, c36, c41, c42, c43, rfl, hbw⟩
            refine wpAnyIn_ready (rs := [4]) (by kernel_rfl) (by simp) ?_
            refine AllReadyIn.cons rfl (fun K hK => ?_) ?_
            · go_simp
              gi_wp2_with (refine ⟨trivial, ?_⟩; gi_at_call 21; refine (callsIn_wide.2 (cp _ hbw)).mono ?_; rintro e W3 ⟨p', q', n', rfl, hb2, hrow6, hby6⟩)
              exact h_01234 _ _ ⟨_, _, _, _, _, _, _, _, _, _, _, _, _, _, _, _, _, _, _, _, _, _, _, _, _, _, _, _, _, _, _, _, _, _, _, _, _, _, _, _, rfl, hb2, hrow6, hby6⟩
            exact AllReadyIn.nil
          intro h_0123
          refine wpAnyIn_cut (f' := 3) (l' := #[true, true, true, false, false, false]) (fun A W' => ∃ (c0 c2 c3 c4 c5 c8 c9 c10 c11 c12 c13 c14 c15 c16 c17 c18 c19 c20 c21 c22 c23 c24 c25 c26 c27 c28 c29 c30 c31 c32 c33 c34 c35 c36 c40 c41 c42 c43 : Value), A = { tmps := #[c0, .pointer (some ⟨w.heap.size, 0, none⟩), c2, c3, c4, c5, .pointer (some ⟨L, 0, none⟩), .int .i64 (p.val : Int), c8, c9, c10, c11, c12, c13, c14, c15, c16, c17, c18, c19, c20, c21, c22, c23, c24, c25, c26, c27, c28, c29, c30, c31, c32, c33, c34, c35, c36, .slice va1 n1 vc1, .agg #[.int .i64 x.a, .int .u8 (x.k : Int), .int .i64 x.w, .int .i64 x.t, .int .i64 x.p, .int .i64 x.c, .int .i64 x.b, .int .i64 x.q, .int .i64 x.v, .int .i64 x.u, .bool x.o, .int .i64 x.e, .int .u64 (x.s : Int)], .int .i64 (p.val : Int), c40, c41, c42, c43], defers := [] } ∧ W' = W2.drew) ?_ ?_
          · rintro A W' ⟨c0, c2, c3, c4, c5, c8, c9, c10, c11, c12, c13, c14, c15, c16, c17, c18, c19, c20, c21, c22, c23, c24, c25, c26, c27, c28, c29, c30, c31, c32, c33, c34, c35, c36, c40, c41, c42, c43, rfl, rfl⟩
            refine wpAnyIn_ready (rs := [3]) (by kernel_rfl) (by simp) ?_
            refine AllReadyIn.cons rfl (fun K hK => ?_) ?_
            · go_simp
              gi_wp2_with (refine ⟨trivial, ?_⟩; gi_at_call 24; refine (callsIn_wide.2 ct).mono ?_; rintro e W1 ⟨rfl, hb1⟩)
              exact h_0123 _ _ ⟨_, _, _, _, _, _, _, _, _, _, _, _, _, _, _, _, _, _, _, _, _, _, _, _, _, _, _, _, _, _, _, _, _, _, _, _, _, rfl, hb1⟩
            exact AllReadyIn.nil
          intro h_012
          refine wpAnyIn_cut (f' := 3) (l' := #[false, true, true, true, false, false]) (fun A W' => ∃ (c0 c2 c3 c4 c5 c8 c9 c10 c11 c12 c13 c14 c15 c16 c17 c18 c19 c20 c21 c22 c23 c24 c25 c26 c27 c28 c29 c30 c31 c32 c33 c34 c35 c36 c37 c41 c42 c43 : Value), A = { tmps := #[c0, .pointer (some ⟨w.heap.size, 0, none⟩), c2, c3, c4, c5, .pointer (some ⟨L, 0, none⟩), .int .i64 (p.val : Int), c8, c9, c10, c11, c12, c13, c14, c15, c16, c17, c18, c19, c20, c21, c22, c23, c24, c25, c26, c27, c28, c29, c30, c31, c32, c33, c34, c35, c36, c37, .agg #[.int .i64 x.a, .int .u8 (x.k : Int), .int .i64 x.w, .int .i64 x.t, .int .i64 x.p, .int .i64 x.c, .int .i64 x.b, .int .i64 x.q, .int .i64 x.v, .int .i64 x.u, .bool x.o, .int .i64 x.e, .int .u64 (x.s : Int)], .int .i64 (p.val : Int), .int .i64 vp, c41, c42, c43], defers := [] } ∧ But [] W2 W') ?_ ?_
          · rintro A W' ⟨c0, c2, c3, c4, c5, c8, c9, c10, c11, c12, c13, c14, c15, c16, c17, c18, c19, c20, c21, c22, c23, c24, c25, c26, c27, c28, c29, c30, c31, c32, c33, c34, c35, c36, c37, c41, c42, c43, rfl, hbw⟩
            refine wpAnyIn_ready (rs := [0]) (by kernel_rfl) (by simp) ?_
            refine AllReadyIn.cons rfl (fun K hK => ?_) ?_
            · first | (have b4' := Boxed.cell (hG2.fresh hbw).box; go_simp) | (have b4' : W2.drew.cell? ⟨L, 0, none⟩ = some (.slice va1 n1 vc1) := Boxed.cell hbx2; go_simp)
              exact hK _ _ (h_0123 _ _ ⟨_, _, _, _, _, _, _, _, _, _, _, _, _, _, _, _, _, _, _, _, _, _, _, _, _, _, _, _, _, _, _, _, _, _, _, _, _, rfl, hbw⟩)
            exact AllReadyIn.nil
          intro h_123
          refine wpAnyIn_cut (f' := 4) (l' := #[false, true, true, false, false, false]) (fun A W' => ∃ (c0 c2 c3 c4 c5 c8 c9 c10 c11 c12 c13 c14 c15 c16 c17 c18 c19 c20 c21 c22 c23 c24 c25 c26 c27 c28 c29 c30 c31 c32 c33 c34 c35 c36 c37 c40 c41 c42 c43 : Value), A = { tmps := #[c0, .pointer (some ⟨w.heap.size, 0, none⟩), c2, c3, c4, c5, .pointer (some ⟨L, 0, none⟩), .int .i64 (p.val : Int), c8, c9, c10, c11, c12, c13, c14, c15, c16, c17, c18, c19, c20, c21, c22, c23, c24, c25, c26, c27, c28, c29, c30, c31, c32, c33, c34, c35, c36, c37, .agg #[.int .i64 x.a, .int .u8 (x.k : Int), .int .i64 x.w, .int .i64 x.t, .int .i64 x.p, .int .i64 x.c, .int .i64 x.b, .int .i64 x.q, .int .i64 x.v, .int .i64 x.u, .bool x.o, .int .i64 x.e, .int .u64 (x.s : Int)], .int .i64 (p.val : Int), c40, c41, c42, c43], defers := [] } ∧ W' = W2.drew) ?_ ?_
          · rintro A W' ⟨c0, c2, c3, c4, c5, c8, c9, c10, c11, c12, c13, c14, c15, c16, c17, c18, c19, c20, c21, c22, c23, c24, c25, c26, c27, c28, c29, c30, c31, c32, c33, c34, c35, c36, c37, c40, c41, c42, c43, rfl, rfl⟩
            refine wpAnyIn_ready (rs := [0, 3]) (by kernel_rfl) (by simp) ?_
            refine AllReadyIn.cons rfl (fun K hK => ?_) ?_
            · first | (have b4' := Boxed.cell (hG2.fresh hbw).box; go_simp) | (have b4' : W2.drew.cell? ⟨L, 0, none⟩ = some (.slice va1 n1 vc1) := Boxed.cell hbx2; go_simp)
              exact hK _ _ (h_012 _ _ ⟨_, _, _, _, _, _, _, _, _, _, _, _, _, _, _, _, _, _, _, _, _, _, _, _, _, _, _, _, _, _, _, _, _, _, _, _, _, _, rfl, rfl⟩)
            refine AllReadyIn.cons rfl (fun K hK => ?_) ?_
            · go_simp
              gi_wp2_with (refine ⟨trivial, ?_⟩; gi_at_call 24; refine (callsIn_wide.2 ct).mono ?_; rintro e W1 ⟨rfl, hb1⟩)
              exact h_123 _ _ ⟨_, _, _, _, _, _, _, _, _, _, _, _, _, _, _, _, _, _, _, _, _, _, _, _, _, _, _, _, _, _, _, _, _, _, _, _, _, _, rfl, hb1⟩
            exact AllReadyIn.nil
          intro h_12
          refine wpAnyIn_cut (f' := 4) (l' := #[true, true, false, false, false, false]) (fun A W' => ∃ (c0 c2 c3 c4 c5 c8 c9 c10 c11 c12 c13 c14 c15 c16 c17 c18 c19 c20 c21 c22 c23 c24 c25 c26 c27 c28 c29 c30 c31 c32 c33 c34 c35 c36 c39 c40 c41 c42 c43 : Value), A = { tmps := #[c0, .pointer (some ⟨w.heap.size, 0, none⟩), c2, c3, c4, c5, .pointer (some ⟨L, 0, none⟩), .int .i64 (p.val : Int), c8, c9, c10, c11, c12, c13, c14, c15, c16, c17, c18, c19, c20, c21, c22, c23, c24, c25, c26, c27, c28, c29, c30, c31, c32, c33, c34, c35, c36, .slice va1 n1 vc1, .agg #[.int .i64 x.a, .int .u8 (x.k : Int), .int .i64 x.w, .int .i64 x.t, .int .i64 x.p, .int .i64 x.c, .int .i64 x.b, .int .i64 x.q, .int .i64 x.v, .int .i64 x.u, .bool x.o, .int .i64 x.e, .int .u64 (x.s : Int)], c39, c40, c41, c42, c43], defers := [] } ∧ W' = W2.drew) ?_ ?_
          · rintro A W' ⟨c0, c2, c3, c4, c5, c8, c9, c10, c11, c12, c13, c14, c15, c16, c17, c18, c19, c20, c21, c22, c23, c24, c25, c26, c27, c28, c29, c30, c31, c32, c33, c34, c35, c36, c39, c40, c41, c42, c43, rfl, rfl⟩
            refine wpAnyIn_ready (rs := [2]) (by kernel_rfl) (by simp) ?_
            refine AllReadyIn.cons rfl (fun K hK => ?_) ?_
            · go_simp
              exact hK _ _ (h_012 _ _ ⟨_, _, _, _, _, _, _, _, _, _, _, _, _, _, _, _, _, _, _, _, _, _, _, _, _, _, _, _, _, _, _, _, _, _, _, _, _, _, rfl, rfl⟩)
            exact AllReadyIn.nil
          intro h_01
          refine wpAnyIn_cut (f' := 4) (l' := #[true, false, true, false, false, false]) (fun A W' => ∃ (c0 c2 c3 c4 c5 c8 c9 c10 c11 c12 c13 c14 c15 c16 c17 c18 c19 c20 c21 c22 c23 c24 c25 c26 c27 c28 c29 c30 c31 c32 c33 c34 c35 c36 c38 c40 c41 c42 c43 : Value), A = { tmps := #[c0, .pointer (some ⟨w.heap.size, 0, none⟩), c2, c3, c4, c5, .pointer (some ⟨L, 0, none⟩), .int .i64 (p.val : Int), c8, c9, c10, c11, c12, c13, c14, c15, c16, c17, c18, c19, c20, c21, c22, c23, c24, c25, c26, c27, c28, c29, c30, c31, c32, c33, c34, c35, c36, .slice va1 n1 vc1, c38, .int .i64 (p.val : Int), c40, c41, c42, c43], defers := [] } ∧ W' = W2.drew) ?_ ?_
          · rintro A W' ⟨c0, c2, c3, c4, c5, c8, c9, c10, c11, c12, c13, c14, c15, c16, c17, c18, c19, c20, c21, c22, c23, c24, c25, c26, c27, c28, c29, c30, c31, c32, c33, c34, c35, c36, c38, c40, c41, c42, c43, rfl, rfl⟩
            refine wpAnyIn_ready (rs := [1]) (by kernel_rfl) (by simp) ?_
            refine AllReadyIn.cons rfl (fun K hK => ?_) ?_
            · first | (have hX' := (hG2.fresh hbw).x; have y0 := hX'.c0; have y1 := hX'.c1; have y2 := hX'.c2; have y3 := hX'.c3; have y4 := hX'.c4; have y5 := hX'.c5; have y6 := hX'.c6; have y7 := hX'.c7; have y8 := hX'.c8; have y9 := hX'.c9; have y10 := hX'.c10; have y11 := hX'.c11; have y12 := hX'.c12; go_simp) | (have hX' : EnAt W2.drew w.heap.size x := hG2.x; have y0 := hX'.c0; have y1 := hX'.c1; have y2 := hX'.c2; have y3 := hX'.c3; have y4 := hX'.c4; have y5 := hX'.c5; have y6 := hX'.c6; have y7 := hX'.c7; have y8 := hX'.c8; have y9 := hX'.c9; have y10 := hX'.c10; have y11 := hX'.c11; have y12 := hX'.c12; go_simp)
              exact hK _ _ (h_012 _ _ ⟨_, _, _, _, _, _, _, _, _, _, _, _, _, _, _, _, _, _, _, _, _, _, _, _, _, _, _, _, _, _, _, _, _, _, _, _, _, _, rfl, rfl⟩)
            exact AllReadyIn.nil
          intro h_02
          refine wpAnyIn_cut (f' := 5) (l' := #[false, false, true, false, false, false]) (fun A W' => ∃ (c0 c2 c3 c4 c5 c8 c9 c10 c11 c12 c13 c14 c15 c16 c17 c18 c19 c20 c21 c22 c23 c24 c25 c26 c27 c28 c29 c30 c31 c32 c33 c34 c35 c36 c37 c38 c40 c41 c42 c43 : Value), A = { tmps := #[c0, .pointer (some ⟨w.heap.size, 0, none⟩), c2, c3, c4, c5, .pointer (some ⟨L, 0, none⟩), .int .i64 (p.val : Int), c8, c9, c10, c11, c12, c13, c14, c15, c16, c17, c18, c19, c20, c21, c22, c23, c24, c25, c26, c27, c28, c29, c30, c31, c32, c33, c34, c35, c36, c37, c38, .int .i64 (p.val : Int), c40, c41, c42, c43], defers := [] } ∧ W' = W2.drew) ?_ ?_
          · rintro A W' ⟨c0, c2, c3, c4, c5, c8, c9, c10, c11, c12, c13, c14, c15, c16, c17, c18, c19, c20, c21, c22, c23, c24, c25, c26, c27, c28, c29, c30, c31, c32, c33, c34, c35, c36, c37, c38, c40, c41, c42, c43, rfl, rfl⟩
            refine wpAnyIn_ready (rs := [0, 1]) (by kernel_rfl) (by simp) ?_
            refine AllReadyIn.cons rfl (fun K hK => ?_) ?_
            · first | (have b4' := Boxed.cell (hG2.fresh hbw).box; go_simp) | (have b4' : W2.drew.cell? ⟨L, 0, none⟩ = some (.slice va1 n1 vc1) := Boxed.cell hbx2; go_simp)
              exact hK _ _ (h_02 _ _ ⟨_, _, _, _, _, _, _, _, _, _, _, _, _, _, _, _, _, _, _, _, _, _, _, _, _, _, _, _, _, _, _, _, _, _, _, _, _, _, _, rfl, rfl⟩)
            refine AllReadyIn.cons rfl (fun K hK => ?_) ?_
            · first | (have hX' := (hG2.fresh hbw).x; have y0 := hX'.c0; have y1 := hX'.c1; have y2 := hX'.c2; have y3 := hX'.c3; have y4 := hX'.c4; have y5 := hX'.c5; have y6 := hX'.c6; have y7 := hX'.c7; have y8 := hX'.c8; have y9 := hX'.c9; have y10 := hX'.c10; have y11 := hX'.c11; have y12 := hX'.c12; go_simp) | (have hX' : EnAt W2.drew w.heap.size x := hG2.x; have y0 := hX'.c0; have y1 := hX'.c1; have y2 := hX'.c2; have y3 := hX'.c3; have y4 := hX'.c4; have y5 := hX'.c5; have y6 := hX'.c6; have y7 := hX'.c7; have y8 := hX'.c8; have y9 := hX'.c9; have y10 := hX'.c10; have y11 := hX'.c11; have y12 := hX'.c12; go_simp)
              exact hK _ _ (h_12 _ _ ⟨_, _, _, _, _, _, _, _, _, _, _, _, _, _, _, _, _, _, _, _, _, _, _, _, _, _, _, _, _, _, _, _, _, _, _, _, _, _, _, rfl, rfl⟩)
            exact AllReadyIn.nil
          intro h_2
          refine wpAnyIn_cut (f' := 5) (l' := #[false, true, false, false, false, false]) (fun A W' => ∃ (c0 c2 c3 c4 c5 c8 c9 c10 c11 c12 c13 c14 c15 c16 c17 c18 c19 c20 c21 c22 c23 c24 c25 c26 c27 c28 c29 c30 c31 c32 c33 c34 c35 c36 c37 c39 c40 c41 c42 c43 : Value), A = { tmps := #[c0, .pointer (some ⟨w.heap.size, 0, none⟩), c2, c3, c4, c5, .pointer (some ⟨L, 0, none⟩), .int .i64 (p.val : Int), c8, c9, c10, c11, c12, c13, c14, c15, c16, c17, c18, c19, c20, c21, c22, c23, c24, c25, c26, c27, c28, c29, c30, c31, c32, c33, c34, c35, c36, c37, .agg #[.int .i64 x.a, .int .u8 (x.k : Int), .int .i64 x.w, .int .i64 x.t, .int .i64 x.p, .int .i64 x.c, .int .i64 x.b, .int .i64 x.q, .int .i64 x.v, .int .i64 x.u, .bool x.o, .int .i64 x.e, .int .u64 (x.s : Int)], c39, c40, c41, c42, c43], defers := [] } ∧ W' = W2.drew) ?_ ?_
          · rintro A W' ⟨c0, c2, c3, c4, c5, c8, c9, c10, c11, c12, c13, c14, c15, c16, c17, c18, c19, c20, c21, c22, c23, c24, c25, c26, c27, c28, c29, c30, c31, c32, c33, c34, c35, c36, c37, c39, c40, c41, c42, c43, rfl, rfl⟩
            refine wpAnyIn_ready (rs := [0, 2]) (by kernel_rfl) (by simp) ?_
            refine AllReadyIn.cons rfl (fun K hK => ?_) ?_
            · first | (have b4' := Boxed.cell (hG2.fresh hbw).box; go_simp) | (have b4' : W2.drew.cell? ⟨L, 0, none⟩ = some (.slice va1 n1 vc1) := Boxed.cell hbx2; go_simp)
              exact hK _ _ (h_01 _ _ ⟨_, _, _, _, _, _, _, _, _, _, _, _, _, _, _, _, _, _, _, _, _, _, _, _, _, _, _, _, _, _, _, _, _, _, _, _, _, _, _, rfl, rfl⟩)
            refine AllReadyIn.cons rfl (fun K hK => ?_) ?_
            · go_simp
              exact hK _ _ (h_12 _ _ ⟨_, _, _, _, _, _, _, _, _, _, _, _, _, _, _, _, _, _, _, _, _, _, _, _, _, _, _, _, _, _, _, _, _, _, _, _, _, _, _, rfl, rfl⟩)
            exact AllReadyIn.nil
          intro h_1
          refine wpAnyIn_cut (f' := 5) (l' := #[true, false, false, false, false, false]) (fun A W' => ∃ (c0 c2 c3 c4 c5 c8 c9 c10 c11 c12 c13 c14 c15 c16 c17 c18 c19 c20 c21 c22 c23 c24 c25 c26 c27 c28 c29 c30 c31 c32 c33 c34 c35 c36 c38 c39 c40 c41 c42 c43 : Value), A = { tmps := #[c0, .pointer (some ⟨w.heap.size, 0, none⟩), c2, c3, c4, c5, .pointer (some ⟨L, 0, none⟩), .int .i64 (p.val : Int), c8, c9, c10, c11, c12, c13, c14, c15, c16, c17, c18, c19, c20, c21, c22, c23, c24, c25, c26, c27, c28, c29, c30, c31, c32, c33, c34, c35, c36, .slice va1 n1 vc1, c38, c39, c40, c41, c42, c43], defers := [] } ∧ W' = W2.drew) ?_ ?_
          · rintro A W' ⟨c0, c2, c3, c4, c5, c8, c9, c10, c11, c12, c13, c14, c15, c16, c17, c18, c19, c20, c21, c22, c23, c24, c25, c26, c27, c28, c29, c30, c31, c32, c33, c34, c35, c36, c38, c39, c40, c41, c42, c43, rfl, rfl⟩
            refine wpAnyIn_ready (rs := [1, 2]) (by kernel_rfl) (by simp) ?_
            refine AllReadyIn.cons rfl (fun K hK => ?_) ?_
            · first | (have hX' := (hG2.fresh hbw).x; have y0 := hX'.c0; have y1 := hX'.c1; have y2 := hX'.c2; have y3 := hX'.c3; have y4 := hX'.c4; have y5 := hX'.c5; have y6 := hX'.c6; have y7 := hX'.c7; have y8 := hX'.c8; have y9 := hX'.c9; have y10 := hX'.c10; have y11 := hX'.c11; have y12 := hX'.c12; go_simp) | (have hX' : EnAt W2.drew w.heap.size x := hG2.x; have y0 := hX'.c0; have y1 := hX'.c1; have y2 := hX'.c2; have y3 := hX'.c3; have y4 := hX'.c4; have y5 := hX'.c5; have y6 := hX'.c6; have y7 := hX'.c7; have y8 := hX'.c8; have y9 := hX'.c9; have y10 := hX'.c10; have y11 := hX'.c11; have y12 := hX'.c12; go_simp)
              exact hK _ _ (h_01 _ _ ⟨_, _, _, _, _, _, _, _, _, _, _, _, _, _, _, _, _, _, _, _, _, _, _, _, _, _, _, _, _, _, _, _, _, _, _, _, _, _, _, rfl, rfl⟩)
            refine AllReadyIn.cons rfl (fun K hK => ?_) ?_
            · go_simp
              exact hK _ _ (h_02 _ _ ⟨_, _, _, _, _, _, _, _, _, _, _, _, _, _, _, _, _, _, _, _, _, _, _, _, _, _, _, _, _, _, _, _, _, _, _, _, _, _, _, rfl, rfl⟩)
            exact AllReadyIn.nil
          intro h_0
          refine wpAnyIn_ready (rs := [0, 1, 2]) (by kernel_rfl) (by simp) ?_
          refine AllReadyIn.cons rfl (fun K hK => ?_) ?_
          · first | (have b4' := Boxed.cell (hG2.fresh hbw).box; go_simp) | (have b4' : W2.drew.cell? ⟨L, 0, none⟩ = some (.slice va1 n1 vc1) := Boxed.cell hbx2; go_simp)
            exact hK _ _ (h_0 _ _ ⟨_, _, _, _, _, _, _, _, _, _, _, _, _, _, _, _, _, _, _, _, _, _, _, _, _, _, _, _, _, _, _, _, _, _, _, _, _, _, _, _, rfl, rfl⟩)
          refine AllReadyIn.cons rfl (fun K hK => ?_) ?_
          · first | (have hX' := (hG2.fresh hbw).x; have y0 := hX'.c0; have y1 := hX'.c1; have y2 := hX'.c2; have y3 := hX'.c3; have y4 := hX'.c4; have y5 := hX'.c5; have y6 := hX'.c6; have y7 := hX'.c7; have y8 := hX'.c8; have y9 := hX'.c9; have y10 := hX'.c10; have y11 := hX'.c11; have y12 := hX'.c12; go_simp) | (have hX' : EnAt W2.drew w.heap.size x := hG2.x; have y0 := hX'.c0; have y1 := hX'.c1; have y2 := hX'.c2; have y3 := hX'.c3; have y4 := hX'.c4; have y5 := hX'.c5; have y6 := hX'.c6; have y7 := hX'.c7; have y8 := hX'.c8; have y9 := hX'.c9; have y10 := hX'.c10; have y11 := hX'.c11; have y12 := hX'.c12; go_simp)
            exact hK _ _ (h_1 _ _ ⟨_, _, _, _, _, _, _, _, _, _, _, _, _, _, _, _, _, _, _, _, _, _, _, _, _, _, _, _, _, _, _, _, _, _, _, _, _, _, _, _, rfl, rfl⟩)
          refine AllReadyIn.cons rfl (fun K hK => ?_) ?_
          · go_simp
            exact hK _ _ (h_2 _ _ ⟨_, _, _, _, _, _, _, _, _, _, _, _, _, _, _, _, _, _, _, _, _, _, _, _, _, _, _, _, _, _, _, _, _, _, _, _, _, _, _, _, rfl, rfl⟩)
          exact AllReadyIn.nil
      case done =>
        rintro D xs W hD hxs ⟨⟨v, hG, hr⟩, hN⟩ hK
        have HX : Hid ((xs.map (·.val)).foldl (lineStep x) (lineH x) = lineL x) := Lib.hid (by rw [show xs = _ from hxs, HN.out]; rfl)
        rw [HX.out] at hr
        clear hxs
        have hc := Boxed.cell hG.box
        have hcb := conv_back W hr
        obtain ⟨va0, vc0, rfl⟩ := hr.slice
        obtain ⟨s, hs⟩ : ∃ s : ByteArray, s = ⟨(lineL x).toArray⟩ := ⟨_, rfl⟩
        rw [← hs] at hcb
        have HS := Lib.hid hs
        clear hs
        go_wp2_with fail
        exact line_end w W D _ x s (by rw [HS.out, HE.out.2]) rfl (by rw [HE.out.1]; rfl) hG.below (by omega) hK
      case stop =>
        rintro D c pre W _ _ h _
        exact h.elim
end Go.Proofs.YtengpehiknoheaaDoor
