/-
  The walk of Check: the kind, and a loop over what an instruction names that asks a closure of each.
-/
import Derived.Test.YtamkmmpockmpfaaGKindOf
namespace Go.Proofs.Ytamkmmpockmpfaa
open Go.RowKit Go.Shelf

attribute [local go_sem] Oper.semAt_some

def mayB (chans sites codes length : Int) (p : Nat × Int) : Bool := match p.1 with
  | 0 => belowB p.2 8
  | 1 => belowB p.2 8
  | 2 => p.2 == -1 || belowB p.2 chans
  | 3 => true
  | 4 => belowB p.2 length
  | 5 => belowB p.2 sites
  | 6 => belowB p.2 codes
  | _ => true
def checkStep (chans sites codes length : Int) (b : Bool) (p : Nat × Int) : Bool := b && mayB chans sites codes length p
def checkB (x : In) (chans sites codes length : Int) : Bool := (pairs x).foldl (checkStep chans sites codes length) (okI x)
def checkE (x : In) (chans sites codes length : Int) : Int := if checkB x chans sites codes length then 0 else 2

/-- The variables that the closure holds, and itself. -/
structure Chk (w W : World) (F : Nat) (chans sites codes length : Int) : Prop where
  c : Boxed W (w.heap.size + 1) 3 (.int .i64 chans)
  s : Boxed W (w.heap.size + 2) 3 (.int .i64 sites)
  k : Boxed W (w.heap.size + 3) 3 (.int .i64 codes)
  l : Boxed W (w.heap.size + 4) 3 (.int .i64 length)
  f : Boxed W F 114 (.func (.func 55) #[] #[.pointer (some ⟨w.heap.size + 1, 0, none⟩), .pointer (some ⟨w.heap.size + 4, 0, none⟩), .pointer (some ⟨w.heap.size + 2, 0, none⟩), .pointer (some ⟨w.heap.size + 3, 0, none⟩)])
  below : Below w.heap.size w W
section
variable {w W W' : World} {F : Nat} {chans sites codes length : Int}
theorem Chk.but (h : Chk w W F chans sites codes length) {S : List Nat} (hb : But S W W') (hS : ∀ k ∈ S, w.heap.size + 4 < k ∧ k ≠ F) : Chk w W' F chans sites codes length := by
  have hk : ∀ {k : Nat}, k ≤ w.heap.size + 4 → k ∉ S := fun hk hm => by have := (hS _ hm).1; omega
  exact ⟨(hb.block _ (Boxed.lt h.c) (hk (by omega))).trans h.c, (hb.block _ (Boxed.lt h.s) (hk (by omega))).trans h.s, (hb.block _ (Boxed.lt h.k) (hk (by omega))).trans h.k, (hb.block _ (Boxed.lt h.l) (hk (by omega))).trans h.l,
    (hb.block _ (Boxed.lt h.f) (fun hm => (hS _ hm).2 rfl)).trans h.f, h.below.trans (hb.below h.below.size (fun k hm => by have := (hS k hm).1; omega))⟩
theorem Chk.fresh (h : Chk w W F chans sites codes length) (hb : But [] W W') : Chk w W' F chans sites codes length := h.but hb (by simp)
theorem chk_abides {β : Type} (m : Nat) (hm : w.heap.size ≤ m) : OwnFrom m (fun (_ : β) W => Chk w W F chans sites codes length) := fun s A W' row hs hg hr => by
  have hk : ∀ {k : Nat} {cs : Array Value} {t : TypeId} {z : Nat × Nat}, A.heap[k]? = some (.cells cs t z) → W'.heap[k]? = A.heap[k]? := fun h => cells_kept hg (fun r e => (hr r e).2) h
  exact ⟨(hk hs.c).trans hs.c, (hk hs.s).trans hs.s, (hk hs.k).trans hs.k, (hk hs.l).trans hs.l, (hk hs.f).trans hs.f, ownFrom_below (β := Unit) (Nat.le_refl _) hm () A W' row hs.below hg hr⟩

set_option maxHeartbeats 800000 in
theorem may_any (p : Nat × Int) (hp : p.1 < 7) (h : Chk w W F chans sites codes length) :
    Calls Try.prog 55 #[.int .u8 (p.1 : Int), .int .i64 p.2, .pointer (some ⟨w.heap.size + 1, 0, none⟩), .pointer (some ⟨w.heap.size + 4, 0, none⟩), .pointer (some ⟨w.heap.size + 2, 0, none⟩), .pointer (some ⟨w.heap.size + 3, 0, none⟩)] W
      fun e w' => e = .returned (.bool (mayB chans sites codes length p)) ∧ w' = W := by
  obtain ⟨n, v⟩ := p
  have cc := h.c.cell
  have cs := h.s.cell
  have ck := h.k.cell
  have cl := h.l.cell
  clear h
  go_enter Try.func55, Try.ntmps55
  simp only at hp ⊢
  rcases (by omega : n = 0 ∨ n = 1 ∨ n = 2 ∨ n = 3 ∨ n = 4 ∨ n = 5 ∨ n = 6) with rfl | rfl | rfl | rfl | rfl | rfl | rfl
  · go_wp2_with (go_at_call 56; refine (below_any _ _ _).mono ?_; rintro e w' ⟨rfl, rfl⟩)
    go_ret
    exact ⟨rfl, rfl⟩
  · go_wp2_with (go_at_call 56; refine (below_any _ _ _).mono ?_; rintro e w' ⟨rfl, rfl⟩)
    go_ret
    exact ⟨rfl, rfl⟩
  · by_cases hv : v = -1
    · subst hv
      go_wp2_with (go_at_call 56; refine (below_any _ _ _).mono ?_; rintro e w' ⟨rfl, rfl⟩)
      go_ret
      exact ⟨rfl, rfl⟩
    · have hvb : (v == -1) = false := by simpa using hv
      have HE : Hid (mayB chans sites codes length (2, v) = belowB v chans) := Lib.hid (by simp [mayB, hvb])
      clear hv
      go_wp2_with (go_at_call 56; refine (below_any _ _ _).mono ?_; rintro e w' ⟨rfl, rfl⟩)
      go_ret
      exact ⟨ret_v (by rw [HE.out]; rfl), rfl⟩
  · go_wp2_with fail
    go_ret
    exact ⟨rfl, rfl⟩
  · go_wp2_with (go_at_call 56; refine (below_any _ _ _).mono ?_; rintro e w' ⟨rfl, rfl⟩)
    go_ret
    exact ⟨rfl, rfl⟩
  · go_wp2_with (go_at_call 56; refine (below_any _ _ _).mono ?_; rintro e w' ⟨rfl, rfl⟩)
    go_ret
    exact ⟨rfl, rfl⟩
  · go_wp2_with (go_at_call 56; refine (below_any _ _ _).mono ?_; rintro e w' ⟨rfl, rfl⟩)
    go_ret
    exact ⟨rfl, rfl⟩
end

theorem boxed_abides {β : Type} (B : Nat) (t : TypeId) (f : β → Value) (m : Nat) : OwnFrom m (fun (s : β) W => Boxed W B t (f s)) := blk_abides B t (fun s => #[f s]) (0, 0) m
theorem check_end (w W : World) (D : Nat) (T : Array Value) (x : In) (chans sites codes length r : Int) (hr : r = checkE x chans sites codes length) (h2 : T[10]?.getD undef = .int .i64 r) (hB : Below w.heap.size w W) (hw : w.heap.size ≤ D) (hK : W.heap[D]? = some (.deferred (some []))) :
    bodyPostM Fence.wide 4 Try.prog Try.f48 (fun e w' => e = .returned (.int .i64 (checkE x chans sites codes length)) ∧ Below w.heap.size w w') .ret
      { tmps := T, defers := [{ target := Target.collected D, args := #[] }] } W := by
  refine ⟨by simp, .inl ⟨_, _, rfl, run_takeDeferred hK, ?_⟩⟩
  refine ⟨.int .i64 r, ?_, by rw [hr], hB.trans (belowK_b (w := w) (Nat.le_refl _) _ D _ _ hw hK rfl rfl)⟩
  simp [results, Try.f48, go_sem, h2]

set_option maxRecDepth 100000 in
set_option maxHeartbeats 1600000 in
theorem check_any (x : In) (hx : x.ok) (chans sites codes length : Int) (w : World) :
    Calls Try.prog 48 #[x.val, .int .i64 chans, .int .i64 sites, .int .i64 codes, .int .i64 length] w fun e w' => e = .returned (.int .i64 (checkE x chans sites codes length)) ∧ Below w.heap.size w w' := by
  obtain ⟨W0, hW0⟩ : ∃ W0, W0 = (((((w.alloc (.cells #[.int .u8 (x.o : Int), .int .i64 x.a, .int .i64 x.b, .int .i64 x.c, .int .i64 x.k] 77)).alloc (.cells #[.int .i64 chans] 3)).alloc (.cells #[.int .i64 sites] 3)).alloc (.cells #[.int .i64 codes] 3)).alloc (.cells #[.int .i64 length] 3)).alloc
      (.cells #[.func (.func 55) #[] #[.pointer (some ⟨w.heap.size + 1, 0, none⟩), .pointer (some ⟨w.heap.size + 4, 0, none⟩), .pointer (some ⟨w.heap.size + 2, 0, none⟩), .pointer (some ⟨w.heap.size + 3, 0, none⟩)]] 114) := ⟨_, rfl⟩
  have hk := kindOf_any x hx W0
  have hall : InAt W0 w.heap.size x ∧ Chk w W0 (w.heap.size + 5) chans sites codes length := by
    have a0 := inAt_new w x
    obtain ⟨w1, hw1⟩ : ∃ w1, w1 = w.alloc (.cells #[.int .u8 (x.o : Int), .int .i64 x.a, .int .i64 x.b, .int .i64 x.c, .int .i64 x.k] 77) := ⟨_, rfl⟩
    have b1 : But [] w w1 := by rw [hw1]; exact (But.refl [] w).alloc _
    have s1 : w1.heap.size = w.heap.size + 1 := by rw [hw1]; simp
    rw [← hw1] at a0 hW0
    have c1 := Boxed.new w1 3 (.int .i64 chans)
    obtain ⟨w2, hw2⟩ : ∃ w2, w2 = w1.alloc (.cells #[.int .i64 chans] 3) := ⟨_, rfl⟩
    have b2 : But [] w1 w2 := by rw [hw2]; exact (But.refl [] w1).alloc _
    have s2 : w2.heap.size = w.heap.size + 2 := by rw [hw2]; simp [s1]
    rw [← hw2] at c1 hW0
    rw [s1] at c1
    have c2 := Boxed.new w2 3 (.int .i64 sites)
    obtain ⟨w3, hw3⟩ : ∃ w3, w3 = w2.alloc (.cells #[.int .i64 sites] 3) := ⟨_, rfl⟩
    have b3 : But [] w2 w3 := by rw [hw3]; exact (But.refl [] w2).alloc _
    have s3 : w3.heap.size = w.heap.size + 3 := by rw [hw3]; simp [s2]
    rw [← hw3] at c2 hW0
    rw [s2] at c2
    have c3 := Boxed.new w3 3 (.int .i64 codes)
    obtain ⟨w4, hw4⟩ : ∃ w4, w4 = w3.alloc (.cells #[.int .i64 codes] 3) := ⟨_, rfl⟩
    have b4 : But [] w3 w4 := by rw [hw4]; exact (But.refl [] w3).alloc _
    have s4 : w4.heap.size = w.heap.size + 4 := by rw [hw4]; simp [s3]
    rw [← hw4] at c3 hW0
    rw [s3] at c3
    have c4 := Boxed.new w4 3 (.int .i64 length)
    obtain ⟨w5, hw5⟩ : ∃ w5, w5 = w4.alloc (.cells #[.int .i64 length] 3) := ⟨_, rfl⟩
    have b5 : But [] w4 w5 := by rw [hw5]; exact (But.refl [] w4).alloc _
    have s5 : w5.heap.size = w.heap.size + 5 := by rw [hw5]; simp [s4]
    rw [← hw5] at c4 hW0
    rw [s4] at c4
    have c5 := Boxed.new w5 114 (.func (.func 55) #[] #[.pointer (some ⟨w.heap.size + 1, 0, none⟩), .pointer (some ⟨w.heap.size + 4, 0, none⟩), .pointer (some ⟨w.heap.size + 2, 0, none⟩), .pointer (some ⟨w.heap.size + 3, 0, none⟩)])
    rw [← hW0, s5] at c5
    have b6 : But [] w5 W0 := by rw [hW0]; exact (But.refl [] w5).alloc _
    have b56 := b5.next b6
    have b46 := b4.next b56
    have b36 := b3.next b46
    have b26 := b2.next b36
    exact ⟨a0.of_block (b26.block _ a0.lt (by simp)), (b36.block _ (Boxed.lt c1) (by simp)).trans c1, (b46.block _ (Boxed.lt c2) (by simp)).trans c2, (b56.block _ (Boxed.lt c3) (by simp)).trans c3, (b6.block _ (Boxed.lt c4) (by simp)).trans c4, c5, (b1.next b26).below (Nat.le_refl _) (by simp)⟩
  obtain ⟨hbox, hchk⟩ := hall
  have x0 := hbox.c0
  have x1 := hbox.c1
  have x2 := hbox.c2
  have x3 := hbox.c3
  have x4 := hbox.c4
  have hW5 := hchk.f.lt
  unfold In.val at hk ⊢
  rw [hW0] at x0 x1 x2 x3 x4 hk
  refine (callsIn_wide (n := 4)).1 ?_
  refine callsIn_of_wp_marks Try.func48 rfl trivial ?_ rfl
  simp only [Try.ntmps48, List.size_toArray, List.length_cons, List.length_nil, Nat.reduceAdd, Nat.reduceSub, Array.replicate_succ, Array.replicate_zero, List.push_toArray, List.append_toArray, List.nil_append, List.cons_append]
  refine wpIn_wide.2 ?_
  go_wp2_with fail
  refine hk.mono ?_
  rw [← hW0]
  rintro e wk ⟨kv, rfl, ⟨sl, rfl, hrow⟩, hbk⟩
  have hsl : ∃ a n c, sl = .slice a n c := by
    rcases hrow with ⟨_, rfl⟩ | ⟨b, rfl, _⟩ <;> exact ⟨_, _, _, rfl⟩
  obtain ⟨ka, kn, kc, rfl⟩ := hsl
  obtain ⟨W4, hW4⟩ : ∃ W4, W4 = (wk.alloc (.cells #[.string ⟨(wordL x.o).toArray⟩, .slice ka kn kc] 117)).alloc (.cells #[.bool (okI x)] 4) := ⟨_, rfl⟩
  have hb4 : But [] wk W4 := by rw [hW4]; exact ((But.refl [] wk).alloc _).alloc _
  have hb04 : But [] W0 W4 := (But.of_below hbk []).next hb4
  have hkd : Two W4 wk.heap.size 117 (.string ⟨(wordL x.o).toArray⟩) (.slice ka kn kc) := by rw [hW4]; exact (two_new wk _ _ _).alloc _
  have his : Boxed W4 (wk.heap.size + 1) 4 (.bool (okI x)) := by
    rw [hW4]
    have := Boxed.new (wk.alloc (.cells #[.string ⟨(wordL x.o).toArray⟩, .slice ka kn kc] 117)) 4 (.bool (okI x))
    rwa [World.size_alloc] at this
  have hbox4 := hbox.of_block (hb04.block _ hbox.lt (by simp))
  have hchk4 := hchk.fresh hb04
  have hnm := named_any ⟨(wordL x.o).toArray⟩ ka kn kc x W4 (hrow.fresh hb4)
  have hwk : w.heap.size + 5 < wk.heap.size := by have := hbk.size; omega
  have hI4 : wk.heap.size + 1 < W4.heap.size := Boxed.lt his
  have k0 := hkd.c0
  have k1 := hkd.c1
  have y0 := hbox4.c0
  have y1 := hbox4.c1
  have y2 := hbox4.c2
  have y3 := hbox4.c3
  have y4 := hbox4.c4
  unfold In.val at hnm
  rw [hW4] at k0 k1 y0 y1 y2 y3 y4 hnm
  have H0 := Lib.hid hW0
  clear hW0 x0 x1 x2 x3 x4 hk hbox hchk hbk hW5
  go_wp2_with fail
  refine hnm.mono ?_
  rw [← hW4]
  rintro e Wn ⟨rfl, hN, hszn, hbn⟩
  have hchkn := hchk4.fresh hbn
  have hisn := (hbn.block _ (Boxed.lt his) (by simp)).trans his
  have hn3 := hN.lt
  have hwn : w.heap.size ≤ Wn.heap.size := hchkn.below.size
  obtain ⟨I, hI⟩ : ∃ I, I = wk.heap.size + 1 := ⟨_, rfl⟩
  rw [← hI] at hisn hI4
  have hIw : w.heap.size + 6 < I := by omega
  clear hszn hW4 hb4 hb04 hkd his hbox4 hchk4 hnm k0 k1 y0 y1 y2 y3 y4 hbn hrow hwk
  go_wp2_with fail
  rw [← hI]
  clear hI
  refine (wpIn_wide (n := 4)).1 ?_
  refine wpIn_rangeFunc_ownG rfl (by omega) (gf := 62) (lb := #[.pointer (some ⟨W4.heap.size, 0, none⟩), .pointer (some ⟨W4.heap.size + 3, 0, none⟩)]) rfl trivial (enters_of Try.func62 (by kernel_rfl) rfl)
    (iter_named hx hN) (fun h k => KeepK.trans h k) (fun W l o o' hl ho hc _ => keepK_putObj W l o o' hn3 hl ho hc) (Below.refl _ _) (fun _ => rfl)
    (fun pre W => Boxed W I 4 (.bool ((pre.map (·.1)).foldl (checkStep chans sites codes length) (okI x))) ∧ Chk w W (w.heap.size + 5) chans sites codes length ∧ Nmd W W4.heap.size ⟨(wordL x.o).toArray⟩ (.slice ka kn kc) x)
    (fun _ _ _ => False)
    (OwnFrom.and (boxed_abides I 4 (fun pre : List Nv => .bool ((pre.map (·.1)).foldl (checkStep chans sites codes length) (okI x))) _) (OwnFrom.and (chk_abides _ hwn) (nmd_abides _ _ _ _ _)))
    (fun _ _ _ _ _ hs _ _ => hs)
    ⟨hisn, hchkn, hN⟩ ?a1 ?assign ?body ?done ?stop
  case assign =>
    intro l p W K hK
    gi_wp2
    exact hK
  case body =>
    rintro l pre p W ⟨hi, hc, hN⟩ hlt
    obtain ⟨b, hb⟩ : ∃ b, b = (pre.map (·.1)).foldl (checkStep chans sites codes length) (okI x) := ⟨_, rfl⟩
    have HY : Hid (((pre ++ [p]).map (·.1)).foldl (checkStep chans sites codes length) (okI x) = (b && mayB chans sites codes length p.1)) := Lib.hid (by rw [List.map_append, List.foldl_append, ← hb]; rfl)
    rw [← hb] at hi
    clear hb
    have hfin : ∀ d : Bool, d = (b && mayB chans sites codes length p.1) → KeepsFrom Wn.heap.size W (W.setCell ⟨I, 0, none⟩ (.bool d)) ∧ KeepK W4.heap.size W (W.setCell ⟨I, 0, none⟩ (.bool d)) ∧ Boxed (W.setCell ⟨I, 0, none⟩ (.bool d)) I 4 (.bool (((pre ++ [p]).map (·.1)).foldl (checkStep chans sites codes length) (okI x))) ∧
        Chk w (W.setCell ⟨I, 0, none⟩ (.bool d)) (w.heap.size + 5) chans sites codes length ∧ Nmd (W.setCell ⟨I, 0, none⟩ (.bool d)) W4.heap.size ⟨(wordL x.o).toArray⟩ (.slice ka kn kc) x := by
      rintro d rfl
      have hbt : But [I] W (W.setCell ⟨I, 0, none⟩ (.bool (b && mayB chans sites codes length p.1))) := (But.refl [I] W).set (p := ⟨I, 0, none⟩) (.inl (by simp)) _
      have hnm := not_in_type hi (by decide)
      exact ⟨keepsFrom_but hbt (by simp; omega), hN.keeps hbt (by simp; omega) (by simp; omega) (by simp; omega) hnm, by rw [HY.out]; exact hi.set _, hc.but hbt (by simp; omega), hN.but hbt (by simp; omega) (by simp; omega) (by simp; omega) hnm⟩
    have i0 := hi.cell
    have i1 := hi.frozen
    have f0 := hc.f.cell
    have hm := may_any p.1 p.2.1 hc
    cases b with
    | false =>
      gi_wp2_with fail
      refine ⟨fun _ h => (by cases h), ?_⟩
      gi_wp2
      exact hfin _ rfl
    | true =>
      generalize mayB chans sites codes length p.1 = d at hm hfin
      gi_wp2_with (refine ⟨trivial, ?_⟩; gi_at_call 55; refine (callsIn_wide.2 hm).mono ?_; rintro e wd ⟨rfl, rfl⟩)
      exact hfin _ rfl
  case done =>
    rintro D xs W hD hxs ⟨hi, hc, hN⟩ hK
    have HX : Hid ((xs.map (·.1)).foldl (checkStep chans sites codes length) (okI x) = checkB x chans sites codes length) := Lib.hid (by rw [show xs = _ from hxs, nvs_map]; rfl)
    rw [HX.out] at hi
    have i0 := hi.cell
    have hB := hc.below
    clear hxs
    cases hcb : checkB x chans sites codes length with
    | false =>
      have HE : Hid (checkE x chans sites codes length = 2) := Lib.hid (by unfold checkE; rw [hcb]; rfl)
      rw [hcb] at i0
      clear hcb
      go_wp2_with fail
      exact check_end w W D _ x _ _ _ _ _ HE.out.symm rfl hB (by omega) hK
    | true =>
      have HE : Hid (checkE x chans sites codes length = 0) := Lib.hid (by unfold checkE; rw [hcb]; rfl)
      rw [hcb] at i0
      clear hcb
      go_wp2_with fail
      exact check_end w W D _ x _ _ _ _ _ HE.out.symm rfl hB (by omega) hK
  case stop =>
    rintro D c pre W _ _ h _
    exact h.elim
end Go.Proofs.Ytamkmmpockmpfaa
