/-
  ModelMoves: its walks, part 42: DTwo DAliveP DPlaEq DAlive DSlow.
-/
import Derived.BigQuiet
import Derived.Test.YtdijhgaaeifbfaaGreatQ00
import Derived.Test.YtdijhgaaeifbfaaGreatQ06
import Derived.Test.YtdijhgaaeifbfaaGreatQ10
import Derived.Test.YtdijhgaaeifbfaaGreatQ24
import Derived.Test.YtdijhgaaeifbfaaGreatQ39
import Derived.Test.YtdijhgaaeifbfaaGreatQ41
set_option maxRecDepth 100000
set_option maxHeartbeats 12800000
namespace Go.Proofs.YtdijhgaaeifbfaaGreat.Mdl
open Go.RowKit
open Mch (below1 below_nx)
def twoP : Prg := ⟨[0], [[⟨9, 0, 0, 0, 1⟩, ⟨5, 0, 0, 0, 0⟩, ⟨10, 0, 0, 0, 0⟩], [⟨6, 1, 2, 0, 0⟩, ⟨10, 0, 0, 0, 0⟩]], []⟩
theorem two_chk : checkW twoP = none := by decide
theorem two_small : Small twoP := ⟨by decide, by decide, by decide, by decide, by decide⟩
theorem ins_fit {o : Nat} {a b c k : Int} (ho : o < 256) (ha : 0 <= a /\ a <= 9) (hb : 0 <= b /\ b <= 9) (hc : 0 <= c /\ c <= 9) (hk : 0 <= k /\ k <= 9) : (In.mk o a b c k).ok :=
  ⟨ho, ⟨by show (-9223372036854775808 : Int) <= a; omega, by show a <= 9223372036854775807; omega⟩, ⟨by show (-9223372036854775808 : Int) <= b; omega, by show b <= 9223372036854775807; omega⟩, ⟨by show (-9223372036854775808 : Int) <= c; omega, by show c <= 9223372036854775807; omega⟩, ⟨by show (-9223372036854775808 : Int) <= k; omega, by show k <= 9223372036854775807; omega⟩⟩
theorem two_fit : Fit twoP := by
  refine ⟨?_, ?_, ?_⟩
  · intro x hx
    simp only [twoP, List.mem_singleton] at hx
    subst hx; exact i64_zero
  · intro c hc x hx
    simp only [twoP, List.mem_cons, List.not_mem_nil, or_false] at hc
    rcases hc with rfl | rfl
    · simp only [List.mem_cons, List.not_mem_nil, or_false] at hx
      rcases hx with rfl | rfl | rfl <;> exact ins_fit (by decide) (by decide) (by decide) (by decide) (by decide)
    · simp only [List.mem_cons, List.not_mem_nil, or_false] at hx
      rcases hx with rfl | rfl <;> exact ins_fit (by decide) (by decide) (by decide) (by decide) (by decide)
  · intro s hs; simp [twoP] at hs
theorem owns_row {W : World} {r n size base : Nat} {ty : TypeId} {cs : Array Value} (h : Blk W r ty cs) (hs : cs.size = n * size) (hn : 0 < n) (hm : n <= 100) (hb : base <= r) : W.ownsRow base ty size (.slice (some ⟨r, 0, none⟩) n n) n cs.toList := by
  refine ⟨by simp [hs], .inr ⟨r, n, cs, rfl, hb, h, Nat.le_refl _, by unfold maxLen; omega, hs, ?_⟩⟩
  rw [List.take_of_length_le (by simp [hs])]
theorem two_at {W : World} {b r0 r1 r2 r3 : Nat} (h0 : Blk W r0 3 #[.int .i64 0]) (h1 : Blk W r1 88 #[.int .u8 9, .int .i64 0, .int .i64 0, .int .i64 0, .int .i64 1, .int .u8 5, .int .i64 0, .int .i64 0, .int .i64 0, .int .i64 0, .int .u8 10, .int .i64 0, .int .i64 0, .int .i64 0, .int .i64 0]) (h2 : Blk W r2 88 #[.int .u8 6, .int .i64 1, .int .i64 2, .int .i64 0, .int .i64 0, .int .u8 10, .int .i64 0, .int .i64 0, .int .i64 0, .int .i64 0])
    (h3 : Blk W r3 113 #[.slice (some ⟨r1, 0, none⟩) 3 3, .slice (some ⟨r2, 0, none⟩) 2 2]) (b0 : b <= r0) (b1 : b <= r1) (b2 : b <= r2) (b3 : b <= r3) :
    PrgAt b W.heap.size W (.slice (some ⟨r0, 0, none⟩) 1 1) (.slice (some ⟨r3, 0, none⟩) 2 2) (.slice none 0 0) twoP := by
  refine OwnPrg.at ?_ two_fit
  refine ⟨?_, ⟨_, owns_row h3 rfl (by decide) (by decide) b3, ?_⟩, ⟨[], World.ownsRow_nil _ _ _ _, fun k x hx => by simp [twoP] at hx⟩⟩
  · exact owns_row h0 rfl (by decide) (by decide) b0
  · intro k u x hu hx
    have hk : k < 2 := by have := (List.getElem?_eq_some_iff.1 hx).1; simpa [twoP] using this
    have : k = 0 \/ k = 1 := by omega
    rcases this with rfl | rfl
    · simp only [List.getElem?_cons_zero, Option.some.injEq, twoP] at hu hx
      subst hu hx
      exact owns_row h1 rfl (by decide) (by decide) b1
    · simp only [List.getElem?_cons_succ, List.getElem?_cons_zero, Option.some.injEq, twoP] at hu hx
      subst hu hx
      exact owns_row h2 rfl (by decide) (by decide) b2
theorem two_any (w : World) : Calls Tryz.prog 22 #[] w fun e w' => ∃ u1 u2 u3 lo, e = .returned (.agg #[u1, u2, u3]) /\ PrgAt lo w'.heap.size w' u1 u2 u3 twoP /\ Below w.heap.size w w' := by
  go_enter Tryz.func22, Tryz.ntmps22
  go_wp2_with fail
  have hz : (Tryz.prog.info? 26).map (·.size) = some 3 := by kernel_rfl
  obtain ⟨P, hP⟩ : ∃ P : Array Value, P = #[.slice (some ⟨w.heap.size + 1, 0, none⟩) 1 1, .slice (some ⟨w.heap.size + 1 + 1 + 1 + 1, 0, none⟩) 2 2, .slice none 0 0] := ⟨_, rfl⟩
  obtain ⟨w1, hw1⟩ : ∃ w1, w1 = w.alloc (.cells P 26) := ⟨_, rfl⟩
  obtain ⟨w2, hw2⟩ : ∃ w2, w2 = w1.alloc (.cells #[.int .i64 0] 3) := ⟨_, rfl⟩
  obtain ⟨w3, hw3⟩ : ∃ w3, w3 = w2.alloc (.cells #[.int .u8 9, .int .i64 0, .int .i64 0, .int .i64 0, .int .i64 1, .int .u8 5, .int .i64 0, .int .i64 0, .int .i64 0, .int .i64 0, .int .u8 10, .int .i64 0, .int .i64 0, .int .i64 0, .int .i64 0] 88) := ⟨_, rfl⟩
  obtain ⟨w4, hw4⟩ : ∃ w4, w4 = w3.alloc (.cells #[.int .u8 6, .int .i64 1, .int .i64 2, .int .i64 0, .int .i64 0, .int .u8 10, .int .i64 0, .int .i64 0, .int .i64 0, .int .i64 0] 88) := ⟨_, rfl⟩
  obtain ⟨w5, hw5⟩ : ∃ w5, w5 = w4.alloc (.cells #[.slice (some ⟨w.heap.size + 1 + 1, 0, none⟩) 3 3, .slice (some ⟨w.heap.size + 1 + 1 + 1, 0, none⟩) 2 2] 113) := ⟨_, rfl⟩
  have s1 : w1.heap.size = w.heap.size + 1 := by rw [hw1]; exact World.size_alloc _ _
  have s2 : w2.heap.size = w.heap.size + 1 + 1 := by rw [hw2, World.size_alloc, s1]
  have s3 : w3.heap.size = w.heap.size + 1 + 1 + 1 := by rw [hw3, World.size_alloc, s2]
  have s4 : w4.heap.size = w.heap.size + 1 + 1 + 1 + 1 := by rw [hw4, World.size_alloc, s3]
  have b1 : Below w1.heap.size w1 w2 := by rw [hw2]; exact below1 _ _
  have b2 : Below w2.heap.size w2 w3 := by rw [hw3]; exact below1 _ _
  have b3 : Below w3.heap.size w3 w4 := by rw [hw4]; exact below1 _ _
  have b4 : Below w4.heap.size w4 w5 := by rw [hw5]; exact below1 _ _
  have b0 : Below w.heap.size w w1 := by rw [hw1]; exact below1 _ _
  have B0 : Blk w1 w.heap.size 26 P := by rw [hw1]; exact blk_new _ _ _
  have B1 : Blk w2 (w.heap.size + 1) 3 #[.int .i64 0] := by rw [hw2]; exact blk_at s1.symm
  have B2 : Blk w3 (w.heap.size + 1 + 1) 88 #[.int .u8 9, .int .i64 0, .int .i64 0, .int .i64 0, .int .i64 1, .int .u8 5, .int .i64 0, .int .i64 0, .int .i64 0, .int .i64 0, .int .u8 10, .int .i64 0, .int .i64 0, .int .i64 0, .int .i64 0] := by rw [hw3]; exact blk_at s2.symm
  have B3 : Blk w4 (w.heap.size + 1 + 1 + 1) 88 #[.int .u8 6, .int .i64 1, .int .i64 2, .int .i64 0, .int .i64 0, .int .u8 10, .int .i64 0, .int .i64 0, .int .i64 0, .int .i64 0] := by rw [hw4]; exact blk_at s3.symm
  have B4 : Blk w5 (w.heap.size + 1 + 1 + 1 + 1) 113 #[.slice (some ⟨w.heap.size + 1 + 1, 0, none⟩) 3 3, .slice (some ⟨w.heap.size + 1 + 1 + 1, 0, none⟩) 2 2] := by rw [hw5]; exact blk_at s4.symm
  have D3 := Blk.later B3 b4 B3.lt
  have D2 := Blk.later (Blk.later B2 b3 B2.lt) b4 (Blk.later B2 b3 B2.lt).lt
  have D1a := Blk.later B1 b2 B1.lt
  have D1b := Blk.later D1a b3 D1a.lt
  have D1 := Blk.later D1b b4 D1b.lt
  have D0a := Blk.later B0 b1 B0.lt
  have D0b := Blk.later D0a b2 D0a.lt
  have D0c := Blk.later D0b b3 D0b.lt
  have D0 := Blk.later D0c b4 D0c.lt
  have hB : Below w.heap.size w w5 := below_nx (below_nx (below_nx (below_nx b0 b1 (Nat.le_refl _)) b2 (Nat.le_refl _)) b3 (Nat.le_refl _)) b4 (Nat.le_refl _)
  have hA := two_at (b := w.heap.size) D1 D2 D3 B4 (by omega) (by omega) (by omega) (by omega)
  rw [hP] at D0
  have hfin : ∃ u1 u2 u3 lo, Ending.returned (.agg #[.slice (some ⟨w.heap.size + 1, 0, none⟩) 1 1, .slice (some ⟨w.heap.size + 1 + 1 + 1 + 1, 0, none⟩) 2 2, .slice none 0 0]) = .returned (.agg #[u1, u2, u3]) /\ PrgAt lo w5.heap.size w5 u1 u2 u3 twoP /\ Below w.heap.size w w5 := ⟨_, _, _, _, rfl, hA, hB⟩
  rw [<- hP, <- hw1, <- hw2, <- hw3, <- hw4, <- hw5]
  exact bodyPost_ret (v := .agg #[.slice (some ⟨w.heap.size + 1, 0, none⟩) 1 1, .slice (some ⟨w.heap.size + 1 + 1 + 1 + 1, 0, none⟩) 2 2, .slice none 0 0]) (results_cell_row rfl _ _ w.heap.size 26 _ (0, 0) _ rfl D0 Tryz.underlying26 rfl hz) rfl hfin
open Go.RowKit
open Ent (En EnRow okB)
def m0 : Mod := newM twoP 4
def e0 : En := ⟨0, 9, 0, 0, 1, 0, 1, 0, 0, 0, false, 0, 0⟩
def e1 : En := ⟨3, 9, 0, 0, 1, 0, 1, 0, 0, 0, false, 0, 0⟩
def e2 : En := ⟨0, 8, 0, 0, 0, 0, 0, 0, 0, 0, false, 0, 0⟩
def e3 : En := ⟨0, 3, 0, 1, 0, 0, -1, -1, 0, 0, false, 0, 0⟩
def e4 : En := ⟨0, 10, 0, 1, 0, 0, 0, 0, 0, 0, false, 0, 0⟩
def p5 : Pla := ⟨1, ⟨1, 1, 0, 0, 1, 0, 0, 0, 0, 0⟩⟩
theorem a_moves : m0.moves 0 = [e0] := by kernel_rfl
def m1 : Mod := m0.apply e1
theorem a_g : m0.applyE e1 = 0 := by kernel_rfl
def m2 : Mod := m1.apply e2
theorem a_h : m1.applyE e2 = 0 := by kernel_rfl
theorem a_b : m2.moves 1 = [e3] := by kernel_rfl
theorem a_i : m2.applyE e4 = 171 := by kernel_rfl
def m3 : Mod := m2.apply e4
theorem a_j : m3.applyE e3 = 0 := by kernel_rfl
def m4 : Mod := m3.apply e3
theorem a_x : (m4.task 1).getD Pla.zero = p5 := by kernel_rfl
theorem a_is : (m4.task 1).isSome = true := by kernel_rfl
theorem a_n : m4.T.length = 2 := by kernel_rfl
theorem i64_neg : Ent.I64b (-1) := by unfold Ent.I64b; omega
theorem i64_sm {n : Nat} (h : n < 100) : Ent.I64b (n : Int) := by unfold Ent.I64b; omega
theorem e1_ok : e1.ok := ⟨i64_sm (n := 3) (by decide), by decide, Ent.i64_zero, Ent.i64_zero, i64_sm (n := 1) (by decide), Ent.i64_zero, i64_sm (n := 1) (by decide), Ent.i64_zero, Ent.i64_zero, Ent.i64_zero, Ent.i64_zero, by decide⟩
theorem e2_ok : e2.ok := ⟨Ent.i64_zero, by decide, Ent.i64_zero, Ent.i64_zero, Ent.i64_zero, Ent.i64_zero, Ent.i64_zero, Ent.i64_zero, Ent.i64_zero, Ent.i64_zero, Ent.i64_zero, by decide⟩
theorem e3_ok : e3.ok := ⟨Ent.i64_zero, by decide, Ent.i64_zero, i64_sm (n := 1) (by decide), Ent.i64_zero, Ent.i64_zero, i64_neg, i64_neg, Ent.i64_zero, Ent.i64_zero, Ent.i64_zero, by decide⟩
theorem e4_ok : e4.ok := ⟨Ent.i64_zero, by decide, Ent.i64_zero, i64_sm (n := 1) (by decide), Ent.i64_zero, Ent.i64_zero, Ent.i64_zero, Ent.i64_zero, Ent.i64_zero, Ent.i64_zero, Ent.i64_zero, by decide⟩
theorem inv0 : Inv m0 := inv_new two_chk two_small two_fit (by decide) (by decide)
def Lies (o : Nat -> Nat) (W : World) (v : Value) (l : List En) : Prop := EnRow W v l /\ ∀ g, v.ownBlock = some g -> o g = 0
theorem Lies.of_new {n : Nat} {o : Nat -> Nat} {W : World} {v : Value} {l : List En} (h : EnNew n W v l) (ho : ∀ k, n <= k -> o k = 0) : Lies o W v l := ⟨h.1, fun g e => ho g (h.2 g e)⟩
theorem Lies.below {o : Nat -> Nat} {W W' : World} {v : Value} {l : List En} (h : Lies o W v l) (hb : Below W.heap.size W W') : Lies o W' v l := ⟨h.1.below hb, h.2⟩
theorem enrow_goes {o o' : Nat -> Nat} {W W' : World} {v : Value} {l : List En} (h : EnRow W v l) (ho : ∀ g, v.ownBlock = some g -> o g = 0) (hG : Goes o o' W W') : EnRow W' v l := by
  obtain ⟨a, c, h1, h2⟩ := h
  refine ⟨a, c, h1, ?_⟩
  rcases h2 with h2 | ⟨b, off, h3, h4, h5⟩
  · exact .inl h2
  · refine .inr ⟨b, off, h3, Nat.lt_of_lt_of_le h4 hG.frm.size, fun k x hk i u hi => ?_⟩
    rw [World.cell?_of_block (hG.frm.block b h4 (fun e => e (ho b (by rw [h1, h3]; rfl))))]
    exact h5 k x hk i u hi
theorem Lies.goes {o o' : Nat -> Nat} {W W' : World} {v : Value} {x : En} {l : List En} (h : Lies o W v (x :: l)) (hG : Goes o o' W W') : Lies o' W' v (x :: l) := by
  refine ⟨enrow_goes h.1 h.2 hG, fun g e => ?_⟩
  obtain ⟨a, c, h1, h2⟩ := h.1
  rcases h2 with h2 | ⟨b, off, h3, h4, _⟩
  · simp at h2
  · have : g = b := by rw [h1, h3] at e; simpa [Value.ownBlock] using e.symm
    rw [this, hG.old b h4]
    exact h.2 b (by rw [h1, h3]; rfl)
theorem eq_run (y x : En) (W : World) : (binOp .eql 32 (enV y) (enV x)).run Tryz.prog W = .ok (.bool (En.eq y x)) W := by
  have u := Tryz.underlying32
  simp [go_sem]
  cases h : En.eq y x with
  | true =>
    obtain rfl := Ent.En.eq_iff.1 h
    simp
  | false =>
    have hne : y ≠ x := fun e => by rw [Ent.En.eq_iff.2 e] at h; cases h
    by_cases q_a : y.a = x.a
    case neg => simp only [if_neg q_a]
    simp only [if_pos q_a]
    by_cases q_k : (y.k : Int) = (x.k : Int)
    case neg => simp only [if_neg q_k]
    simp only [if_pos q_k]
    by_cases q_w : y.w = x.w
    case neg => simp only [if_neg q_w]
    simp only [if_pos q_w]
    by_cases q_t : y.t = x.t
    case neg => simp only [if_neg q_t]
    simp only [if_pos q_t]
    by_cases q_p : y.p = x.p
    case neg => simp only [if_neg q_p]
    simp only [if_pos q_p]
    by_cases q_c : y.c = x.c
    case neg => simp only [if_neg q_c]
    simp only [if_pos q_c]
    by_cases q_b : y.b = x.b
    case neg => simp only [if_neg q_b]
    simp only [if_pos q_b]
    by_cases q_q : y.q = x.q
    case neg => simp only [if_neg q_q]
    simp only [if_pos q_q]
    by_cases q_v : y.v = x.v
    case neg => simp only [if_neg q_v]
    simp only [if_pos q_v]
    by_cases q_u : y.u = x.u
    case neg => simp only [if_neg q_u]
    simp only [if_pos q_u]
    by_cases q_o : y.o = x.o
    case neg => simp only [if_neg q_o]
    simp only [if_pos q_o]
    by_cases q_e : y.e = x.e
    case neg => simp only [if_neg q_e]
    simp only [if_pos q_e]
    by_cases q_s : (y.s : Int) = (x.s : Int)
    case neg => simp only [if_neg q_s]
    simp only [if_pos q_s]
    have r1 : y.k = x.k := by omega
    have r12 : y.s = x.s := by omega
    clear q_k q_s
    exact absurd (by
      cases y; cases x
      simp only at q_a q_w q_t q_p q_c q_b q_q q_v q_u q_o q_e r1 r12
      subst q_a q_w q_t q_p q_c q_b q_q q_v q_u q_o q_e r1 r12
      rfl) hne
open Go.RowKit
attribute [local go_sem] eqRegs
theorem pla_eq (y : Pla) (W : World) : (binOp .eql 52 (plaV y) (plaV y)).run Tryz.prog W = .ok (.bool true) W := by
  have u := Tryz.underlying52
  have v := Tryz.underlying46
  simp [go_sem]
theorem pla_ne (y : Pla) (W : World) : (binOp .neq 52 (plaV y) (plaV y)).run Tryz.prog W = .ok (.bool false) W := by
  have u := Tryz.underlying52
  have v := Tryz.underlying46
  simp [go_sem]
open Go.RowKit
open Ent (En EnRow okB)
open Mch (below1 below_nx owns_slice')
def noP : Prg := ⟨[], [], []⟩
theorem no_chk : checkW noP ≠ none := by decide
theorem no_small : Small noP := ⟨by decide, by decide, by decide, by decide, by decide⟩
theorem no_fit : Fit noP := ⟨fun x hx => by simp [noP] at hx, fun x hx => by simp [noP] at hx, fun x hx => by simp [noP] at hx⟩
theorem no_at (W : World) : PrgAt W.heap.size W.heap.size W (.slice none 0 0) (.slice none 0 0) (.slice none 0 0) noP := by
  refine OwnPrg.at ?_ no_fit
  exact ⟨World.ownsRow_nil _ _ _ _, ⟨[], World.ownsRow_nil _ _ _ _, fun k u x hu hx => by simp [noP] at hx⟩, ⟨[], World.ownsRow_nil _ _ _ _, fun k x hx => by simp [noP] at hx⟩⟩
theorem lies_cells {o : Nat -> Nat} {W : World} {a : Option Addr} {c : Nat} {x : En} {l : List Value} (hx : x.cellsL = l) (h : Lies o W (.slice a 1 c) [x]) :
    ∃ b off, a = some ⟨b, off, none⟩ /\ ∀ i u, l[i]? = some u -> W.cell? ⟨b, off + i, none⟩ = some u := by
  obtain ⟨a', c', h1, h2⟩ := h.1
  simp only [Value.slice.injEq] at h1
  rcases h2 with h2 | ⟨b, off, h3, h4, h5⟩
  · simp at h2
  · exact ⟨b, off, h1.1.trans h3, fun i u hi => by
      have := h5 0 x rfl i u (by rw [hx]; exact hi)
      simpa using this⟩
theorem ve0 : enV e0 = .agg #[.int .i64 0, .int .u8 9, .int .i64 0, .int .i64 0, .int .i64 1, .int .i64 0, .int .i64 1, .int .i64 0, .int .i64 0, .int .i64 0, .bool false, .int .i64 0, .int .u64 0] := by kernel_rfl
theorem ve1 : enV e1 = .agg #[.int .i64 3, .int .u8 9, .int .i64 0, .int .i64 0, .int .i64 1, .int .i64 0, .int .i64 1, .int .i64 0, .int .i64 0, .int .i64 0, .bool false, .int .i64 0, .int .u64 0] := by kernel_rfl
theorem ve2 : enV e2 = .agg #[.int .i64 0, .int .u8 8, .int .i64 0, .int .i64 0, .int .i64 0, .int .i64 0, .int .i64 0, .int .i64 0, .int .i64 0, .int .i64 0, .bool false, .int .i64 0, .int .u64 0] := by kernel_rfl
theorem ve3 : enV e3 = .agg #[.int .i64 0, .int .u8 3, .int .i64 0, .int .i64 1, .int .i64 0, .int .i64 0, .int .i64 (-1), .int .i64 (-1), .int .i64 0, .int .i64 0, .bool false, .int .i64 0, .int .u64 0] := by kernel_rfl
theorem ve4 : enV e4 = .agg #[.int .i64 0, .int .u8 10, .int .i64 0, .int .i64 1, .int .i64 0, .int .i64 0, .int .i64 0, .int .i64 0, .int .i64 0, .int .i64 0, .bool false, .int .i64 0, .int .u64 0] := by kernel_rfl
theorem vl0 : e0.cellsL = [.int .i64 0, .int .u8 9, .int .i64 0, .int .i64 0, .int .i64 1, .int .i64 0, .int .i64 1, .int .i64 0, .int .i64 0, .int .i64 0, .bool false, .int .i64 0, .int .u64 0] := by kernel_rfl
theorem vl3 : e3.cellsL = [.int .i64 0, .int .u8 3, .int .i64 0, .int .i64 1, .int .i64 0, .int .i64 0, .int .i64 (-1), .int .i64 (-1), .int .i64 0, .int .i64 0, .bool false, .int .i64 0, .int .u64 0] := by kernel_rfl
theorem qe0 (W : World) : (binOp .eql 32 (.agg #[.int .i64 0, .int .u8 9, .int .i64 0, .int .i64 0, .int .i64 1, .int .i64 0, .int .i64 1, .int .i64 0, .int .i64 0, .int .i64 0, .bool false, .int .i64 0, .int .u64 0]) (.agg #[.int .i64 0, .int .u8 9, .int .i64 0, .int .i64 0, .int .i64 1, .int .i64 0, .int .i64 1, .int .i64 0, .int .i64 0, .int .i64 0, .bool false, .int .i64 0, .int .u64 0])).run Tryz.prog W = .ok (.bool true) W := by
  have h := eq_run e0 e0 W
  rw [show En.eq e0 e0 = true by kernel_rfl] at h
  rw [<- ve0]; exact h
theorem qe3 (W : World) : (binOp .eql 32 (.agg #[.int .i64 0, .int .u8 3, .int .i64 0, .int .i64 1, .int .i64 0, .int .i64 0, .int .i64 (-1), .int .i64 (-1), .int .i64 0, .int .i64 0, .bool false, .int .i64 0, .int .u64 0]) (.agg #[.int .i64 0, .int .u8 3, .int .i64 0, .int .i64 1, .int .i64 0, .int .i64 0, .int .i64 (-1), .int .i64 (-1), .int .i64 0, .int .i64 0, .bool false, .int .i64 0, .int .u64 0])).run Tryz.prog W = .ok (.bool true) W := by
  have h := eq_run e3 e3 W
  rw [show En.eq e3 e3 = true by kernel_rfl] at h
  rw [<- ve3]; exact h
theorem vp5 : plaV p5 = .agg #[.int .u8 1, .int .i64 1, .int .i64 1, .int .i64 0, .int .i64 0, .int .i64 1, .int .i64 0, .int .i64 0, .int .i64 0, .int .i64 0, .int .i64 0] := by kernel_rfl
theorem qp5 (W : World) : (binOp .eql 52 (.agg #[.int .u8 1, .int .i64 1, .int .i64 1, .int .i64 0, .int .i64 0, .int .i64 1, .int .i64 0, .int .i64 0, .int .i64 0, .int .i64 0, .int .i64 0]) (.agg #[.int .u8 1, .int .i64 1, .int .i64 1, .int .i64 0, .int .i64 0, .int .i64 1, .int .i64 0, .int .i64 0, .int .i64 0, .int .i64 0, .int .i64 0])).run Tryz.prog W = .ok (.bool true) W := by
  have h := pla_eq p5 W
  rw [vp5] at h; exact h
theorem alive_any (w : World) : Calls Tryz.prog 6 #[] w fun e w' => e = .returned (.bool true) /\ Below w.heap.size w w' := by
  go_enter Tryz.func6, Tryz.ntmps6
  go_wp2_with fail
  refine (two_any _).mono ?_
  rintro e w1 ⟨u1, u2, u3, lo, rfl, hP, hb1⟩
  have hn : Calls Tryz.prog 7 #[.agg #[u1, u2, u3], .int .i64 4] w1 (NewPost w1 twoP 4) := new_ok 4 w1 hP two_small two_chk (by decide) (by decide)
  go_wp2_with fail
  refine hn.mono ?_
  clear hn hP
  rintro e w2 ⟨A, rfl, ⟨o0, hM0, hnew⟩, hb2⟩
  have hR2 : Runs w o0 A m0 w2 := ⟨hM0, inv0, below_nx hb1 hb2 (Nat.le_refl _), fun k hk => by have := hnew k hk; have := hb1.size; omega⟩
  clear hM0 hnew hb1 hb2
  have hbad : Calls Tryz.prog 7 #[.agg #[.slice none 0 0, .slice none 0 0, .slice none 0 0], .int .i64 4] w2 _ := new_bad 4 w2 (no_at w2) no_small no_chk
  go_wp2_with fail
  refine hbad.mono ?_
  clear hbad
  rintro e w3 ⟨rfl, hb3⟩
  have hR3 := hR2.below hb3
  clear hR2 hb3
  have hmv : Calls Tryz.prog 11 #[ptrV A, .int .i64 0] w3 _ := mmoves_any 0 w3 hR3.md hR3.inv.sane
  rw [a_moves] at hmv
  go_wp2_with fail
  refine hmv.mono ?_
  clear hmv
  rintro e w4 ⟨v, rfl, hE, hb4⟩
  have hR4 := hR3.below hb4
  have hL4 : Lies o0 w4 v [e0] := Lies.of_new hE (fun k hk => hR3.md.off hk)
  obtain ⟨a1, c1, rfl⟩ := hE.slice
  simp only [List.length_cons, List.length_nil, Nat.zero_add] at hL4 ⊢
  clear hR3 hb4 hE
  have hap := hR4.apply e1_ok
  rw [ve1, a_g] at hap
  go_wp2_with fail
  refine hap.mono ?_
  clear hap
  rintro e w5 ⟨rfl, o1, hG5, hR5⟩
  have hL5 := hL4.goes hG5
  change Runs w o1 A m1 w5 at hR5
  clear hR4 hL4 hG5
  have hap := hR5.apply e2_ok
  rw [ve2, a_h] at hap
  go_wp2_with fail
  refine hap.mono ?_
  clear hap
  rintro e w6 ⟨rfl, o2, hG6, hR6⟩
  have hL6 := hL5.goes hG6
  change Runs w o2 A m2 w6 at hR6
  clear hR5 hL5 hG6
  have hmv : Calls Tryz.prog 11 #[ptrV A, .int .i64 1] w6 _ := mmoves_any 1 w6 hR6.md hR6.inv.sane
  rw [a_b] at hmv
  go_wp2_with fail
  refine hmv.mono ?_
  clear hmv
  rintro e w7 ⟨v, rfl, hE, hb7⟩
  have hR7 := hR6.below hb7
  have hL7 := hL6.below hb7
  have hK7 : Lies o2 w7 v [e3] := Lies.of_new hE (fun k hk => hR6.md.off hk)
  obtain ⟨a2, c2, rfl⟩ := hE.slice
  simp only [List.length_cons, List.length_nil, Nat.zero_add] at hK7 ⊢
  clear hR6 hb7 hE hL6
  have hap := hR7.apply e4_ok
  rw [ve4, a_i] at hap
  go_wp2_with fail
  refine hap.mono ?_
  clear hap
  rintro e w8 ⟨rfl, o3, hG8, hR8⟩
  have hL8 := hL7.goes hG8
  have hK8 := hK7.goes hG8
  change Runs w o3 A m3 w8 at hR8
  clear hR7 hL7 hK7 hG8
  have hap := hR8.apply e3_ok
  rw [ve3, a_j] at hap
  go_wp2_with fail
  refine hap.mono ?_
  clear hap
  rintro e w9 ⟨rfl, o4, hG9, hR9⟩
  have hL9 := hL8.goes hG9
  have hK9 := hK8.goes hG9
  change Runs w o4 A m4 w9 at hR9
  clear hR8 hL8 hK8 hG9
  have htk : Calls Tryz.prog 15 #[ptrV A, .int .i64 1] w9 _ := task_any 1 w9 hR9.md (by rw [a_n]; decide)
  rw [a_x, a_is, vp5] at htk
  go_wp2_with fail
  refine htk.mono ?_
  clear htk
  rintro e w10 ⟨rfl, hb10⟩
  obtain ⟨w11, hw11⟩ : ∃ w11, w11 = w10.alloc (.cells #[.int .u8 1, .int .i64 1, .int .i64 1, .int .i64 0, .int .i64 0, .int .i64 1, .int .i64 0, .int .i64 0, .int .i64 0, .int .i64 0, .int .i64 0] 52) := ⟨_, rfl⟩
  have hb11 : Below w9.heap.size w9 w11 := by rw [hw11]; exact Mch.Below.al hb10 hb10.size _
  have hX11 : Blk w11 w10.heap.size 52 #[.int .u8 1, .int .i64 1, .int .i64 1, .int .i64 0, .int .i64 0, .int .i64 1, .int .i64 0, .int .i64 0, .int .i64 0, .int .i64 0, .int .i64 0] := by rw [hw11]; exact blk_new w10 _ _
  have hR11 := hR9.below hb11
  have hL11 := hL9.below hb11
  have hK11 := hK9.below hb11
  have hta : Calls Tryz.prog 10 #[ptrV A] w11 _ := tasks_any w11 hR11.md (by rw [a_n]; decide)
  rw [a_n] at hta
  have hbel := hR11.bel
  obtain ⟨b1, f1, rfl, hy⟩ := lies_cells vl0 hL11
  obtain ⟨b2, f2, rfl, hz⟩ := lies_cells vl3 hK11
  have y0 : w11.cell? ⟨b1, f1, none⟩ = some (.int .i64 0) := hy 0 _ rfl
  have y1 : w11.cell? ⟨b1, f1 + 1, none⟩ = some (.int .u8 9) := hy 1 _ rfl
  have y2 : w11.cell? ⟨b1, f1 + 2, none⟩ = some (.int .i64 0) := hy 2 _ rfl
  have y3 : w11.cell? ⟨b1, f1 + 3, none⟩ = some (.int .i64 0) := hy 3 _ rfl
  have y4 : w11.cell? ⟨b1, f1 + 4, none⟩ = some (.int .i64 1) := hy 4 _ rfl
  have y5 : w11.cell? ⟨b1, f1 + 5, none⟩ = some (.int .i64 0) := hy 5 _ rfl
  have y6 : w11.cell? ⟨b1, f1 + 6, none⟩ = some (.int .i64 1) := hy 6 _ rfl
  have y7 : w11.cell? ⟨b1, f1 + 7, none⟩ = some (.int .i64 0) := hy 7 _ rfl
  have y8 : w11.cell? ⟨b1, f1 + 8, none⟩ = some (.int .i64 0) := hy 8 _ rfl
  have y9 : w11.cell? ⟨b1, f1 + 9, none⟩ = some (.int .i64 0) := hy 9 _ rfl
  have y10 : w11.cell? ⟨b1, f1 + 10, none⟩ = some (.bool false) := hy 10 _ rfl
  have y11 : w11.cell? ⟨b1, f1 + 11, none⟩ = some (.int .i64 0) := hy 11 _ rfl
  have y12 : w11.cell? ⟨b1, f1 + 12, none⟩ = some (.int .u64 0) := hy 12 _ rfl
  have z0 : w11.cell? ⟨b2, f2, none⟩ = some (.int .i64 0) := hz 0 _ rfl
  have z1 : w11.cell? ⟨b2, f2 + 1, none⟩ = some (.int .u8 3) := hz 1 _ rfl
  have z2 : w11.cell? ⟨b2, f2 + 2, none⟩ = some (.int .i64 0) := hz 2 _ rfl
  have z3 : w11.cell? ⟨b2, f2 + 3, none⟩ = some (.int .i64 1) := hz 3 _ rfl
  have z4 : w11.cell? ⟨b2, f2 + 4, none⟩ = some (.int .i64 0) := hz 4 _ rfl
  have z5 : w11.cell? ⟨b2, f2 + 5, none⟩ = some (.int .i64 0) := hz 5 _ rfl
  have z6 : w11.cell? ⟨b2, f2 + 6, none⟩ = some (.int .i64 (-1)) := hz 6 _ rfl
  have z7 : w11.cell? ⟨b2, f2 + 7, none⟩ = some (.int .i64 (-1)) := hz 7 _ rfl
  have z8 : w11.cell? ⟨b2, f2 + 8, none⟩ = some (.int .i64 0) := hz 8 _ rfl
  have z9 : w11.cell? ⟨b2, f2 + 9, none⟩ = some (.int .i64 0) := hz 9 _ rfl
  have z10 : w11.cell? ⟨b2, f2 + 10, none⟩ = some (.bool false) := hz 10 _ rfl
  have z11 : w11.cell? ⟨b2, f2 + 11, none⟩ = some (.int .i64 0) := hz 11 _ rfl
  have z12 : w11.cell? ⟨b2, f2 + 12, none⟩ = some (.int .u64 0) := hz 12 _ rfl
  have q1 := qe0
  have q2 := qe3
  have q3 := qp5
  clear hy hz
  clear hR9 hL9 hK9 hR11 hL11 hK11
  have p0 : w11.cell? ⟨w10.heap.size, 0, none⟩ = some (.int .u8 1) := hX11.cell rfl
  have p1 : w11.cell? ⟨w10.heap.size, 1, none⟩ = some (.int .i64 1) := hX11.cell rfl
  have p2 : w11.cell? ⟨w10.heap.size, 2, none⟩ = some (.int .i64 1) := hX11.cell rfl
  have p3 : w11.cell? ⟨w10.heap.size, 3, none⟩ = some (.int .i64 0) := hX11.cell rfl
  have p4 : w11.cell? ⟨w10.heap.size, 4, none⟩ = some (.int .i64 0) := hX11.cell rfl
  have p5 : w11.cell? ⟨w10.heap.size, 5, none⟩ = some (.int .i64 1) := hX11.cell rfl
  have p6 : w11.cell? ⟨w10.heap.size, 6, none⟩ = some (.int .i64 0) := hX11.cell rfl
  have p7 : w11.cell? ⟨w10.heap.size, 7, none⟩ = some (.int .i64 0) := hX11.cell rfl
  have p8 : w11.cell? ⟨w10.heap.size, 8, none⟩ = some (.int .i64 0) := hX11.cell rfl
  have p9 : w11.cell? ⟨w10.heap.size, 9, none⟩ = some (.int .i64 0) := hX11.cell rfl
  have p10 : w11.cell? ⟨w10.heap.size, 10, none⟩ = some (.int .i64 0) := hX11.cell rfl
  clear hX11
  go_upto_region 12 with fail
  rw [<- hw11]
  clear hw11 hb10 hb11
  go_wp2_with fail
  refine hta.mono ?_
  rintro e w12 ⟨rfl, hb12⟩
  have hB := below_nx hbel hb12 (Nat.le_refl _)
  clear hta
  go_wp2_with fail
  go_ret
  exact ⟨rfl, hB⟩
open Go.RowKit
def leavesF (l : List In) : Nat -> Nat -> Bool -> Bool
  | 0, _, is => is
  | n + 1, i, is => match l[i]? with
    | none => is
    | some x => if x.o = 3 \/ x.o = 4 then false else leavesF l n (i + 1) (is || decide (4 < x.o))
theorem leaves_any {lo hi : Nat} {a : Option Addr} {c n : Nat} {l : List In} (f t : Nat) (w : World) (h : CodeAt lo hi w (.slice a n c) l) (ht : t <= l.length) (hl : l.length <= 100000) :
    Calls Tryz.prog 45 #[.slice a n c, .int .i64 (f : Int), .int .i64 (t : Int)] w fun e w' => e = .returned (.bool (leavesF l (t - f) f false)) /\ w' = w := by
  obtain ⟨r, hr⟩ : ∃ r, r = leavesF l (t - f) f false := ⟨_, rfl⟩
  rw [<- hr]
  obtain ⟨a', c', hs⟩ := h.slice
  cases hs
  have HR := Lib.hid hr
  clear hr
  go_enter Tryz.func45, Tryz.ntmps45
  go_wp2_with fail
  go_loop [7, 8] (fun bv iv => ∃ (b : Bool) (i : Nat), bv = .bool b /\ iv = .int .i64 (i : Int) /\ Hid (r = leavesF l (t - i) i b)) (fun _ iv => t - (intOf iv).toNat)
  case atStart => exact ⟨false, f, rfl, rfl, HR⟩
  case round =>
    obtain ⟨b, i, rfl, rfl, HI⟩ := hrel
    by_cases hlt : i < t
    · have hlt' : (i : Int) < (t : Int) := by omega
      have q0 : (0 : Int) <= (i : Int) := by omega
      have q1 : (i : Int) < (l.length : Int) := by omega
      have hw1 : IntKind.i64.wrap ((i : Int) + 1) = (i : Int) + 1 := by rw [IntKind.wrap_i64]; omega
      obtain ⟨B, off, x, rfl, -, -, hx, hok, x0, -⟩ := h.at (show i < l.length by omega)
      have ho := hok.o
      have hstep : leavesF l (t - i) i b = if x.o = 3 \/ x.o = 4 then false else leavesF l (t - (i + 1)) (i + 1) (b || decide (4 < x.o)) := by
        rw [show t - i = (t - (i + 1)) + 1 by omega, leavesF, hx]
      clear hx hok
      by_cases h3 : x.o = 3
      · have e3 : ((x.o : Int) == 3) = true := by rw [h3]; rfl
        have HF : Hid (r = false) := Lib.hid (by rw [HI.out, hstep, if_pos (.inl h3)])
        rw [h3] at x0
        clear hstep h3 ho
        go_wp2_with fail
        go_ret
        rw [HF.out]
        exact ⟨rfl, rfl⟩
      · have e3 : ((x.o : Int) == 3) = false := by simp; omega
        by_cases h4 : x.o = 4
        · have e4 : ((x.o : Int) == 4) = true := by rw [h4]; rfl
          have HF : Hid (r = false) := Lib.hid (by rw [HI.out, hstep, if_pos (.inr h4)])
          rw [h4] at x0
          clear hstep h3 h4 ho e3 e4
          go_wp2_with fail
          go_ret
          rw [HF.out]
          exact ⟨rfl, rfl⟩
        · have e4 : ((x.o : Int) == 4) = false := by simp; omega
          cases b with
          | true =>
            have HF : Hid (r = leavesF l (t - (i + 1)) (i + 1) true) := Lib.hid (by rw [HI.out, hstep, if_neg (by omega)]; rfl)
            clear hstep h3 h4 HI
            go_wp2_with fail
            go_round
            case rel => exact ⟨true, i + 1, rfl, by go_num, HF⟩
            case measure => simp [intOf]; omega
          | false =>
            by_cases h5 : 4 < x.o
            · have d5 : decide ((4 : Int) < (x.o : Int)) = true := by simp; omega
              have d5' : (4 : Int) < (x.o : Int) := by omega
              have HF : Hid (r = leavesF l (t - (i + 1)) (i + 1) true) := Lib.hid (by rw [HI.out, hstep, if_neg (by omega)]; simp [h5])
              clear hstep h3 h4 HI h5
              go_wp2_with fail
              go_round
              case rel => exact ⟨true, i + 1, by first | rfl | simp [d5], by go_num, HF⟩
              case measure => simp [intOf]; omega
            · have d5 : decide ((4 : Int) < (x.o : Int)) = false := by simp; omega
              have d5' : ¬ (4 : Int) < (x.o : Int) := by omega
              have HF : Hid (r = leavesF l (t - (i + 1)) (i + 1) false) := Lib.hid (by rw [HI.out, hstep, if_neg (by omega)]; simp [h5])
              clear hstep h3 h4 HI h5
              go_wp2_with fail
              go_round
              case rel => exact ⟨false, i + 1, by first | rfl | simp [d5], by go_num, HF⟩
              case measure => simp [intOf]; omega
    · have HF : Hid (r = b) := Lib.hid (by rw [HI.out, show t - i = 0 by omega]; rfl)
      have hlt' : ¬ (i : Int) < (t : Int) := by omega
      clear HI
      go_wp2_with fail
      go_ret
      rw [HF.out]
      exact ⟨rfl, rfl⟩
end Go.Proofs.YtdijhgaaeifbfaaGreat.Mdl
